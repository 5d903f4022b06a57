/-
  The document's inside and CutCheck, walked.
-/
import Derived.Test.YtmonbkoelehdlaaDoorVrW
import Derived.Test.YtmonbkoelehdlaaDoorPtW
namespace Go.Proofs.YtmonbkoelehdlaaDoor
open Go.RowKit

def rkN (l : List Stp) (i k : Nat) : Nat := (List.range k).countP fun j => (stZ l j).p == (stZ l i).p
theorem rkN_succ (l : List Stp) (i k : Nat) : rkN l i (k + 1) = rkN l i k + if (stZ l k).p = (stZ l i).p then 1 else 0 := by
  unfold rkN
  rw [List.range_succ, List.countP_append]
  by_cases e : (stZ l k).p = (stZ l i).p <;> simp [e]
theorem rkN_le (l : List Stp) (i k : Nat) : rkN l i k ≤ k := by
  unfold rkN
  have := List.countP_le_length (p := fun j => (stZ l j).p == (stZ l i).p) (l := List.range k)
  rwa [List.length_range] at this

set_option maxRecDepth 100000 in
set_option maxHeartbeats 4000000 in
theorem inside_any (l : List Stp) (ok : ClOk l) (a : Option Addr) (cap : Nat) (c : Nat → Int) (i : Nat) (hi : i < l.length) (w : World) (hl : StpsQ w a l) :
    Calls Tryd.prog 36 #[.slice a l.length cap, .int .i64 (i : Nat), vecA c] w fun e w' => e = .returned (.bool (insB l (cutF c) i)) ∧ Below w.heap.size w w' := by
  have h40 := ok.few
  obtain ⟨b, off, rfl, hlt, hst⟩ : ∃ b off, a = some ⟨b, off, none⟩ ∧ b < w.heap.size ∧ StpsAt w b off l := by
    rcases hl with h | h
    · subst h; simp at hi
    · exact h
  have HSt := hideIt hst
  clear hst hl
  have HV0 := hideIt (vecB_new w c 44)
  have HB0 : Hid (Below w.heap.size w (w.alloc (vecO c 44))) := belA (Below.refl _ _) _
  unfold vecO at HV0 HB0
  unfold vecA
  go_enter Tryd.func36, Tryd.ntmps36
  go_wp2
  generalize w.alloc _ = W at HV0 HB0 ⊢
  obtain ⟨p, hp⟩ : ∃ p : Nat, (stZ l i).p = (p : Int) := ⟨(stZ l i).p.toNat, by have := ok.proc i hi; omega⟩
  have hp8 : p < 8 := by have := ok.proc i hi; omega
  go_loopw [7, 8] (fun n v wr => ∃ k : Nat, k ≤ i + 1 ∧ n = .int .i64 (rkN l i k : Nat) ∧ v = .int .i64 k ∧ Below W.heap.size W wr) (fun _ v _ => i + 1 - (intOf v).toNat)
  case atStart => exact ⟨0, by omega, rfl, rfl, Below.refl _ _⟩
  case round =>
    obtain ⟨k, hk, rfl, rfl, hb⟩ := hrel
    have HB := hideIt hb
    clear hb
    have x0 := ((HSt.out i hi).below hlt (belJ HB0.out HB.out)).1
    rw [← stZ_at hi, hp] at x0
    have hrl := rkN_le l i k
    by_cases hki : k ≤ i
    · have y0 := ((HSt.out k (by omega)).below hlt (belJ HB0.out HB.out)).1
      rw [← stZ_at (by omega)] at y0
      have HRk := hideIt (rkN_succ l i k)
      rw [hp] at HRk
      have hkL : k < l.length := by omega
      generalize rkN l i k = m at HRk hrl ⊢
      by_cases e : (stZ l k).p = (p : Int)
      · rw [e] at y0
        have R : Hid (rkN l i (k + 1) = m + 1) := by show rkN l i (k + 1) = m + 1; rw [HRk.out, if_pos e]
        clear e HRk
        go_wp2_with fail
        go_big_quiet (fail)
        go_wp2
        go_roundw
        case rel => exact ⟨k + 1, by omega, by rw [R.out]; go_num, by go_num, below_drewN HB.out _⟩
        case measure => simp [intOf]; omega
      · have e' : ((stZ l k).p == (p : Int)) = false := by simp [e]
        have R : Hid (rkN l i (k + 1) = m) := by show rkN l i (k + 1) = m; rw [HRk.out, if_neg e]; omega
        clear e HRk
        go_wp2_with fail
        go_big_quiet (fail)
        go_wp2
        go_roundw
        case rel => exact ⟨k + 1, by omega, by rw [R.out], by go_num, below_drewN HB.out _⟩
        case measure => simp [intOf]; omega
    · obtain rfl : k = i + 1 := by omega
      have c0 := (HV0.out.below HB.out HV0.out.lt).at' hp8
      have hp8' : (p : Int) < 8 := by omega
      have R : Hid (insB l (cutF c) i = decide ((rkN l i (i + 1) : Int) ≤ c p)) := by
        show insB l (cutF c) i = _
        unfold insB
        rw [hp, cutF_at c hp8]
        rfl
      generalize rkN l i (i + 1) = m at R hrl ⊢
      go_wp2
      all_goals
        go_ret
        exact ⟨ret_bool (by rw [R.out]), by first | exact belJ HB0.out HB.out | exact (belJ HB0.out HB.out).drew⟩

/-- What CutCheck tells. -/
def ccN (l : List Stp) (c : Nat → Int) (n : Int) : Prop := (CutOk l c ∧ n = 0) ∨ (¬ CutOk l c ∧ n = 2)

set_option maxRecDepth 100000 in
set_option maxHeartbeats 4000000 in
theorem cutCheck_any (l : List Stp) (ok : ClOk l) (a : Option Addr) (cap : Nat) (c : Nat → Int) (w : World) (hl : StpsQ w a l) :
    Calls Tryd.prog 21 #[.slice a l.length cap, vecA c] w fun e w' => ∃ n, e = .returned (.int .i64 n) ∧ ccN l c n ∧ Below w.heap.size w w' := by
  have h40 := ok.few
  have HL := hideIt hl
  clear hl
  have HV0 := hideIt ((vecB_new w c 44).alloc (vecO (fun _ => 0) 44))
  have HA0 : Hid (VecB ((w.alloc (vecO c 44)).alloc (vecO (fun _ => 0) 44)) (w.heap.size + 1) (fun _ => 0)) := by
    have := vecB_new (w.alloc (vecO c 44)) (fun _ => 0) 44
    rw [World.size_alloc] at this
    exact this
  have HB0 : Hid (Below w.heap.size w ((w.alloc (vecO c 44)).alloc (vecO (fun _ => 0) 44))) := belA (belA (Below.refl _ _) _) _
  unfold vecO at HV0 HB0 HA0
  unfold vecA
  go_enter Tryd.func21, Tryd.ntmps21
  go_wp2
  generalize (w.alloc _).alloc _ = W at HV0 HB0 HA0 ⊢
  go_loopw [11] (fun v wr => ∃ k : Nat, k ≤ l.length ∧ v = .int .i64 k ∧ VecB wr (w.heap.size + 1) (cntN l (fun _ => true) k) ∧ VecB wr w.heap.size c ∧ Below w.heap.size w wr) (fun v _ => l.length - (intOf v).toNat)
  case atStart => exact ⟨0, Nat.zero_le _, rfl, HA0.out, HV0.out, HB0.out⟩
  case round =>
    clear HA0 HV0 HB0
    obtain ⟨k, hk, rfl, ha, hv, hb⟩ := hrel
    have HA := hideIt ha
    have HV := hideIt hv
    have HB := hideIt hb
    clear ha hv hb
    by_cases hkl : k < l.length
    · obtain ⟨b, off, rfl, hlt, hst⟩ : ∃ b off, a = some ⟨b, off, none⟩ ∧ b < w.heap.size ∧ StpsAt w b off l := by
        rcases HL.out with h | h
        · subst h; simp at hkl
        · exact h
      obtain ⟨x0, x1, x2⟩ := (hst k hkl).below hlt HB.out
      obtain ⟨p, hp⟩ : ∃ p : Nat, (stZ l k).p = (p : Int) := ⟨(stZ l k).p.toNat, by have := ok.proc k hkl; omega⟩
      have hp8 : p < 8 := by have := ok.proc k hkl; omega
      rw [← stZ_at hkl] at x0 x1 x2
      rw [hp] at x0
      have HN := hideIt (cntN_succ l (fun _ => true) k)
      have hnum := cntN_num l (fun _ => true) k p
      obtain ⟨V, HV2⟩ : ∃ V, Hid (cntN l (fun _ => true) k = V) := ⟨_, hideIt rfl⟩
      rw [HV2.out] at HA HN hnum
      generalize (stZ l k).k = xk at x1
      generalize (stZ l k).m = xm at x2
      have c0 := HA.out.at' hp8
      have z0 := HA.out.fz p
      have hGl := HA.out.lt
      have hp8' : (p : Int) < 8 := by omega
      have R1 : Hid (VecB ((wr.setCell ⟨w.heap.size + 1, p, none⟩ (.int .i64 (V p + 1))).alloc (.cells #[.int .i64 (p : Int), .int .i64 xk, .int .i64 xm] 60)) (w.heap.size + 1) (cntN l (fun _ => true) (k + 1))) := ((HA.out.put hp8 (V p + 1)).same fun q _ => by
        rw [HN.out q, hp]
        by_cases e : q = p
        · subst e; simp
        · have : ¬ ((p : Int) = (q : Int)) := by omega
          simp [e, this]).alloc _
      have R2 : Hid (VecB ((wr.setCell ⟨w.heap.size + 1, p, none⟩ (.int .i64 (V p + 1))).alloc (.cells #[.int .i64 (p : Int), .int .i64 xk, .int .i64 xm] 60)) w.heap.size c) := (HV.out.other (p := ⟨w.heap.size + 1, p, none⟩) (by show w.heap.size ≠ w.heap.size + 1; omega) _).alloc _
      have R3 : Hid (Below w.heap.size w ((wr.setCell ⟨w.heap.size + 1, p, none⟩ (.int .i64 (V p + 1))).alloc (.cells #[.int .i64 (p : Int), .int .i64 xk, .int .i64 xm] 60))) := belA (HB.out.setCell (p := ⟨w.heap.size + 1, p, none⟩) (by show w.heap.size ≤ w.heap.size + 1; omega) _) _
      clear hst HL
      go_wp2
      go_roundw
      case rel => exact ⟨k + 1, by omega, by go_num, R1.out, R2.out, R3.out⟩
      case measure => simp [intOf]; omega
    · obtain rfl : k = l.length := by omega
      have HA2 : Hid (VecB wr (w.heap.size + 1) (fun q => (allC l (q : Int) : Int))) := HA.out
      clear HA
      go_wp2
      go_loopw [22] (fun v wz => ∃ k : Nat, k ≤ 8 ∧ v = .int .i64 k ∧ (∀ q, q < k → 0 ≤ c q ∧ c q ≤ allC l (q : Int)) ∧ Below wr.heap.size wr wz) (fun v _ => 8 - (intOf v).toNat)
      case atStart => exact ⟨0, by omega, rfl, fun q hq => absurd hq (by omega), Below.refl _ _⟩
      case round =>
        obtain ⟨k, hk, rfl, hall, hb⟩ := hrel
        have HAll := hideIt hall
        have HBz := hideIt hb
        clear hall hb
        by_cases hk8 : k < 8
        · have c0 := (HV.out.below HBz.out HV.out.lt).at' hk8
          have c1 := (HA2.out.below HBz.out HA2.out.lt).at' hk8
          have hk8' : (k : Int) < 8 := by omega
          obtain ⟨m, hm⟩ : ∃ m, allC l (k : Int) = m := ⟨_, rfl⟩
          rw [hm] at c1
          have HM := hideIt hm
          clear hm
          by_cases h0 : c k < 0
          · have R : Hid (ccN l c 2) := .inr ⟨fun h => by have := (h k hk8).1; omega, rfl⟩
            have h0' : decide (c k < 0) = true := by simp [h0]
            go_wp2_with fail
            go_big_quiet (fail)
            go_wp2
            go_ret
            exact ⟨2, rfl, R.out, below_drewN (belJ HB.out HBz.out) _⟩
          · have h0' : decide (c k < 0) = false := by simp; omega
            by_cases h1 : (m : Int) < c k
            · have R : Hid (ccN l c 2) := .inr ⟨fun h => by have := (h k hk8).2; rw [HM.out] at this; omega, rfl⟩
              go_wp2_with fail
              go_big_quiet (fail)
              go_wp2
              go_ret
              exact ⟨2, rfl, R.out, below_drewN (belJ HB.out HBz.out) _⟩
            · have R : Hid (∀ q, q < k + 1 → 0 ≤ c q ∧ c q ≤ allC l (q : Int)) := fun q hq => by
                by_cases e : q = k
                · subst e; rw [HM.out]; exact ⟨by omega, by omega⟩
                · exact HAll.out q (by omega)
              go_wp2_with fail
              go_big_quiet (fail)
              go_wp2
              go_roundw
              case rel => exact ⟨k + 1, by omega, by go_num, R.out, below_drewN HBz.out _⟩
              case measure => simp [intOf]; omega
        · have R : Hid (ccN l c 0) := .inl ⟨fun p hp => HAll.out p (by omega), rfl⟩
          go_wp2
          go_ret
          exact ⟨0, rfl, R.out, belJ HB.out HBz.out⟩
end Go.Proofs.YtmonbkoelehdlaaDoor
