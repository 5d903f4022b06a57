/-
  The document's Below, walked.
-/
import Derived.Test.YtmonbkoelehdlaaDoorInW
namespace Go.Proofs.YtmonbkoelehdlaaDoor
open Go.RowKit

def okN (l : List Stp) (c : Int → Int) (k i : Nat) : Bool := insB l c k && (List.range i).all fun j => !aheadC l j k || insB l c j
theorem okN_zero (l : List Stp) (c : Int → Int) (k : Nat) : okN l c k 0 = insB l c k := by simp [okN]
theorem okN_succ (l : List Stp) (c : Int → Int) (k i : Nat) : okN l c k (i + 1) = (okN l c k i && (!aheadC l i k || insB l c i)) := by
  unfold okN
  rw [List.range_succ, List.all_append]
  simp [Bool.and_assoc]
theorem okN_all (l : List Stp) (c : Int → Int) (k : Nat) : okN l c k l.length = deepB l c k := rfl
theorem load44 {w : World} {g off : Nat} {v : Nat → Int} (h : VecIn w g off v) : (loadVar 44 ⟨g, off, none⟩).run Tryd.prog w = .ok (vecA v) w :=
  run_loadVar_mid w g off 44 (vecL v) _ h.range Tryd.underlying44 rfl (by kernel_rfl)

set_option maxRecDepth 100000 in
set_option maxHeartbeats 4000000 in
theorem rBelow_any (l : List Stp) (ok : ClOk l) (a : Option Addr) (cap : Nat) (c : Nat → Int) (w : World) (hl : StpsQ w a l) :
    Calls Tryd.prog 24 #[.slice a l.length cap, vecA c] w fun e w' => e = .returned (vecA (belN l c)) ∧ Below w.heap.size w w' := by
  have h40 := ok.few
  have HV0 := hideIt ((vecB_new w c 44).alloc (vecO (fun _ => 0) 44))
  have HR0 : Hid (VecB ((w.alloc (vecO c 44)).alloc (vecO (fun _ => 0) 44)) (w.heap.size + 1) (fun _ => 0)) := by
    have := vecB_new (w.alloc (vecO c 44)) (fun _ => 0) 44
    rw [World.size_alloc] at this
    exact this
  have HB0 : Hid (Below w.heap.size w ((w.alloc (vecO c 44)).alloc (vecO (fun _ => 0) 44))) := belA (belA (Below.refl _ _) _) _
  have HL := hideIt (hl.below HB0.out)
  have HC := hideIt (ahead9_any l a cap ((w.alloc (vecO c 44)).alloc (vecO (fun _ => 0) 44)) (by omega) HL.out)
  clear hl
  unfold vecO at HV0 HB0 HL HC HR0
  unfold vecA
  go_enter Tryd.func24, Tryd.ntmps24
  go_wp2_with fail
  refine HC.out.mono ?_
  intro e w1 hA
  obtain ⟨v, rfl, hm, hb1⟩ := hA.read
  have HM := hideIt hm
  have HV1 := hideIt (HV0.out.below hb1 HV0.out.lt)
  have HR1 := hideIt (HR0.out.below hb1 HR0.out.lt)
  have HL1 := hideIt (HL.out.below hb1)
  have HB1 := hideIt (belJ HB0.out hb1)
  obtain ⟨ma, mc, rfl, hmc, _⟩ := hm
  have HIn : Hid (∀ W j, Below w1.heap.size w1 W → j < l.length → Calls Tryd.prog 36 #[.slice a l.length cap, .int .i64 (j : Nat), vecA c] W fun e w' => e = .returned (.bool (insB l (cutF c) j)) ∧ Below W.heap.size W w') := fun W j hW hj => inside_any l ok a cap c j hj W (HL1.out.below hW)
  unfold vecA at HIn
  have HY : Hid (∀ W, Below w1.heap.size w1 W → VecB W w.heap.size c) := fun W hW => HV1.out.below hW HV1.out.lt
  have HYR : Hid (∀ W, Below w1.heap.size w1 W → VecB W (w.heap.size + 1) (fun _ => 0)) := fun W hW => HR1.out.below hW HR1.out.lt
  have HO0 := hideIt (vecB_new w1 (fun _ => 0) 44)
  have HBx : Hid (Below w1.heap.size w1 (w1.alloc (vecO (fun _ => 0) 44))) := belA (Below.refl _ _) _
  unfold vecO at HO0 HBx
  clear hA hb1 HC HL HV0 HB0 HV1 HR1 HR0
  go_wp2
  generalize w1.alloc _ = W2 at HO0 HBx ⊢
  go_loopw [14] (fun v wr => ∃ k : Nat, k ≤ l.length ∧ v = .int .i64 k ∧ VecB wr w1.heap.size (cntN l (deepB l (cutF c)) k) ∧ Below w1.heap.size w1 wr) (fun v _ => l.length - (intOf v).toNat)
  case atStart => exact ⟨0, Nat.zero_le _, rfl, HO0.out, HBx.out⟩
  case round =>
    clear HO0 HBx
    obtain ⟨k, hk, rfl, ho, hb⟩ := hrel
    have HO := hideIt ho
    have HB := hideIt hb
    clear ho hb
    by_cases hkl : k < l.length
    · obtain ⟨y0, y1, y2, y3, y4, y5, y6, y7⟩ := (HY.out wr HB.out).eight
      have HI1 := hideIt (HIn.out wr k HB.out hkl)
      go_wp2_with fail
      refine HI1.out.mono ?_
      rintro e w2 ⟨rfl, hb2⟩
      have HB2 := hideIt (belJ HB.out hb2)
      have HO2 := hideIt (HO.out.below hb2 HO.out.lt)
      clear y0 y1 y2 y3 y4 y5 y6 y7 hb2 HO HB HI1
      rw [← okN_zero l (cutF c) k]
      go_wp2
      go_loopw [8, 23] (fun x v wr => ∃ i : Nat, i ≤ l.length ∧ x = .bool (okN l (cutF c) k i) ∧ v = .int .i64 i ∧ VecB wr w1.heap.size (cntN l (deepB l (cutF c)) k) ∧ Below w1.heap.size w1 wr) (fun _ v _ => l.length - (intOf v).toNat)
      case atStart => exact ⟨0, Nat.zero_le _, rfl, rfl, HO2.out, HB2.out⟩
      case round =>
        clear HO2 HB2
        obtain ⟨i, hi, rfl, rfl, ho, hb⟩ := hrel
        have HO := hideIt ho
        have HB := hideIt hb
        clear ho hb
        by_cases hil : i < l.length
        · obtain ⟨ma', mc', hv', _, hrd⟩ := HM.out.below HB.out
          simp at hv'
          obtain ⟨rfl, rfl⟩ := hv'
          obtain ⟨g, moff, rr, rfl, e1, e2⟩ := hrd i hil
          have e3 := e2 k hkl
          clear e2 hrd
          obtain ⟨y0, y1, y2, y3, y4, y5, y6, y7⟩ := (HY.out wr HB.out).eight
          have HI1 := hideIt (HIn.out wr i HB.out hil)
          have HN := hideIt (okN_succ l (cutF c) k i)
          generalize okN l (cutF c) k i = x at HN ⊢
          cases x
          · have R : Hid (okN l (cutF c) k (i + 1) = false) := by show okN l (cutF c) k (i + 1) = _; rw [HN.out]; rfl
            go_wp2
            go_roundw
            case rel => exact ⟨i + 1, by omega, by rw [R.out], by go_num, HO.out, HB.out⟩
            case measure => simp [intOf]; omega
          · cases ha : aheadC l i k
            · rw [ha] at e3 HN
              have R : Hid (okN l (cutF c) k (i + 1) = true) := by show okN l (cutF c) k (i + 1) = _; rw [HN.out]; rfl
              clear ha
              go_wp2
              go_roundw
              case rel => exact ⟨i + 1, by omega, by rw [R.out], by go_num, HO.out, HB.out⟩
              case measure => simp [intOf]; omega
            · rw [ha] at e3 HN
              have R : Hid (okN l (cutF c) k (i + 1) = insB l (cutF c) i) := by show okN l (cutF c) k (i + 1) = _; rw [HN.out]; simp
              clear ha
              generalize insB l (cutF c) i = y at R HI1
              go_wp2_with (go_at_call 36; refine HI1.out.mono ?_; rintro e w3 ⟨rfl, hb3⟩)
              go_roundw
              case rel => exact ⟨i + 1, by omega, by rw [R.out], by go_num, HO.out.below hb3 HO.out.lt, belJ HB.out hb3⟩
              case measure => simp [intOf]; omega
        · obtain rfl : i = l.length := by omega
          rw [okN_all]
          have HN := hideIt (cntN_succ l (deepB l (cutF c)) k)
          cases hd : deepB l (cutF c) k
          · have R : Hid (VecB wr w1.heap.size (cntN l (deepB l (cutF c)) (k + 1))) := HO.out.same fun q _ => by rw [HN.out q]; simp [hd]
            clear hd
            go_wp2
            go_roundw
            case rel => exact ⟨k + 1, by omega, by go_num, R.out, HB.out⟩
            case measure => simp [intOf]; omega
          · obtain ⟨b, off, rfl, hlt, hst⟩ : ∃ b off, a = some ⟨b, off, none⟩ ∧ b < w1.heap.size ∧ StpsAt w1 b off l := by
              rcases HL1.out with h | h
              · subst h; simp at hkl
              · exact h
            have x0 := ((hst k hkl).below hlt HB.out).1
            obtain ⟨p, hp⟩ : ∃ p : Nat, (stZ l k).p = (p : Int) := ⟨(stZ l k).p.toNat, by have := ok.proc k hkl; omega⟩
            have hp8 : p < 8 := by have := ok.proc k hkl; omega
            rw [← stZ_at hkl, hp] at x0
            have hnum := cntN_num l (deepB l (cutF c)) k p
            obtain ⟨V, HV2⟩ : ∃ V, Hid (cntN l (deepB l (cutF c)) k = V) := ⟨_, hideIt rfl⟩
            rw [HV2.out] at HO HN hnum
            have c0 := HO.out.at' hp8
            have z0 := HO.out.fz p
            have hp8' : (p : Int) < 8 := by omega
            have R1 : Hid (VecB (wr.setCell ⟨w1.heap.size, p, none⟩ (.int .i64 (V p + 1))) w1.heap.size (cntN l (deepB l (cutF c)) (k + 1))) := (HO.out.put hp8 (V p + 1)).same fun q _ => by
              rw [HN.out q, hp, hd]
              by_cases e : q = p
              · subst e; simp
              · have : ¬ ((p : Int) = (q : Int)) := by omega
                simp [e, this]
            have R2 : Hid (Below w1.heap.size w1 (wr.setCell ⟨w1.heap.size, p, none⟩ (.int .i64 (V p + 1)))) := HB.out.setCell (p := ⟨w1.heap.size, p, none⟩) (Nat.le_refl _) _
            clear hst hd
            go_wp2
            go_roundw
            case rel => exact ⟨k + 1, by omega, by go_num, R1.out, R2.out⟩
            case measure => simp [intOf]; omega
    · obtain rfl : k = l.length := by omega
      have HO2 : Hid (VecB wr w1.heap.size (belN l c)) := HO.out.same fun q _ => rfl
      have hrr := HYR.out wr HB.out
      obtain ⟨x0, x1, x2, x3, x4, x5, x6, x7⟩ := HO2.out.eight
      obtain ⟨z0, z1, z2, z3, z4, z5, z6, z7⟩ := hrr.eight
      have zf := hrr.fz
      have HRr := hideIt hrr
      clear hrr HO
      go_wp2
      refine bodyPost_ret (results_one rfl _ _ _ _ rfl (load44 (HRr.out.store (belN l c)).at_)) rfl ?_
      have hbb := belJ HB1.out HB.out
      exact ⟨rfl, hbb.grown (grown_setCells _ (vecL (belN l c)) 0 _) hbb.size (fun b' hb' => by cases hb'; omega)⟩
end Go.Proofs.YtmonbkoelehdlaaDoor
