/-
  What opFault and CheckOps of package event do.
  What CheckOps of package event does: it tells the first fault.
-/
import Derived.Test.YtfojmbbhcmeejaaDoorWalkE
import Derived.Test.YtfojmbbhcmeejaaDoorWalkK
import Derived.Test.YtfojmbbhcmeejaaDoorWalkAZ
import Derived.Deep.RegionWith
namespace Go.Proofs.YtfojmbbhcmeejaaDoor
open Go.RowKit

theorem opFaultN_range (l : List Opn) (x : Opn) (h : rangeB x = false) : opFaultN l x = 2 := by simp [opFaultN, h]
theorem opFaultN_kind (l : List Opn) (x : Opn) (h : rangeB x = true) (h2 : kindB x.d = false) : opFaultN l x = 1 := by simp [opFaultN, h, h2]
theorem opFaultN_order (l : List Opn) (x : Opn) (h : rangeB x = true) (h2 : kindB x.d = true) (h3 : orderB l x = false) : opFaultN l x = 10 := by simp [opFaultN, h, h2, h3]
theorem opFaultN_twice (l : List Opn) (x : Opn) (h : rangeB x = true) (h2 : kindB x.d = true) (h3 : orderB l x = true) (h4 : l.any (fun y => shareB y x) = true) : opFaultN l x = 9 := by unfold opFaultN; rw [h, h2, h3, h4]; rfl
theorem opFaultN_rest (l : List Opn) (x : Opn) (h : rangeB x = true) (h2 : kindB x.d = true) (h3 : orderB l x = true) (h4 : l.any (fun y => shareB y x) = false) : opFaultN l x = if l.any (fun y => clashB y x) then 6 else 0 := by unfold opFaultN; rw [h, h2, h3, h4]; rfl


/-- What a new block of an op holds. -/
theorem opAt_new (w : World) (x : Opn) : OpAt (w.alloc (.cells #[.int .i64 x.p, .int .i64 x.k, .int .i64 x.d, .int .i64 x.a, .int .i64 x.b, .int .i64 x.r, .int .i64 x.c, .int .i64 x.e] 48)) w.heap.size 0 x :=
  ⟨by simp, by simp, by simp, by simp, by simp, by simp, by simp, by simp⟩

set_option maxHeartbeats 1000000 in
theorem opFault_range (x : Opn) (v : Value) (w : World) (h : rangeB x = false) :
    Calls Tryd.prog 62 #[v, x.agg] w fun e w' => e = .returned (.int .i64 2) ∧ Below w.heap.size w w' := by
  unfold Opn.agg
  cases h1 : inB x.p x.k x.a x.b x.r
  · go_enter Tryd.func62, Tryd.ntmps62
    go_wp2_with (go_at_call 73; refine (inBounds_any _ _ _ _ _ _).mono ?_; rintro e w' ⟨rfl, rfl⟩)
    go_ret
    exact ⟨rfl, belA (Below.refl _ _) _⟩
  · cases h2 : numB x.c
    · go_enter Tryd.func62, Tryd.ntmps62
      go_wp2_with (first | (go_at_call 73; refine (inBounds_any _ _ _ _ _ _).mono ?_; rintro e w' ⟨rfl, rfl⟩) | (go_at_call 74; refine (isNumber_any _ _).mono ?_; rintro e w' ⟨rfl, rfl⟩))
      go_ret
      exact ⟨rfl, belA (Below.refl _ _) _⟩
    · have h3 : numB x.e = false := by simpa [rangeB, h1, h2] using h
      clear h
      go_enter Tryd.func62, Tryd.ntmps62
      go_wp2_with (first | (go_at_call 73; refine (inBounds_any _ _ _ _ _ _).mono ?_; rintro e w' ⟨rfl, rfl⟩) | (go_at_call 74; refine (isNumber_any _ _).mono ?_; rintro e w' ⟨rfl, rfl⟩))
      go_ret
      exact ⟨rfl, belA (Below.refl _ _) _⟩

set_option maxHeartbeats 2000000 in
theorem opFault_any (l : List Opn) (x : Opn) (b off cap : Nat) (w : World) (hlen : l.length ≤ 60) (hl : OpsAt w b off l) (hb : b < w.heap.size) :
    Calls Tryd.prog 62 #[.slice (some ⟨b, off, none⟩) l.length cap, x.agg] w fun e w' => e = .returned (.int .i64 (opFaultN l x)) ∧ Below w.heap.size w w' := by
  cases hr : rangeB x
  · rw [opFaultN_range l x hr]
    exact opFault_range x _ w hr
  · have hr' := hr
    simp only [rangeB, Bool.and_eq_true] at hr'
    obtain ⟨⟨h1, h2⟩, h3⟩ := hr'
    have HN := opAt_new w x
    have hbel : Below w.heap.size w (w.alloc (.cells #[.int .i64 x.p, .int .i64 x.k, .int .i64 x.d, .int .i64 x.a, .int .i64 x.b, .int .i64 x.r, .int .i64 x.c, .int .i64 x.e] 48)) := belA (Below.refl _ _) _
    have hl1 := hl.below hb hbel
    have hb1 : b < (w.alloc (.cells #[.int .i64 x.p, .int .i64 x.k, .int .i64 x.d, .int .i64 x.a, .int .i64 x.b, .int .i64 x.r, .int .i64 x.c, .int .i64 x.e] 48)).heap.size := by simp; omega
    have hlt : w.heap.size < (w.alloc (.cells #[.int .i64 x.p, .int .i64 x.k, .int .i64 x.d, .int .i64 x.a, .int .i64 x.b, .int .i64 x.r, .int .i64 x.c, .int .i64 x.e] 48)).heap.size := by simp
    cases hk : kindB x.d
    · rw [opFaultN_kind l x hr hk]
      unfold Opn.agg
      clear HN hl1 hb1 hlt hbel
      go_enter Tryd.func62, Tryd.ntmps62
      go_wp2_with (first | (go_at_call 73; refine (inBounds_any _ _ _ _ _ _).mono ?_; rintro e w' ⟨rfl, rfl⟩) | (go_at_call 74; refine (isNumber_any _ _).mono ?_; rintro e w' ⟨rfl, rfl⟩) | (go_at_call 75; refine (isKind_any _ _).mono ?_; rintro e w' ⟨rfl, rfl⟩))
      go_ret
      exact ⟨rfl, belA (Below.refl _ _) _⟩
    · cases ho : orderB l x
      · rw [opFaultN_order l x hr hk ho]
        have HI := inOrder_any l x b off cap _ hlen hl1 hb1
        rw [ho] at HI
        have HI := hideIt HI
        unfold Opn.agg
        clear HN hl1 hb1 hlt hbel
        go_enter Tryd.func62, Tryd.ntmps62
        go_wp2_with (first | (go_at_call 73; refine (inBounds_any _ _ _ _ _ _).mono ?_; rintro e w' ⟨rfl, rfl⟩) | (go_at_call 74; refine (isNumber_any _ _).mono ?_; rintro e w' ⟨rfl, rfl⟩) | (go_at_call 75; refine (isKind_any _ _).mono ?_; rintro e w' ⟨rfl, rfl⟩))
        refine HI.out.mono ?_
        rintro e w1 ⟨rfl, hb2⟩
        go_wp2
        go_ret
        exact ⟨rfl, belJ (belA (Below.refl _ _) _) hb2⟩
      · have HI := inOrder_any l x b off cap _ hlen hl1 hb1
        rw [ho] at HI
        have HI := hideIt HI
        have HN := hideIt HN
        have HL := hideIt hl1
        cases ht : l.any (fun y => shareB y x)
        · obtain ⟨n, hc, HV⟩ : ∃ c : Bool, l.any (fun y => clashB y x) = c ∧ Hid (opFaultN l x = if c then 6 else 0) := ⟨_, rfl, opFaultN_rest l x hr hk ho ht⟩
          rw [HV.out]
          have HT : Hid (l.any (fun y => shareB y x) = false) := ht
          have HC : Hid (l.any (fun y => clashB y x) = n) := hc
          clear ht hl1 hl ho hc
          unfold Opn.agg
          go_enter Tryd.func62, Tryd.ntmps62
          go_wp2_with (first | (go_at_call 73; refine (inBounds_any _ _ _ _ _ _).mono ?_; rintro e w' ⟨rfl, rfl⟩) | (go_at_call 74; refine (isNumber_any _ _).mono ?_; rintro e w' ⟨rfl, rfl⟩) | (go_at_call 75; refine (isKind_any _ _).mono ?_; rintro e w' ⟨rfl, rfl⟩))
          refine HI.out.mono ?_
          rintro e w1 ⟨rfl, hb2⟩
          have hb2' := hb2.size
          go_wp2_with fail
          refine (contains47 l x b off cap w.heap.size w1 hlen (HL.out.below hb1 hb2) (by omega) (HN.out.below hlt hb2)).mono ?_
          rw [HT.out]
          rintro e w2 ⟨rfl, hb3⟩
          have hb3' := hb3.size
          go_wp2_with fail
          refine (contains49 l x b off cap w.heap.size w2 hlen ((HL.out.below hb1 hb2).below (by omega) hb3) (by omega) ((HN.out.below hlt hb2).below (by omega) hb3)).mono ?_
          rw [HC.out]
          rintro e w3 ⟨rfl, hb4⟩
          go_wp2
          all_goals
            go_ret
            refine ⟨?_, belJ (belJ (belJ hbel hb2) hb3) hb4⟩
            simp_all
        · rw [opFaultN_twice l x hr hk ho ht]
          have HT : Hid (l.any (fun y => shareB y x) = true) := ht
          clear ht hl1 hl ho
          unfold Opn.agg
          go_enter Tryd.func62, Tryd.ntmps62
          go_wp2_with (first | (go_at_call 73; refine (inBounds_any _ _ _ _ _ _).mono ?_; rintro e w' ⟨rfl, rfl⟩) | (go_at_call 74; refine (isNumber_any _ _).mono ?_; rintro e w' ⟨rfl, rfl⟩) | (go_at_call 75; refine (isKind_any _ _).mono ?_; rintro e w' ⟨rfl, rfl⟩))
          refine HI.out.mono ?_
          rintro e w1 ⟨rfl, hb2⟩
          have hb2' := hb2.size
          go_wp2_with fail
          refine (contains47 l x b off cap w.heap.size w1 hlen (HL.out.below hb1 hb2) (by omega) (HN.out.below hlt hb2)).mono ?_
          rw [HT.out]
          rintro e w2 ⟨rfl, hb3⟩
          go_wp2
          go_ret
          exact ⟨rfl, belJ (belJ hbel hb2) hb3⟩
end Go.Proofs.YtfojmbbhcmeejaaDoor

namespace Go.Proofs.YtfojmbbhcmeejaaDoor
open Go.RowKit

theorem opFault_at (l : List Opn) (k : Nat) (x : Opn) (b off cap : Nat) (w : World) (hk : k ≤ l.length) (hlen : l.length ≤ 60) (hl : OpsAt w b off l) (hb : b < w.heap.size) :
    Calls Tryd.prog 62 #[.slice (some ⟨b, off, none⟩) k cap, x.agg] w fun e w' => e = .returned (.int .i64 (opFaultN (l.take k) x)) ∧ Below w.heap.size w w' := by
  have h := opFault_any (l.take k) x b off cap w (by simp; omega) (hl.take k) hb
  rwa [List.length_take, Nat.min_eq_left hk] at h

theorem toldV_some {n : Int} (h : n ≠ 0) : toldV n = .iface 23 (.int .i64 n) := by simp [toldV, h]
theorem told4 (l : List Opn) (h : 40 < l.length) : Told l 4 := .inl ⟨h, rfl⟩
theorem told0 (l : List Opn) (h : l.length ≤ 40) (h2 : ∀ j, (h : j < l.length) → opFaultN (l.take j) l[j] = 0) : Told l 0 := .inr (.inl ⟨h, h2, rfl⟩)
theorem toldAt (l : List Opn) (h : l.length ≤ 40) (k : Nat) (hk : k < l.length) (h2 : ∀ j, (hj : j < k) → opFaultN (l.take j) (l[j]'(Nat.lt_trans hj hk)) = 0) (h3 : opFaultN (l.take k) l[k] ≠ 0) : Told l (opFaultN (l.take k) l[k]) := .inr (.inr ⟨h, k, hk, h2, h3, rfl⟩)

/-- So far there is no fault. -/
def FineTo (l : List Opn) (k : Nat) : Prop := ∀ j, (h : j < l.length) → j < k → opFaultN (l.take j) l[j] = 0
theorem fineTo_zero (l : List Opn) : FineTo l 0 := fun j _ h => by omega
theorem FineTo.succ {l : List Opn} {k : Nat} (h : FineTo l k) (hk : k < l.length) (h0 : opFaultN (l.take k) l[k] = 0) : FineTo l (k + 1) := fun j hj hjk => by
  by_cases e : j = k
  · subst e; exact h0
  · exact h j hj (by omega)

set_option maxHeartbeats 1000000 in
theorem checkOps_any (l : List Opn) (b off cap : Nat) (w : World) (hlen : l.length ≤ 60) (hcap : l.length ≤ cap) (hl : OpsAt w b off l) (hb : b < w.heap.size) :
    Calls Tryd.prog 48 #[.slice (some ⟨b, off, none⟩) l.length cap] w fun e w' => ∃ n, e = .returned (toldV n) ∧ Told l n ∧ Below w.heap.size w w' := by
  have HL : Hid (OpsAt w b off l) := hl
  clear hl
  by_cases h40 : 40 < l.length
  · have HT : Hid (Told l 4) := told4 l h40
    go_enter Tryd.func48, Tryd.ntmps48
    go_wp2
    go_ret
    exact ⟨4, rfl, HT.out, Below.refl _ _⟩
  · go_enter Tryd.func48, Tryd.ntmps48
    go_wp2
    go_loopw [12] (fun i wr => ∃ k : Nat, k ≤ l.length ∧ i = .int .i64 k ∧ FineTo l k ∧ Below w.heap.size w wr) (fun i _ => l.length - (intOf i).toNat)
    case atStart => exact ⟨0, Nat.zero_le _, rfl, fineTo_zero l, Below.refl _ _⟩
    case round =>
      obtain ⟨k, hk, rfl, hf, hnx⟩ := hrel
      have HF : Hid (FineTo l k) := hf
      clear hf
      by_cases hkl : k < l.length
      · obtain ⟨c0, c1, c2, c3, c4, c5, c6, c7⟩ := (HL.out k hkl).below hb hnx
        obtain ⟨n, HN⟩ : ∃ n, Hid (opFaultN (l.take k) l[k] = n) := ⟨_, hideIt rfl⟩
        have HS : Hid (∀ W, Below w.heap.size w W → Calls Tryd.prog 62 #[.slice (some ⟨b, off, none⟩) k cap, l[k].agg] W fun e w' => e = .returned (.int .i64 n) ∧ Below W.heap.size W w') := fun W hW => by
          have h := opFault_at l k l[k] b off cap W hk hlen (HL.out.below hb hW) (Nat.lt_of_lt_of_le hb hW.size)
          rwa [HN.out] at h
        by_cases hz : n = 0
        · have hz' : (n != 0) = false := by simp [hz]
          have R1 : Hid (FineTo l (k + 1)) := HF.out.succ hkl (HN.out.trans hz)
          clear hz
          go_wp2_with fail
          go_region_with (go_at_call 62; refine (HS.out _ ?_).mono ?_; (repeat (first | exact hnx | refine Below.drew ?_ | refine belA ?_ _)); rintro e w1 ⟨rfl, hb1⟩)
          all_goals
            have R2 : Hid (Below w.heap.size w w1) := belJ (by repeat (first | exact hnx | refine Below.drew ?_ | refine belA ?_ _)) hb1
            clear hb1
            go_wp2
            go_roundw
            case rel => exact ⟨k + 1, by omega, by go_num, R1.out, R2.out⟩
            case measure => simp [intOf]; omega
        · have hz' : (n != 0) = true := by simp [hz]
          have R1 : Hid (Told l n) := by
            have h := toldAt l (by omega) k hkl (fun j hj => HF.out j (by omega) hj) (by rw [HN.out]; exact hz)
            rw [HN.out] at h
            exact h
          have R3 : Hid (toldV n = .iface 23 (.int .i64 n)) := toldV_some hz
          clear hz
          go_wp2_with fail
          go_region_with (go_at_call 62; refine (HS.out _ ?_).mono ?_; (repeat (first | exact hnx | refine Below.drew ?_ | refine belA ?_ _)); rintro e w1 ⟨rfl, hb1⟩)
          all_goals
            have R2 : Hid (Below w.heap.size w w1) := belJ (by repeat (first | exact hnx | refine Below.drew ?_ | refine belA ?_ _)) hb1
            clear hb1
            go_wp2
            go_ret
            exact ⟨n, by rw [R3.out]; rfl, R1.out, R2.out⟩
      · have R1 : Hid (Told l 0) := told0 l (by omega) (fun j hj => HF.out j hj (by omega))
        go_wp2
        go_ret
        exact ⟨0, by rfl, R1.out, hnx⟩

end Go.Proofs.YtfojmbbhcmeejaaDoor
