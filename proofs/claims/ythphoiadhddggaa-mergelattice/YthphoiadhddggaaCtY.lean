/-
  Chapter 15.1, walked: Value of a Count; the statements' own pick and counted.
-/
import Derived.Test.YthphoiadhddggaaCtX
namespace Go.Proofs.Ythphoiadhddggaa
open Go.RowKit

/-- All Ups less all Downs, of the first k places. -/
def valK (c : Nat → Int) : Nat → Int
  | 0 => 0
  | k + 1 => wrap64 (valK c k + wrap64 (c k - c (7 + k)))

set_option maxRecDepth 100000 in
set_option maxHeartbeats 4000000 in
theorem value_any (c : Nat → Int) (w : World) : Calls Try.prog 26 #[nA 14 c] w fun e w' => e = .returned (.int .i64 (valK c 7)) ∧ Below w.heap.size w w' := by
  unfold nA
  have HV0 : Hid (NumB (w.alloc (.cells (nL 14 c).toArray 33)) w.heap.size 14 c) := numB_new w 14 c 33
  have HB : Hid (Below w.heap.size w (w.alloc (.cells (nL 14 c).toArray 33))) := belA (Below.refl _ _) _
  go_enter Try.func26, Try.ntmps26
  go_wp2
  generalize w.alloc _ = W at HV0 HB ⊢
  go_loopw [5, 3] (fun v x wr => ∃ k : Nat, k ≤ 7 ∧ v = .int .i64 k ∧ x = .int .i64 (valK c k) ∧ NumB wr w.heap.size 14 c ∧ Below w.heap.size w wr) (fun v _ _ => 7 - (intOf v).toNat)
  case atStart => exact ⟨0, by omega, rfl, rfl, HV0.out, HB.out⟩
  case round =>
    clear HV0 HB
    obtain ⟨k, hk, rfl, rfl, hv0, hb⟩ := hrel
    have HV0 := hideIt hv0
    have HB := hideIt hb
    clear hv0 hb
    by_cases hk7 : k < 7
    · have hk7' : (k : Int) < 7 := by omega
      have c1 := HV0.out.at (i := k) (by omega)
      have c2 := HV0.out.at (i := 7 + k) (by omega)
      have HN : Hid (valK c (k + 1) = wrap64 (valK c k + wrap64 (c k - c (7 + k)))) := rfl
      generalize valK c k = y at *
      go_upto_region 5 with fail
      go_region
      have HVd := hideIt HV0.out.drew
      have HBd := hideIt HB.out.drew
      generalize wr.drew = W2 at HVd HBd ⊢
      go_wp2
      go_roundw
      case rel => exact ⟨k + 1, by omega, by go_num, by rw [HN.out], HVd.out, HBd.out⟩
      case measure => simp [intOf]; omega
    · have hk7' : ¬ (k : Int) < 7 := by omega
      have HE : Hid (valK c k = valK c 7) := by show _ = _; rw [show k = 7 by omega]
      go_wp2
      go_ret
      exact ⟨ret_int HE.out, HB.out⟩

def pickN (a : Int) (n : Nat) : Nat := (IntKind.u64.wrap a).toNat % n
set_option maxHeartbeats 1000000 in
theorem pick_is (a : Int) (n : Nat) (w : World) (h0 : 0 < n) (hn : n ≤ 1000000) : Calls Try.prog 15 #[.int .i64 a, .int .i64 n] w fun e w' => e = .returned (.int .i64 (pickN a n)) ∧ w' = w := by
  have e1 : IntKind.u64.wrap (n : Int) = (n : Int) := by rw [IntKind.wrap_u64]; omega
  have h64 : 0 ≤ IntKind.u64.wrap a := by rw [IntKind.wrap_u64]; omega
  obtain ⟨m, hm⟩ : ∃ m : Nat, IntKind.u64.wrap a = m := ⟨(IntKind.u64.wrap a).toNat, by omega⟩
  have HPN : Hid (pickN a n = m % n) := hideIt (by unfold pickN; rw [hm, Int.toNat_natCast])
  have hne : (n : Int) ≠ 0 := by omega
  have hne' : ((n : Int) == 0) = false := by simp; omega
  have HM : Hid (wrap64 ((m : Int) % (n : Int)) = ((m % n : Nat) : Int)) := hideIt (by
    have h2 : m % n < n := Nat.mod_lt _ h0
    have h3 : (m : Int) % (n : Int) = ((m % n : Nat) : Int) := by simp
    rw [h3]
    unfold wrap64
    omega)
  go_enter Try.func15, Try.ntmps15
  go_wp2
  go_ret
  exact ⟨ret_int (by rw [HPN.out]; exact HM.out), rfl⟩
theorem pick_any (a : Int) (n : Nat) (w : World) (h0 : 0 < n) (hn : n ≤ 1000000) : Calls Try.prog 15 #[.int .i64 a, .int .i64 n] w fun e w' => ∃ k : Nat, k < n ∧ e = .returned (.int .i64 k) ∧ w' = w :=
  (pick_is a n w h0 hn).mono fun _ _ ⟨he, hw⟩ => ⟨_, Nat.mod_lt _ h0, he, hw⟩

set_option maxRecDepth 100000 in
set_option maxHeartbeats 4000000 in
theorem counted_any (w : World) : Calls Try.prog 10 #[] w fun e w' => e = .returned (.bool true) ∧ Below w.heap.size w w' := by
  have HV0 : Hid (NumB (w.alloc (.cells (nL 14 fun _ => 0).toArray 33)) w.heap.size 14 (fun _ => 0)) := numB_new w 14 (fun _ => 0) 33
  have HB0 : Hid (Below w.heap.size w (w.alloc (.cells (nL 14 fun _ => 0).toArray 33))) := belA (Below.refl _ _) _
  go_enter Try.func10, Try.ntmps10
  go_upto_region 2 with fail
  rw [zero33]
  generalize w.alloc _ = W0 at HV0 HB0 ⊢
  go_wp2_with (refine wpList_loadN rfl 33 (.tmp 1) rfl w.heap.size 14 (fun _ => 0) rfl HV0.out _ Try.underlying33 rfl size33 ?_)
  refine (add_any (fun _ => 0) 1 5 (by omega) (by omega) W0).mono fun e w1 ⟨he, hb⟩ => ?_
  subst he
  unfold nA
  have HB1 := hideIt (HB0.out.trans (hb.mono HB0.out.size))
  have HV1 := hideIt (HV0.out.below hb HV0.out.lt)
  have HVa : Hid (NumB (w1.alloc (.cells (nL 14 fun _ => 0).toArray 33)) w1.heap.size 14 (fun _ => 0)) := numB_new w1 14 (fun _ => 0) 33
  have HVb := hideIt (HV1.out.alloc (.cells (nL 14 fun _ => 0).toArray 33))
  have HBb := hideIt (belA HB1.out (.cells (nL 14 fun _ => 0).toArray 33))
  have hz1 : w.heap.size < w1.heap.size := Nat.lt_of_lt_of_le HV0.out.lt hb.size
  clear hb
  go_upto_region 3 with (first | (rw [zero33]; refine wpList_storeN rfl 33 (.tmp 2) (.tmp 9) rfl w1.heap.size 14 _ (addC (fun _ => 0) 1 5) rfl rfl HVa.out size33 ?_; intro w2 hn2 hg2; go_frame))
  have HA2 := hideIt hn2
  have HV2 : Hid (NumB w2 w.heap.size 14 (fun _ => 0)) := HVb.out.block (hg2.block _ HVb.out.lt (fun e => by have := Option.some.inj e; omega))
  have HB2 : Hid (Below w.heap.size w w2) := HBb.out.grown hg2 HBb.out.size (fun k hk => by cases hk; omega)
  clear hn2 hg2 HVa HVb HBb HV1 HB1 HV0 HB0
  generalize w1.heap.size = m1 at *
  go_wp2_with (refine wpList_loadN rfl 33 (.tmp 1) rfl w.heap.size 14 (fun _ => 0) rfl HV2.out _ Try.underlying33 rfl size33 ?_)
  refine (add_any (fun _ => 0) 2 (-3) (by omega) (by omega) w2).mono fun e w3 ⟨he, hb⟩ => ?_
  subst he
  unfold nA
  have HB3 := hideIt (HB2.out.trans (hb.mono HB2.out.size))
  have HA3 := hideIt (HA2.out.below hb HA2.out.lt)
  have HVa : Hid (NumB (w3.alloc (.cells (nL 14 fun _ => 0).toArray 33)) w3.heap.size 14 (fun _ => 0)) := numB_new w3 14 (fun _ => 0) 33
  have HAb := hideIt (HA3.out.alloc (.cells (nL 14 fun _ => 0).toArray 33))
  have HBb := hideIt (belA HB3.out (.cells (nL 14 fun _ => 0).toArray 33))
  have hz3 : m1 < w3.heap.size := HA3.out.lt
  clear hb
  go_upto_region 4 with (first | (rw [zero33]; refine wpList_storeN rfl 33 (.tmp 4) (.tmp 14) rfl w3.heap.size 14 _ (addC (fun _ => 0) 2 (-3)) rfl rfl HVa.out size33 ?_; intro w4 hn4 hg4; go_frame))
  have HC4 := hideIt hn4
  have HA4 : Hid (NumB w4 m1 14 (addC (fun _ => 0) 1 5)) := HAb.out.block (hg4.block _ HAb.out.lt (fun e => by have := Option.some.inj e; omega))
  have HB4 : Hid (Below w.heap.size w w4) := HBb.out.grown hg4 HBb.out.size (fun k hk => by cases hk; have := HB3.out.size; omega)
  clear hn4 hg4 HVa HAb HBb HA3 HB3 HA2 HV2 HB2
  generalize w3.heap.size = m3 at *
  have qn : ∀ W : World, (binOp .eql 43 .nilIface .nilIface).run Try.prog W = .ok (.bool true) W := fun W => by rfl
  have HVl : Hid (valK (joinC (addC (fun _ => 0) 1 5) (addC (fun _ => 0) 2 (-3))) 7 = 2) := hideIt (by kernel_rfl)
  have HSm : Hid (eqN 14 (addC (fun _ => 0) 1 5) (addC (fun _ => 0) 2 (-3)) = false) := hideIt (by kernel_rfl)
  generalize addC (fun _ => 0) 1 5 = ca at *
  generalize addC (fun _ => 0) 2 (-3) = cb at *
  go_wp2_with (first | (refine wpList_loadG rfl 33 (.tmp 2) rfl m1 14 ca rfl HA4.out _ Try.underlying33 rfl size33 ?_) | (refine wpList_loadG rfl 33 (.tmp 4) rfl m3 14 cb rfl HC4.out _ Try.underlying33 rfl size33 ?_))
  refine (joinC_any ca cb w4).mono fun e w5 ⟨he, hb5⟩ => ?_
  subst he
  unfold nA
  have HB5 := hideIt (HB4.out.trans (hb5.mono HB4.out.size))
  have HA5 := hideIt (HA4.out.below hb5 HA4.out.lt)
  have HC5 := hideIt (HC4.out.below hb5 HC4.out.lt)
  clear hb5 HA4 HC4 HB4
  go_wp2_with fail
  refine (value_any (joinC ca cb) w5).mono fun e w6 ⟨he, hb6⟩ => ?_
  subst he
  rw [HVl.out]
  have HB6 := hideIt (HB5.out.trans (hb6.mono HB5.out.size))
  have HA6 := hideIt (HA5.out.below hb6 HA5.out.lt)
  have HC6 := hideIt (HC5.out.below hb6 HC5.out.lt)
  clear hb6 HA5 HC5 HB5
  go_wp2_with (first | (refine wpList_loadG rfl 33 (.tmp 2) rfl m1 14 ca rfl HA6.out _ Try.underlying33 rfl size33 ?_) | (refine wpList_loadG rfl 33 (.tmp 4) rfl m3 14 cb rfl HC6.out _ Try.underlying33 rfl size33 ?_))
  refine (sameC_any ca cb w6).mono fun e w7 ⟨he, hb7⟩ => ?_
  subst he
  rw [HSm.out]
  have HB7 := hideIt (HB6.out.trans (hb7.mono HB6.out.size))
  clear hb7
  go_wp2
  go_ret
  exact ⟨rfl, HB7.out⟩
end Go.Proofs.Ythphoiadhddggaa
