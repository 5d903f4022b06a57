/-
  Chapter 15.1, walked: Add, Join, Value and Same of a Count.
-/
import Derived.Test.YthphoiadhddggaaDoorCtM
import Derived.Test.YthphoiadhddggaaDoorThZ
namespace Go.Proofs.YthphoiadhddggaaDoor
open Go.RowKit

/-- What Add makes of a Count. -/
def addC (c : Nat → Int) (p : Nat) (n : Int) : Nat → Int := if n < 0 then setN c (7 + p) (wrap64 (c (7 + p) - n)) else setN c p (wrap64 (c p + n))
/-- The greater ones. -/
def joinC (c d : Nat → Int) : Nat → Int := fun i => if c i < d i then d i else c i

set_option maxRecDepth 100000 in
set_option maxHeartbeats 4000000 in
theorem add_bad (c : Nat → Int) (p n : Int) (hbad : ¬ ((0 ≤ p ∧ p < 7) ∧ (-1000000 ≤ n ∧ n ≤ 1000000))) (w : World) :
    Calls Tryd.prog 5 #[nA 14 c, .int .i64 p, .int .i64 n] w fun e w' => e = .returned (.tuple #[nA 14 c, .iface 31 (.int .i64 2)]) ∧ Below w.heap.size w w' := by
  unfold nA
  go_enter Tryd.func5, Tryd.ntmps5
  go_wp2_with fail
  rw [zero33]
  have HV0 : Hid (NumB ((w.alloc (.cells (nL 14 c).toArray 25)).alloc (.cells (nL 14 fun _ => 0).toArray 25)) w.heap.size 14 c) := (numB_new w 14 c 25).alloc _
  have HV1 : Hid (NumB ((w.alloc (.cells (nL 14 c).toArray 25)).alloc (.cells (nL 14 fun _ => 0).toArray 25)) (w.heap.size + 1) 14 (fun _ => 0)) := by
    have := numB_new (w.alloc (.cells (nL 14 c).toArray 25)) 14 (fun _ => 0) 25
    rw [World.size_alloc] at this
    exact this
  have HB : Hid (Below w.heap.size w ((w.alloc (.cells (nL 14 c).toArray 25)).alloc (.cells (nL 14 fun _ => 0).toArray 25))) := belA (belA (Below.refl _ _) _) _
  generalize (w.alloc _).alloc _ = W at HV0 HV1 HB ⊢
  refine (isPlace_any p W).mono fun e w1 ⟨he, hw⟩ => ?_
  subst he w1
  by_cases h1 : 0 ≤ p ∧ p < 7
  · have h2 : ¬ (-1000000 ≤ n ∧ n ≤ 1000000) := fun h => hbad ⟨h1, h⟩
    rw [decide_eq_true h1]
    clear h1 hbad
    go_wp2_with fail
    refine (isNumber_any n W).mono fun e w1 ⟨he, hw⟩ => ?_
    subst he w1
    rw [decide_eq_false h2]
    clear h2
    go_wp2_with (first | (refine wpList_loadN rfl 25 (.tmp 3) rfl w.heap.size 14 c rfl HV0.out _ Tryd.underlying25 rfl size33 ?_) | (refine wpList_storeN rfl 25 (.tmp 6) (.tmp 16) rfl (w.heap.size + 1) 14 _ c rfl rfl HV1.out size33 ?_; intro w2 hn2 hg2; go_frame))
    exact bodyPost_ret (results_two rfl _ _ _ _ rfl (hn2.load Tryd.underlying25 rfl size33)) rfl ⟨rfl, HB.out.grown hg2 HB.out.size (fun k hk => by cases hk; omega)⟩
  · rw [decide_eq_false h1]
    clear h1 hbad
    go_wp2_with (first | (refine wpList_loadN rfl 25 (.tmp 3) rfl w.heap.size 14 c rfl HV0.out _ Tryd.underlying25 rfl size33 ?_) | (refine wpList_storeN rfl 25 (.tmp 6) (.tmp 16) rfl (w.heap.size + 1) 14 _ c rfl rfl HV1.out size33 ?_; intro w2 hn2 hg2; go_frame))
    exact bodyPost_ret (results_two rfl _ _ _ _ rfl (hn2.load Tryd.underlying25 rfl size33)) rfl ⟨rfl, HB.out.grown hg2 HB.out.size (fun k hk => by cases hk; omega)⟩

set_option maxRecDepth 100000 in
set_option maxHeartbeats 4000000 in
theorem add_any (c : Nat → Int) (p : Nat) (n : Int) (h1 : p < 7) (h2 : -1000000 ≤ n ∧ n ≤ 1000000) (w : World) :
    Calls Tryd.prog 5 #[nA 14 c, .int .i64 p, .int .i64 n] w fun e w' => e = .returned (.tuple #[nA 14 (addC c p n), .nilIface]) ∧ Below w.heap.size w w' := by
  unfold nA
  go_enter Tryd.func5, Tryd.ntmps5
  go_wp2_with fail
  rw [zero33]
  have HV0 : Hid (NumB ((w.alloc (.cells (nL 14 c).toArray 25)).alloc (.cells (nL 14 fun _ => 0).toArray 25)) w.heap.size 14 c) := (numB_new w 14 c 25).alloc _
  have HV1 : Hid (NumB ((w.alloc (.cells (nL 14 c).toArray 25)).alloc (.cells (nL 14 fun _ => 0).toArray 25)) (w.heap.size + 1) 14 (fun _ => 0)) := by
    have := numB_new (w.alloc (.cells (nL 14 c).toArray 25)) 14 (fun _ => 0) 25
    rw [World.size_alloc] at this
    exact this
  have HB : Hid (Below w.heap.size w ((w.alloc (.cells (nL 14 c).toArray 25)).alloc (.cells (nL 14 fun _ => 0).toArray 25))) := belA (belA (Below.refl _ _) _) _
  generalize (w.alloc _).alloc _ = W at HV0 HV1 HB ⊢
  refine (isPlace_any (p : Int) W).mono fun e w1 ⟨he, hw⟩ => ?_
  subst he w1
  rw [decide_eq_true (show 0 ≤ (p : Int) ∧ (p : Int) < 7 by omega)]
  go_wp2_with fail
  refine (isNumber_any n W).mono fun e w1 ⟨he, hw⟩ => ?_
  subst he w1
  rw [decide_eq_true h2]
  clear h2
  have h1' : (p : Int) < 7 := by omega
  by_cases hn : n < 0
  · have c1 := HV0.out.at (i := 7 + p) (by omega)
    have f1 := HV0.out.fz (7 + p)
    have HV2 := hideIt (HV0.out.put (7 + p) (wrap64 (c (7 + p) - n)))
    have HV3 : Hid (NumB (W.setCell ⟨w.heap.size, 7 + p, none⟩ (.int .i64 (wrap64 (c (7 + p) - n)))) (w.heap.size + 1) 14 (fun _ => 0)) := HV1.out.other (by simp) _
    have HE : Hid (addC c p n = setN c (7 + p) (wrap64 (c (7 + p) - n))) := by show _ = _; unfold addC; rw [if_pos hn]
    have HB2 : Hid (Below w.heap.size w (W.setCell ⟨w.heap.size, 7 + p, none⟩ (.int .i64 (wrap64 (c (7 + p) - n))))) := HB.out.setCell (by simp) _
    rw [← HE.out] at HV2
    go_wp2_with (first | (refine wpList_loadN rfl 25 (.tmp 3) rfl w.heap.size 14 (addC c p n) rfl HV2.out _ Tryd.underlying25 rfl size33 ?_) | (refine wpList_storeN rfl 25 (.tmp 6) (.tmp 36) rfl (w.heap.size + 1) 14 _ (addC c p n) rfl rfl HV3.out size33 ?_; intro w2 hn2 hg2; go_frame))
    exact bodyPost_ret (results_two rfl _ _ _ _ rfl (hn2.load Tryd.underlying25 rfl size33)) rfl ⟨rfl, HB2.out.grown hg2 HB2.out.size (fun k hk => by cases hk; omega)⟩
  · have c1 := HV0.out.at (i := p) (by omega)
    have f1 := HV0.out.fz p
    have HV2 := hideIt (HV0.out.put p (wrap64 (c p + n)))
    have HV3 : Hid (NumB (W.setCell ⟨w.heap.size, p, none⟩ (.int .i64 (wrap64 (c p + n)))) (w.heap.size + 1) 14 (fun _ => 0)) := HV1.out.other (by simp) _
    have HE : Hid (addC c p n = setN c p (wrap64 (c p + n))) := by show _ = _; unfold addC; rw [if_neg hn]
    have HB2 : Hid (Below w.heap.size w (W.setCell ⟨w.heap.size, p, none⟩ (.int .i64 (wrap64 (c p + n))))) := HB.out.setCell (by simp) _
    rw [← HE.out] at HV2
    go_wp2_with (first | (refine wpList_loadN rfl 25 (.tmp 3) rfl w.heap.size 14 (addC c p n) rfl HV2.out _ Tryd.underlying25 rfl size33 ?_) | (refine wpList_storeN rfl 25 (.tmp 6) (.tmp 36) rfl (w.heap.size + 1) 14 _ (addC c p n) rfl rfl HV3.out size33 ?_; intro w2 hn2 hg2; go_frame))
    exact bodyPost_ret (results_two rfl _ _ _ _ rfl (hn2.load Tryd.underlying25 rfl size33)) rfl ⟨rfl, HB2.out.grown hg2 HB2.out.size (fun k hk => by cases hk; omega)⟩
end Go.Proofs.YthphoiadhddggaaDoor
