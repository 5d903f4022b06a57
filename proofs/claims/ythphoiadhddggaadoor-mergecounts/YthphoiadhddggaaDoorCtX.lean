/-
  Chapter 15.1, walked: Join, Value and Same of a Count.
-/
import Derived.Test.YthphoiadhddggaaDoorCtW
namespace Go.Proofs.YthphoiadhddggaaDoor
open Go.RowKit

/-- So far joined: the first k places. -/
def joinK (c d : Nat → Int) (k : Nat) : Nat → Int := fun i => if i % 7 < k then joinC c d i else c i
theorem joinK_zero (c d : Nat → Int) (i : Nat) : joinK c d 0 i = c i := by simp [joinK]
theorem joinK_seven (c d : Nat → Int) (i : Nat) : joinK c d 7 i = joinC c d i := by simp [joinK, Nat.mod_lt]
theorem joinK_step (c d : Nat → Int) (k : Nat) (hk : k < 7) (i : Nat) (hi : i < 14) : setN (setN (joinK c d k) k (joinC c d k)) (7 + k) (joinC c d (7 + k)) i = joinK c d (k + 1) i := by
  unfold setN joinK
  by_cases h1 : i = 7 + k
  · subst h1
    rw [if_pos rfl, if_pos (by omega)]
  · rw [if_neg h1]
    by_cases h2 : i = k
    · subst h2
      rw [if_pos rfl, if_pos (by omega)]
    · rw [if_neg h2]
      by_cases h3 : i % 7 < k
      · rw [if_pos h3, if_pos (by omega)]
      · rw [if_neg h3, if_neg (by omega)]

set_option maxRecDepth 100000 in
set_option maxHeartbeats 4000000 in
theorem joinC_any (c d : Nat → Int) (w : World) :
    Calls Tryd.prog 7 #[nA 14 c, nA 14 d] w fun e w' => e = .returned (nA 14 (joinC c d)) ∧ Below w.heap.size w w' := by
  unfold nA
  go_enter Tryd.func7, Tryd.ntmps7
  go_upto_region 1 with fail
  rw [zero33]
  have HV0 : Hid (NumB (((w.alloc (.cells (nL 14 c).toArray 25)).alloc (.cells (nL 14 d).toArray 25)).alloc (.cells (nL 14 fun _ => 0).toArray 25)) w.heap.size 14 c) := ((numB_new w 14 c 25).alloc _).alloc _
  have HV1 : Hid (NumB (((w.alloc (.cells (nL 14 c).toArray 25)).alloc (.cells (nL 14 d).toArray 25)).alloc (.cells (nL 14 fun _ => 0).toArray 25)) (w.heap.size + 1) 14 d) := by
    have := (numB_new (w.alloc (.cells (nL 14 c).toArray 25)) 14 d 25).alloc (.cells (nL 14 fun _ => 0).toArray 25)
    rw [World.size_alloc] at this
    exact this
  have HV2 : Hid (NumB (((w.alloc (.cells (nL 14 c).toArray 25)).alloc (.cells (nL 14 d).toArray 25)).alloc (.cells (nL 14 fun _ => 0).toArray 25)) (w.heap.size + 1 + 1) 14 (fun _ => 0)) := by
    have := numB_new ((w.alloc (.cells (nL 14 c).toArray 25)).alloc (.cells (nL 14 d).toArray 25)) 14 (fun _ => 0) 25
    rw [World.size_alloc, World.size_alloc] at this
    exact this
  have HB : Hid (Below w.heap.size w (((w.alloc (.cells (nL 14 c).toArray 25)).alloc (.cells (nL 14 d).toArray 25)).alloc (.cells (nL 14 fun _ => 0).toArray 25))) := belA (belA (belA (Below.refl _ _) _) _) _
  generalize ((w.alloc _).alloc _).alloc _ = W at HV0 HV1 HV2 HB ⊢
  go_wp2
  go_loopw [6] (fun v wr => ∃ k : Nat, k ≤ 7 ∧ v = .int .i64 k ∧ NumB wr w.heap.size 14 (joinK c d k) ∧ NumB wr (w.heap.size + 1) 14 d ∧ NumB wr (w.heap.size + 1 + 1) 14 (fun _ => 0) ∧ Below w.heap.size w wr) (fun v _ => 7 - (intOf v).toNat)
  case atStart => exact ⟨0, by omega, rfl, HV0.out.same fun i _ => (joinK_zero c d i).symm, HV1.out, HV2.out, HB.out⟩
  case round =>
    clear HV0 HV1 HV2 HB
    obtain ⟨k, hk, rfl, hv0, hv1, hv2, hb⟩ := hrel
    have HV0 := hideIt hv0
    have HV1 := hideIt hv1
    have HV2 := hideIt hv2
    have HB := hideIt hb
    clear hv0 hv1 hv2 hb
    by_cases hk7 : k < 7
    · have hk7' : (k : Int) < 7 := by omega
      have c1 := HV0.out.at (i := k) (by omega)
      have c2 := HV1.out.at (i := k) (by omega)
      have f1 := HV0.out.fz k
      have e1 : joinK c d k k = c k := by unfold joinK; rw [if_neg (by omega)]
      rw [e1] at c1
      clear e1
      have HNx : Hid (NumB (wr.setCell ⟨w.heap.size, k, none⟩ (.int .i64 (joinC c d k))) w.heap.size 14 (setN (joinK c d k) k (joinC c d k))) := HV0.out.put k _
      have HNy : Hid (NumB (wr.setCell ⟨w.heap.size, k, none⟩ (.int .i64 (joinC c d k))) (w.heap.size + 1) 14 d) := HV1.out.other (by simp) _
      have HNz : Hid (NumB (wr.setCell ⟨w.heap.size, k, none⟩ (.int .i64 (joinC c d k))) (w.heap.size + 1 + 1) 14 (fun _ => 0)) := HV2.out.other (by simp; omega) _
      have HBx : Hid (Below w.heap.size w (wr.setCell ⟨w.heap.size, k, none⟩ (.int .i64 (joinC c d k))).drew) := (HB.out.setCell (by simp) _).drew
      go_upto_region 4 with fail
      go_region
      change Hid (NumB (wr.setCell ⟨w.heap.size, k, none⟩ (.int .i64 (if c k < d k then d k else c k))).drew _ _ _) at HNx
      change Hid (NumB (wr.setCell ⟨w.heap.size, k, none⟩ (.int .i64 (if c k < d k then d k else c k))).drew _ _ _) at HNy
      change Hid (NumB (wr.setCell ⟨w.heap.size, k, none⟩ (.int .i64 (if c k < d k then d k else c k))).drew _ _ _) at HNz
      change Hid (Below _ _ (wr.setCell ⟨w.heap.size, k, none⟩ (.int .i64 (if c k < d k then d k else c k))).drew) at HBx
      generalize (wr.setCell ⟨w.heap.size, k, none⟩ (.int .i64 (if c k < d k then d k else c k))).drew = W2 at HNx HNy HNz HBx ⊢
      generalize (if c k < d k then d k else c k) = jk
      clear HV0 HV1 HV2 HB c1 c2 f1
      have c1 := HNx.out.at (i := 7 + k) (by omega)
      have c2 := HNy.out.at (i := 7 + k) (by omega)
      have f1 := HNx.out.fz (7 + k)
      have e1 : setN (joinK c d k) k (joinC c d k) (7 + k) = c (7 + k) := by unfold setN joinK; rw [if_neg (by omega), if_neg (by omega)]
      rw [e1] at c1
      clear e1
      have HPx : Hid (NumB (W2.setCell ⟨w.heap.size, 7 + k, none⟩ (.int .i64 (joinC c d (7 + k)))).drew w.heap.size 14 (joinK c d (k + 1))) := ((HNx.out.put (7 + k) (joinC c d (7 + k))).same fun i hi => joinK_step c d k hk7 i hi).drew
      have HPy : Hid (NumB (W2.setCell ⟨w.heap.size, 7 + k, none⟩ (.int .i64 (joinC c d (7 + k)))).drew (w.heap.size + 1) 14 d) := (HNy.out.other (by simp) _).drew
      have HPz : Hid (NumB (W2.setCell ⟨w.heap.size, 7 + k, none⟩ (.int .i64 (joinC c d (7 + k)))).drew (w.heap.size + 1 + 1) 14 (fun _ => 0)) := (HNz.out.other (by simp; omega) _).drew
      have HPb : Hid (Below w.heap.size w (W2.setCell ⟨w.heap.size, 7 + k, none⟩ (.int .i64 (joinC c d (7 + k)))).drew) := (HBx.out.setCell (by simp) _).drew
      clear HNx HNy HNz HBx
      go_upto_region 5 with fail
      go_region
      change Hid (NumB (W2.setCell ⟨w.heap.size, 7 + k, none⟩ (.int .i64 (if c (7 + k) < d (7 + k) then d (7 + k) else c (7 + k)))).drew _ _ _) at HPx
      change Hid (NumB (W2.setCell ⟨w.heap.size, 7 + k, none⟩ (.int .i64 (if c (7 + k) < d (7 + k) then d (7 + k) else c (7 + k)))).drew _ _ _) at HPy
      change Hid (NumB (W2.setCell ⟨w.heap.size, 7 + k, none⟩ (.int .i64 (if c (7 + k) < d (7 + k) then d (7 + k) else c (7 + k)))).drew _ _ _) at HPz
      change Hid (Below _ _ (W2.setCell ⟨w.heap.size, 7 + k, none⟩ (.int .i64 (if c (7 + k) < d (7 + k) then d (7 + k) else c (7 + k)))).drew) at HPb
      generalize (W2.setCell ⟨w.heap.size, 7 + k, none⟩ (.int .i64 (if c (7 + k) < d (7 + k) then d (7 + k) else c (7 + k)))).drew = W3 at HPx HPy HPz HPb ⊢
      generalize (if c (7 + k) < d (7 + k) then d (7 + k) else c (7 + k)) = jl
      clear c1 c2 f1
      go_wp2
      go_roundw
      case rel => exact ⟨k + 1, by omega, by go_num, HPx.out, HPy.out, HPz.out, HPb.out⟩
      case measure => simp [intOf]; omega
    · have hk7' : ¬ (k : Int) < 7 := by omega
      have HE : Hid (NumB wr w.heap.size 14 (joinC c d)) := HV0.out.same fun i _ => by rw [show k = 7 by omega]; exact joinK_seven c d i
      go_wp2_with (first | (refine wpList_loadN rfl 25 (.tmp 2) rfl w.heap.size 14 (joinC c d) rfl HE.out _ Tryd.underlying25 rfl size33 ?_) | (refine wpList_storeN rfl 25 (.tmp 4) (.tmp 34) rfl (w.heap.size + 1 + 1) 14 _ (joinC c d) rfl rfl HV2.out size33 ?_; intro w2 hn2 hg2; go_frame))
      exact bodyPost_ret (results_one rfl _ _ _ _ rfl (hn2.load Tryd.underlying25 rfl size33)) rfl ⟨rfl, HB.out.grown hg2 HB.out.size (fun k hk => by cases hk; omega)⟩

set_option maxRecDepth 100000 in
set_option maxHeartbeats 4000000 in
theorem sameC_any (c d : Nat → Int) (w : World) :
    Calls Tryd.prog 9 #[nA 14 c, nA 14 d] w fun e w' => e = .returned (.bool (eqN 14 c d)) ∧ Below w.heap.size w w' := by
  unfold nA
  have HV0 : Hid (NumB ((w.alloc (.cells (nL 14 c).toArray 25)).alloc (.cells (nL 14 d).toArray 25)) w.heap.size 14 c) := (numB_new w 14 c 25).alloc _
  have HV1 : Hid (NumB ((w.alloc (.cells (nL 14 c).toArray 25)).alloc (.cells (nL 14 d).toArray 25)) (w.heap.size + 1) 14 d) := by
    have := numB_new (w.alloc (.cells (nL 14 c).toArray 25)) 14 d 25
    rw [World.size_alloc] at this
    exact this
  have HB : Hid (Below w.heap.size w ((w.alloc (.cells (nL 14 c).toArray 25)).alloc (.cells (nL 14 d).toArray 25))) := belA (belA (Below.refl _ _) _) _
  have heq := eqCount c d
  unfold nA at heq
  go_enter Tryd.func9, Tryd.ntmps9
  go_upto_region 1 with fail
  generalize (w.alloc _).alloc _ = W at HV0 HV1 HB ⊢
  go_wp2_with (first | (refine wpList_loadN rfl 25 (.tmp 2) rfl w.heap.size 14 c rfl HV0.out _ Tryd.underlying25 rfl size33 ?_) | (refine wpList_loadN rfl 25 (.tmp 3) rfl (w.heap.size + 1) 14 d rfl HV1.out _ Tryd.underlying25 rfl size33 ?_))
  go_ret
  exact ⟨rfl, HB.out⟩
end Go.Proofs.YthphoiadhddggaaDoor
