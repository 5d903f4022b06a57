/-
  The statement's fact 'led', walked.
-/
import Derived.Test.YtibdchahallbjaaDoorPyW
import Derived.Test.YtibdchahallbjaaDoorAtC
namespace Go.Proofs.YtibdchahallbjaaDoor
open Go.RowKit

def rTwo : List (List Bool) := [[false, true], [false, false]]
theorem rTwo_o : oG rTwo = 0 ∧ oL rTwo = [0, 1] := by decide
theorem rTwo_c : cyG rTwo = 8 ∧ cyL rTwo = [] := by decide

set_option maxRecDepth 100000 in
set_option maxHeartbeats 1000000 in
theorem led_any (w : World) (hg : TypAt w) : Calls Tryd.prog 23 #[] w fun e w' => e = .returned (.bool true) ∧ Below w.heap.size w w' := by
  have HG : Hid (GrQ (((w.alloc (.cells #[.bool false, .bool true] 4)).alloc (.cells #[.bool false, .bool false] 4)).alloc (.cells #[.slice (some ⟨w.heap.size, 0, none⟩) 2 2, .slice (some ⟨w.heap.size + 1, 0, none⟩) 2 2] 43)) (some ⟨w.heap.size + 2, 0, none⟩) rTwo) := by
    have e0 := heap_alloc_new w (.cells #[.bool false, .bool true] 4)
    have e1 := heap_alloc_new (w.alloc (.cells #[.bool false, .bool true] 4)) (.cells #[.bool false, .bool false] 4)
    have e2 := heap_alloc_new ((w.alloc (.cells #[.bool false, .bool true] 4)).alloc (.cells #[.bool false, .bool false] 4)) (.cells #[.slice (some ⟨w.heap.size, 0, none⟩) 2 2, .slice (some ⟨w.heap.size + 1, 0, none⟩) 2 2] 43)
    have s1 : (w.alloc (.cells #[.bool false, .bool true] 4)).heap.size = w.heap.size + 1 := by simp
    have s2 : ((w.alloc (.cells #[.bool false, .bool true] 4)).alloc (.cells #[.bool false, .bool false] 4)).heap.size = w.heap.size + 2 := by simp
    rw [s1] at e1
    rw [s2] at e2
    have e1' := (Below.heap_alloc ((w.alloc (.cells #[.bool false, .bool true] 4)).alloc (.cells #[.bool false, .bool false] 4)) (.cells #[.slice (some ⟨w.heap.size, 0, none⟩) 2 2, .slice (some ⟨w.heap.size + 1, 0, none⟩) 2 2] 43) (w.heap.size + 1) (by simp)).trans e1
    have e0' := (Below.heap_alloc ((w.alloc (.cells #[.bool false, .bool true] 4)).alloc (.cells #[.bool false, .bool false] 4)) (.cells #[.slice (some ⟨w.heap.size, 0, none⟩) 2 2, .slice (some ⟨w.heap.size + 1, 0, none⟩) 2 2] 43) w.heap.size (by rw [s2]; omega)).trans ((Below.heap_alloc (w.alloc (.cells #[.bool false, .bool true] 4)) (.cells #[.bool false, .bool false] 4) w.heap.size (by simp)).trans e0)
    refine .inr ⟨w.heap.size + 2, 0, rfl, lt_of_heap e2, fun i hi => ?_⟩
    match i, hi with
    | 0, _ => exact ⟨_, cell_of_row _ _ _ _ 43 _ e2, _, 2, rfl, Nat.le_refl _, .inr ⟨w.heap.size, 0, rfl, lt_of_heap e0', fun j hj => by
        match j, hj with
        | 0, _ => exact cell_of_row _ _ _ _ 4 _ e0'
        | 1, _ => exact cell_of_row _ _ _ _ 4 _ e0'⟩⟩
    | 1, _ => exact ⟨_, cell_of_row _ _ _ _ 43 _ e2, _, 2, rfl, Nat.le_refl _, .inr ⟨w.heap.size + 1, 0, rfl, lt_of_heap e1', fun j hj => by
        match j, hj with
        | 0, _ => exact cell_of_row _ _ _ _ 4 _ e1'
        | 1, _ => exact cell_of_row _ _ _ _ 4 _ e1'⟩⟩
  have HB0 : Hid (Below w.heap.size w (((w.alloc (.cells #[.bool false, .bool true] 4)).alloc (.cells #[.bool false, .bool false] 4)).alloc (.cells #[.slice (some ⟨w.heap.size, 0, none⟩) 2 2, .slice (some ⟨w.heap.size + 1, 0, none⟩) 2 2] 43))) := belA (belA (belA (Below.refl _ _) _) _) _
  have HT := hideIt hg
  have HO : Hid (∀ W, Below (((w.alloc (.cells #[.bool false, .bool true] 4)).alloc (.cells #[.bool false, .bool false] 4)).alloc (.cells #[.slice (some ⟨w.heap.size, 0, none⟩) 2 2, .slice (some ⟨w.heap.size + 1, 0, none⟩) 2 2] 43)).heap.size (((w.alloc (.cells #[.bool false, .bool true] 4)).alloc (.cells #[.bool false, .bool false] 4)).alloc (.cells #[.slice (some ⟨w.heap.size, 0, none⟩) 2 2, .slice (some ⟨w.heap.size + 1, 0, none⟩) 2 2] 43)) W → GrQ W (some ⟨w.heap.size + 2, 0, none⟩) rTwo) := fun W hW => HG.out.below hW
  clear hg
  go_enter Tryd.func23, Tryd.ntmps23
  go_upto_region 2 with fail
  generalize ((w.alloc _).alloc _).alloc _ = W0 at HG HB0 HO ⊢
  have HC := hideIt (gOrder_any rTwo (some ⟨w.heap.size + 2, 0, none⟩) 2 W0 (by decide) (by decide) HG.out)
  unfold PoTold at HC
  rw [rTwo_o.1, rTwo_o.2] at HC
  have ht0 : toldV 0 = .nilIface := rfl
  have ht8 : toldV 8 = .iface 24 (.int .i64 8) := rfl
  rw [ht0] at HC
  go_wp2_with fail
  refine HC.out.mono ?_
  clear HC
  rintro e w1 ⟨v1, rfl, hrow, hb1⟩
  have HC := hideIt (gCycle_any rTwo (some ⟨w.heap.size + 2, 0, none⟩) 2 w1 (by decide) (by decide) (HO.out w1 hb1))
  unfold PyTold at HC
  rw [rTwo_c.1, rTwo_c.2, ht8] at HC
  have hh := hrow.hasI
  obtain ⟨va, vc, rfl, hvc, hv⟩ := hh
  obtain ⟨g0, o0, rfl, c0⟩ := hv 0 (by decide)
  obtain ⟨_, _, he, c1⟩ := hv 1 (by decide)
  cases he
  have c0' : w1.cell? ⟨g0, o0 + 0, none⟩ = some (.int .i64 0) := c0
  have c1' : w1.cell? ⟨g0, o0 + 1, none⟩ = some (.int .i64 1) := c1
  have HB1 := hideIt (belJ HB0.out hb1)
  clear hv c0 c1 hrow hb1
  have h2l : (natI [0, 1]).length = 2 := rfl
  rw [h2l] at hvc ⊢
  go_wp2_with fail
  refine HC.out.mono ?_
  clear HC
  rintro e w2 ⟨v2, rfl, _, hb2⟩
  have HB2 := hideIt (belJ HB1.out hb2)
  have HT2 := hideIt (tell_errno 8 w2 (HT.out.below HB2.out))
  have d0 := (hb2.cell (p := ⟨g0, o0 + 0, none⟩) (World.block_lt_of_cell? w1 _ c0')).trans c0'
  have d1 := (hb2.cell (p := ⟨g0, o0 + 1, none⟩) (World.block_lt_of_cell? w1 _ c1')).trans c1'
  clear hb2 c0' c1'
  go_wp2_with fail
  refine HT2.out.mono ?_
  clear HT2
  rintro e w3 ⟨rfl, hb3⟩
  have f0 : w3.cell? ⟨g0, o0, none⟩ = some (.int .i64 0) := (hb3.cell (p := ⟨g0, o0 + 0, none⟩) (World.block_lt_of_cell? w2 _ d0)).trans d0
  have f1 := (hb3.cell (p := ⟨g0, o0 + 1, none⟩) (World.block_lt_of_cell? w2 _ d1)).trans d1
  clear d0 d1
  go_wp2
  go_ret
  exact ⟨rfl, belJ HB2.out hb3⟩
end Go.Proofs.YtibdchahallbjaaDoor
