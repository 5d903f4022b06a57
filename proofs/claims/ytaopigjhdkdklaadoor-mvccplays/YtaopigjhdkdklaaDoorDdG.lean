/-
  The document's Do, walked, at what may not be asked now.
-/
import Derived.Test.YtaopigjhdkdklaaDoorDdA
namespace Go.Proofs.YtaopigjhdkdklaaDoor
open Go.RowKit
section
variable {w0 W : World} {k : DbK} {c : Bool} {n : Nat} {st : MvS}

set_option maxRecDepth 100000 in
set_option maxHeartbeats 8000000 in
theorem ddo_f3o1 (h : DocB w0 W k c n st) {t : Nat} (ht : t < n) (hl : ∀ t, (st.ops t).length ≤ 60) (hov : st.ov t = true) :
    Calls Tryd.prog 12 #[.pointer (some ⟨k.B, 0, none⟩), .agg #[.int .i64 (t : Int), .int .i64 1, .int .i64 0]] W fun e W' => DdTold w0 W k c n 6 st e W' := by
  have hV0 : Below W.heap.size W (W.alloc (.cells #[.int .i64 (t : Int), .int .i64 1, .int .i64 0] 36)) := belA (Below.refl _ _) _
  have hbx0 := heap_alloc_new W (.cells #[.int .i64 (t : Int), .int .i64 1, .int .i64 0] 36)
  have hdV0 := h.below hV0
  clear h
  go_enter Tryd.func12, Tryd.ntmps12
  go_wp2_with fail
  generalize W.alloc (.cells #[.int .i64 (t : Int), .int .i64 1, .int .i64 0] 36) = V at *
  have HD := hideIt hdV0
  have HF : Hid (DFr k n W V k) := DFr.below hV0
  obtain ⟨_, d1, d2, d3, d4, d5, d6⟩ := hdV0.cells
  have lB := hdV0.lt
  have lx := lt_of_heap hbx0
  have x0 : V.cell? ⟨W.heap.size, 0, none⟩ = some (.int .i64 (t : Int)) := by rw [cell_of_row _ _ _ _ 36 _ hbx0]; rfl
  have x1 : V.cell? ⟨W.heap.size, 1, none⟩ = some (.int .i64 1) := by rw [cell_of_row _ _ _ _ 36 _ hbx0]; rfl
  have x2 : V.cell? ⟨W.heap.size, 2, none⟩ = some (.int .i64 0) := by rw [cell_of_row _ _ _ _ 36 _ hbx0]; rfl
  obtain ⟨ab, cb, evb, hcb, hbgr⟩ := tim_at hdV0.bg
  obtain ⟨gb, rfl, hgb, b1⟩ := hbgr t ht
  rw [evb] at d3
  have o1 := hdV0.ov.bit t ht
  obtain ⟨oa, ocp, t1, t2, hoc, hoq, hwrt⟩ := hdV0.wrote hl ht 0
  have lT := (hdV0.own_lt (.inr (.inl rfl) : k.own n k.T)).2
  have lO := (hdV0.own_lt (.inr (.inr (.inr (.inl rfl))) : k.own n k.O)).2
  have lb := (ownsRow_block hdV0.bg gb hgb).2.1
  have hti : (t : Int) < (n : Int) := by omega
  have HC : Hid (∀ Y, Below V.heap.size V Y → Y.cell? ⟨W.heap.size, 0, none⟩ = some (.int .i64 (t : Int)) ∧ Y.cell? ⟨W.heap.size, 1, none⟩ = some (.int .i64 1) ∧ Y.cell? ⟨W.heap.size, 2, none⟩ = some (.int .i64 0) ∧ Y.cell? ⟨k.B, 1, none⟩ = some (.slice (some ⟨k.T, 0, none⟩) n n) ∧ Y.cell? ⟨k.B, 5, none⟩ = some (.slice (some ⟨k.O, 0, none⟩) n n) ∧ Y.cell? ⟨k.B, 3, none⟩ = some (.slice (some ⟨gb, 0, none⟩) n cb) ∧ Y.cell? ⟨gb, t, none⟩ = some (.int .i64 (st.bg t)) ∧ Y.cell? ⟨k.O, t, none⟩ = some (.bool (st.ov t)) ∧ Y.cell? ⟨k.T, t * 2, none⟩ = some (.slice oa (st.ops t).length ocp)) := fun Y hY => ⟨(hY.cell (p := ⟨W.heap.size, 0, none⟩) lx).trans x0, (hY.cell (p := ⟨W.heap.size, 1, none⟩) lx).trans x1, (hY.cell (p := ⟨W.heap.size, 2, none⟩) lx).trans x2, (hY.cell (p := ⟨k.B, 1, none⟩) lB).trans d1, (hY.cell (p := ⟨k.B, 5, none⟩) lB).trans d5, (hY.cell (p := ⟨k.B, 3, none⟩) lB).trans d3, (hY.cell (p := ⟨gb, t, none⟩) lb).trans b1, (hY.cell (p := ⟨k.O, t, none⟩) lO).trans o1, (hY.cell (p := ⟨k.T, t * 2, none⟩) lT).trans t1⟩
  have g0 : decide ((t : Int) < 0) = false := decide_eq_false (by omega)
  have g1 : ¬ (n : Int) ≤ (t : Int) := by omega
  rw [hov] at HC
  obtain ⟨bb, hb0⟩ : ∃ bb, decide ((0 : Int) ≤ st.bg t) = bb := ⟨_, rfl⟩
  clear hdV0 hbx0 hV0 d1 d2 d3 d4 d5 d6 evb lB lx x0 x1 x2 hbgr b1 o1 t1 t2 hoq hwrt lT lO lb hcb hgb hoc
  obtain ⟨z0, z1, z2, z3, z4, z5, z6, z7, z8⟩ := HC.out V (Below.refl _ _)
  go_quiet (fail)
  clear z0 z1 z2 z3 z4 z5 z6 z7 z8
  generalize hV1 : World.drewN V _ = V1
  have hbV1 : Below V.heap.size V V1 := by rw [← hV1]; exact below_drewN (Below.refl _ _) _
  clear hV1
  obtain ⟨z0, z1, z2, z3, z4, z5, z6, z7, z8⟩ := HC.out V1 hbV1
  go_wp2_with fail
  clear z0 z1 z2 z3 z4 z5 z6 z7 z8
  obtain ⟨z0, z1, z2, z3, z4, z5, z6, z7, z8⟩ := HC.out V1 hbV1
  go_quiet (fail)
  clear z0 z1 z2 z3 z4 z5 z6 z7 z8
  generalize hV2 : World.drewN V1 _ = V2
  have hbV2 : Below V.heap.size V V2 := by rw [← hV2]; exact below_drewN hbV1 _
  clear hV2
  obtain ⟨z0, z1, z2, z3, z4, z5, z6, z7, z8⟩ := HC.out V2 hbV2
  go_wp2_with fail
  clear z0 z1 z2 z3 z4 z5 z6 z7 z8
  obtain ⟨z0, z1, z2, z3, z4, z5, z6, z7, z8⟩ := HC.out V2 hbV2
  go_quiet (fail)
  clear z0 z1 z2 z3 z4 z5 z6 z7 z8
  generalize hV3 : World.drewN V2 _ = V3
  have hbV3 : Below V.heap.size V V3 := by rw [← hV3]; exact below_drewN hbV2 _
  clear hV3
  go_wp2
  go_ret
  exact ⟨k, rfl, HD.out.below hbV3, HF.out.trans (DFr.below hbV3)⟩

set_option maxRecDepth 100000 in
set_option maxHeartbeats 8000000 in
theorem ddo_f3b1 (h : DocB w0 W k c n st) {t : Nat} (ht : t < n) (hl : ∀ t, (st.ops t).length ≤ 60) (hov : st.ov t = false) (hb0 : (0 : Int) ≤ st.bg t) :
    Calls Tryd.prog 12 #[.pointer (some ⟨k.B, 0, none⟩), .agg #[.int .i64 (t : Int), .int .i64 1, .int .i64 0]] W fun e W' => DdTold w0 W k c n 6 st e W' := by
  have hV0 : Below W.heap.size W (W.alloc (.cells #[.int .i64 (t : Int), .int .i64 1, .int .i64 0] 36)) := belA (Below.refl _ _) _
  have hbx0 := heap_alloc_new W (.cells #[.int .i64 (t : Int), .int .i64 1, .int .i64 0] 36)
  have hdV0 := h.below hV0
  clear h
  go_enter Tryd.func12, Tryd.ntmps12
  go_wp2_with fail
  generalize W.alloc (.cells #[.int .i64 (t : Int), .int .i64 1, .int .i64 0] 36) = V at *
  have HD := hideIt hdV0
  have HF : Hid (DFr k n W V k) := DFr.below hV0
  obtain ⟨_, d1, d2, d3, d4, d5, d6⟩ := hdV0.cells
  have lB := hdV0.lt
  have lx := lt_of_heap hbx0
  have x0 : V.cell? ⟨W.heap.size, 0, none⟩ = some (.int .i64 (t : Int)) := by rw [cell_of_row _ _ _ _ 36 _ hbx0]; rfl
  have x1 : V.cell? ⟨W.heap.size, 1, none⟩ = some (.int .i64 1) := by rw [cell_of_row _ _ _ _ 36 _ hbx0]; rfl
  have x2 : V.cell? ⟨W.heap.size, 2, none⟩ = some (.int .i64 0) := by rw [cell_of_row _ _ _ _ 36 _ hbx0]; rfl
  obtain ⟨ab, cb, evb, hcb, hbgr⟩ := tim_at hdV0.bg
  obtain ⟨gb, rfl, hgb, b1⟩ := hbgr t ht
  rw [evb] at d3
  have o1 := hdV0.ov.bit t ht
  obtain ⟨oa, ocp, t1, t2, hoc, hoq, hwrt⟩ := hdV0.wrote hl ht 0
  have lT := (hdV0.own_lt (.inr (.inl rfl) : k.own n k.T)).2
  have lO := (hdV0.own_lt (.inr (.inr (.inr (.inl rfl))) : k.own n k.O)).2
  have lb := (ownsRow_block hdV0.bg gb hgb).2.1
  have hti : (t : Int) < (n : Int) := by omega
  have HC : Hid (∀ Y, Below V.heap.size V Y → Y.cell? ⟨W.heap.size, 0, none⟩ = some (.int .i64 (t : Int)) ∧ Y.cell? ⟨W.heap.size, 1, none⟩ = some (.int .i64 1) ∧ Y.cell? ⟨W.heap.size, 2, none⟩ = some (.int .i64 0) ∧ Y.cell? ⟨k.B, 1, none⟩ = some (.slice (some ⟨k.T, 0, none⟩) n n) ∧ Y.cell? ⟨k.B, 5, none⟩ = some (.slice (some ⟨k.O, 0, none⟩) n n) ∧ Y.cell? ⟨k.B, 3, none⟩ = some (.slice (some ⟨gb, 0, none⟩) n cb) ∧ Y.cell? ⟨gb, t, none⟩ = some (.int .i64 (st.bg t)) ∧ Y.cell? ⟨k.O, t, none⟩ = some (.bool (st.ov t)) ∧ Y.cell? ⟨k.T, t * 2, none⟩ = some (.slice oa (st.ops t).length ocp)) := fun Y hY => ⟨(hY.cell (p := ⟨W.heap.size, 0, none⟩) lx).trans x0, (hY.cell (p := ⟨W.heap.size, 1, none⟩) lx).trans x1, (hY.cell (p := ⟨W.heap.size, 2, none⟩) lx).trans x2, (hY.cell (p := ⟨k.B, 1, none⟩) lB).trans d1, (hY.cell (p := ⟨k.B, 5, none⟩) lB).trans d5, (hY.cell (p := ⟨k.B, 3, none⟩) lB).trans d3, (hY.cell (p := ⟨gb, t, none⟩) lb).trans b1, (hY.cell (p := ⟨k.O, t, none⟩) lO).trans o1, (hY.cell (p := ⟨k.T, t * 2, none⟩) lT).trans t1⟩
  have g0 : decide ((t : Int) < 0) = false := decide_eq_false (by omega)
  have g1 : ¬ (n : Int) ≤ (t : Int) := by omega
  rw [hov] at HC
  clear hdV0 hbx0 hV0 d1 d2 d3 d4 d5 d6 evb lB lx x0 x1 x2 hbgr b1 o1 t1 t2 hoq hwrt lT lO lb hcb hgb hoc
  obtain ⟨z0, z1, z2, z3, z4, z5, z6, z7, z8⟩ := HC.out V (Below.refl _ _)
  go_quiet (fail)
  clear z0 z1 z2 z3 z4 z5 z6 z7 z8
  generalize hV1 : World.drewN V _ = V1
  have hbV1 : Below V.heap.size V V1 := by rw [← hV1]; exact below_drewN (Below.refl _ _) _
  clear hV1
  obtain ⟨z0, z1, z2, z3, z4, z5, z6, z7, z8⟩ := HC.out V1 hbV1
  go_wp2_with fail
  clear z0 z1 z2 z3 z4 z5 z6 z7 z8
  obtain ⟨z0, z1, z2, z3, z4, z5, z6, z7, z8⟩ := HC.out V1 hbV1
  go_quiet (fail)
  clear z0 z1 z2 z3 z4 z5 z6 z7 z8
  generalize hV2 : World.drewN V1 _ = V2
  have hbV2 : Below V.heap.size V V2 := by rw [← hV2]; exact below_drewN hbV1 _
  clear hV2
  obtain ⟨z0, z1, z2, z3, z4, z5, z6, z7, z8⟩ := HC.out V2 hbV2
  go_wp2_with fail
  clear z0 z1 z2 z3 z4 z5 z6 z7 z8
  obtain ⟨z0, z1, z2, z3, z4, z5, z6, z7, z8⟩ := HC.out V2 hbV2
  go_quiet (fail)
  clear z0 z1 z2 z3 z4 z5 z6 z7 z8
  generalize hV3 : World.drewN V2 _ = V3
  have hbV3 : Below V.heap.size V V3 := by rw [← hV3]; exact below_drewN hbV2 _
  clear hV3
  go_wp2
  go_ret
  exact ⟨k, rfl, HD.out.below hbV3, HF.out.trans (DFr.below hbV3)⟩

set_option maxRecDepth 100000 in
set_option maxHeartbeats 8000000 in
theorem ddo_f3o2 (h : DocB w0 W k c n st) {t : Nat} (ht : t < n) (hl : ∀ t, (st.ops t).length ≤ 60) {m : Int} (hm : ¬ m < 0) (h7 : ¬ 7 < m) (hov : st.ov t = true) :
    Calls Tryd.prog 12 #[.pointer (some ⟨k.B, 0, none⟩), .agg #[.int .i64 (t : Int), .int .i64 2, .int .i64 m]] W fun e W' => DdTold w0 W k c n 6 st e W' := by
  have hV0 : Below W.heap.size W (W.alloc (.cells #[.int .i64 (t : Int), .int .i64 2, .int .i64 m] 36)) := belA (Below.refl _ _) _
  have hbx0 := heap_alloc_new W (.cells #[.int .i64 (t : Int), .int .i64 2, .int .i64 m] 36)
  have hdV0 := h.below hV0
  clear h
  go_enter Tryd.func12, Tryd.ntmps12
  go_wp2_with fail
  generalize W.alloc (.cells #[.int .i64 (t : Int), .int .i64 2, .int .i64 m] 36) = V at *
  have HD := hideIt hdV0
  have HF : Hid (DFr k n W V k) := DFr.below hV0
  obtain ⟨_, d1, d2, d3, d4, d5, d6⟩ := hdV0.cells
  have lB := hdV0.lt
  have lx := lt_of_heap hbx0
  have x0 : V.cell? ⟨W.heap.size, 0, none⟩ = some (.int .i64 (t : Int)) := by rw [cell_of_row _ _ _ _ 36 _ hbx0]; rfl
  have x1 : V.cell? ⟨W.heap.size, 1, none⟩ = some (.int .i64 2) := by rw [cell_of_row _ _ _ _ 36 _ hbx0]; rfl
  have x2 : V.cell? ⟨W.heap.size, 2, none⟩ = some (.int .i64 m) := by rw [cell_of_row _ _ _ _ 36 _ hbx0]; rfl
  obtain ⟨ab, cb, evb, hcb, hbgr⟩ := tim_at hdV0.bg
  obtain ⟨gb, rfl, hgb, b1⟩ := hbgr t ht
  rw [evb] at d3
  have o1 := hdV0.ov.bit t ht
  obtain ⟨oa, ocp, t1, t2, hoc, hoq, hwrt⟩ := hdV0.wrote hl ht 0
  have lT := (hdV0.own_lt (.inr (.inl rfl) : k.own n k.T)).2
  have lO := (hdV0.own_lt (.inr (.inr (.inr (.inl rfl))) : k.own n k.O)).2
  have lb := (ownsRow_block hdV0.bg gb hgb).2.1
  have hti : (t : Int) < (n : Int) := by omega
  have HC : Hid (∀ Y, Below V.heap.size V Y → Y.cell? ⟨W.heap.size, 0, none⟩ = some (.int .i64 (t : Int)) ∧ Y.cell? ⟨W.heap.size, 1, none⟩ = some (.int .i64 2) ∧ Y.cell? ⟨W.heap.size, 2, none⟩ = some (.int .i64 m) ∧ Y.cell? ⟨k.B, 1, none⟩ = some (.slice (some ⟨k.T, 0, none⟩) n n) ∧ Y.cell? ⟨k.B, 5, none⟩ = some (.slice (some ⟨k.O, 0, none⟩) n n) ∧ Y.cell? ⟨k.B, 3, none⟩ = some (.slice (some ⟨gb, 0, none⟩) n cb) ∧ Y.cell? ⟨gb, t, none⟩ = some (.int .i64 (st.bg t)) ∧ Y.cell? ⟨k.O, t, none⟩ = some (.bool (st.ov t)) ∧ Y.cell? ⟨k.T, t * 2, none⟩ = some (.slice oa (st.ops t).length ocp)) := fun Y hY => ⟨(hY.cell (p := ⟨W.heap.size, 0, none⟩) lx).trans x0, (hY.cell (p := ⟨W.heap.size, 1, none⟩) lx).trans x1, (hY.cell (p := ⟨W.heap.size, 2, none⟩) lx).trans x2, (hY.cell (p := ⟨k.B, 1, none⟩) lB).trans d1, (hY.cell (p := ⟨k.B, 5, none⟩) lB).trans d5, (hY.cell (p := ⟨k.B, 3, none⟩) lB).trans d3, (hY.cell (p := ⟨gb, t, none⟩) lb).trans b1, (hY.cell (p := ⟨k.O, t, none⟩) lO).trans o1, (hY.cell (p := ⟨k.T, t * 2, none⟩) lT).trans t1⟩
  have g0 : decide ((t : Int) < 0) = false := decide_eq_false (by omega)
  have g1 : ¬ (n : Int) ≤ (t : Int) := by omega
  rw [hov] at HC
  obtain ⟨bb, hb0⟩ : ∃ bb, decide ((0 : Int) ≤ st.bg t) = bb := ⟨_, rfl⟩
  clear hdV0 hbx0 hV0 d1 d2 d3 d4 d5 d6 evb lB lx x0 x1 x2 hbgr b1 o1 t1 t2 hoq hwrt lT lO lb hcb hgb hoc
  obtain ⟨z0, z1, z2, z3, z4, z5, z6, z7, z8⟩ := HC.out V (Below.refl _ _)
  go_quiet (fail)
  clear z0 z1 z2 z3 z4 z5 z6 z7 z8
  generalize hV1 : World.drewN V _ = V1
  have hbV1 : Below V.heap.size V V1 := by rw [← hV1]; exact below_drewN (Below.refl _ _) _
  clear hV1
  obtain ⟨z0, z1, z2, z3, z4, z5, z6, z7, z8⟩ := HC.out V1 hbV1
  go_wp2_with fail
  clear z0 z1 z2 z3 z4 z5 z6 z7 z8
  obtain ⟨z0, z1, z2, z3, z4, z5, z6, z7, z8⟩ := HC.out V1 hbV1
  go_quiet (fail)
  clear z0 z1 z2 z3 z4 z5 z6 z7 z8
  generalize hV2 : World.drewN V1 _ = V2
  have hbV2 : Below V.heap.size V V2 := by rw [← hV2]; exact below_drewN hbV1 _
  clear hV2
  obtain ⟨z0, z1, z2, z3, z4, z5, z6, z7, z8⟩ := HC.out V2 hbV2
  go_wp2_with fail
  clear z0 z1 z2 z3 z4 z5 z6 z7 z8
  obtain ⟨z0, z1, z2, z3, z4, z5, z6, z7, z8⟩ := HC.out V2 hbV2
  go_quiet (fail)
  clear z0 z1 z2 z3 z4 z5 z6 z7 z8
  generalize hV3 : World.drewN V2 _ = V3
  have hbV3 : Below V.heap.size V V3 := by rw [← hV3]; exact below_drewN hbV2 _
  clear hV3
  go_wp2
  go_ret
  exact ⟨k, rfl, HD.out.below hbV3, HF.out.trans (DFr.below hbV3)⟩

set_option maxRecDepth 100000 in
set_option maxHeartbeats 8000000 in
theorem ddo_f3b2 (h : DocB w0 W k c n st) {t : Nat} (ht : t < n) (hl : ∀ t, (st.ops t).length ≤ 60) {m : Int} (hm : ¬ m < 0) (h7 : ¬ 7 < m) (hov : st.ov t = false) (hb0 : st.bg t = -1) :
    Calls Tryd.prog 12 #[.pointer (some ⟨k.B, 0, none⟩), .agg #[.int .i64 (t : Int), .int .i64 2, .int .i64 m]] W fun e W' => DdTold w0 W k c n 6 st e W' := by
  have hV0 : Below W.heap.size W (W.alloc (.cells #[.int .i64 (t : Int), .int .i64 2, .int .i64 m] 36)) := belA (Below.refl _ _) _
  have hbx0 := heap_alloc_new W (.cells #[.int .i64 (t : Int), .int .i64 2, .int .i64 m] 36)
  have hdV0 := h.below hV0
  clear h
  go_enter Tryd.func12, Tryd.ntmps12
  go_wp2_with fail
  generalize W.alloc (.cells #[.int .i64 (t : Int), .int .i64 2, .int .i64 m] 36) = V at *
  have HD := hideIt hdV0
  have HF : Hid (DFr k n W V k) := DFr.below hV0
  obtain ⟨_, d1, d2, d3, d4, d5, d6⟩ := hdV0.cells
  have lB := hdV0.lt
  have lx := lt_of_heap hbx0
  have x0 : V.cell? ⟨W.heap.size, 0, none⟩ = some (.int .i64 (t : Int)) := by rw [cell_of_row _ _ _ _ 36 _ hbx0]; rfl
  have x1 : V.cell? ⟨W.heap.size, 1, none⟩ = some (.int .i64 2) := by rw [cell_of_row _ _ _ _ 36 _ hbx0]; rfl
  have x2 : V.cell? ⟨W.heap.size, 2, none⟩ = some (.int .i64 m) := by rw [cell_of_row _ _ _ _ 36 _ hbx0]; rfl
  obtain ⟨ab, cb, evb, hcb, hbgr⟩ := tim_at hdV0.bg
  obtain ⟨gb, rfl, hgb, b1⟩ := hbgr t ht
  rw [evb] at d3
  have o1 := hdV0.ov.bit t ht
  obtain ⟨oa, ocp, t1, t2, hoc, hoq, hwrt⟩ := hdV0.wrote hl ht 0
  have lT := (hdV0.own_lt (.inr (.inl rfl) : k.own n k.T)).2
  have lO := (hdV0.own_lt (.inr (.inr (.inr (.inl rfl))) : k.own n k.O)).2
  have lb := (ownsRow_block hdV0.bg gb hgb).2.1
  have hti : (t : Int) < (n : Int) := by omega
  have HC : Hid (∀ Y, Below V.heap.size V Y → Y.cell? ⟨W.heap.size, 0, none⟩ = some (.int .i64 (t : Int)) ∧ Y.cell? ⟨W.heap.size, 1, none⟩ = some (.int .i64 2) ∧ Y.cell? ⟨W.heap.size, 2, none⟩ = some (.int .i64 m) ∧ Y.cell? ⟨k.B, 1, none⟩ = some (.slice (some ⟨k.T, 0, none⟩) n n) ∧ Y.cell? ⟨k.B, 5, none⟩ = some (.slice (some ⟨k.O, 0, none⟩) n n) ∧ Y.cell? ⟨k.B, 3, none⟩ = some (.slice (some ⟨gb, 0, none⟩) n cb) ∧ Y.cell? ⟨gb, t, none⟩ = some (.int .i64 (st.bg t)) ∧ Y.cell? ⟨k.O, t, none⟩ = some (.bool (st.ov t)) ∧ Y.cell? ⟨k.T, t * 2, none⟩ = some (.slice oa (st.ops t).length ocp)) := fun Y hY => ⟨(hY.cell (p := ⟨W.heap.size, 0, none⟩) lx).trans x0, (hY.cell (p := ⟨W.heap.size, 1, none⟩) lx).trans x1, (hY.cell (p := ⟨W.heap.size, 2, none⟩) lx).trans x2, (hY.cell (p := ⟨k.B, 1, none⟩) lB).trans d1, (hY.cell (p := ⟨k.B, 5, none⟩) lB).trans d5, (hY.cell (p := ⟨k.B, 3, none⟩) lB).trans d3, (hY.cell (p := ⟨gb, t, none⟩) lb).trans b1, (hY.cell (p := ⟨k.O, t, none⟩) lO).trans o1, (hY.cell (p := ⟨k.T, t * 2, none⟩) lT).trans t1⟩
  have g0 : decide ((t : Int) < 0) = false := decide_eq_false (by omega)
  have g1 : ¬ (n : Int) ≤ (t : Int) := by omega
  rw [hov] at HC
  rw [hb0] at HC
  clear hdV0 hbx0 hV0 d1 d2 d3 d4 d5 d6 evb lB lx x0 x1 x2 hbgr b1 o1 t1 t2 hoq hwrt lT lO lb hcb hgb hoc
  obtain ⟨z0, z1, z2, z3, z4, z5, z6, z7, z8⟩ := HC.out V (Below.refl _ _)
  go_quiet (fail)
  clear z0 z1 z2 z3 z4 z5 z6 z7 z8
  generalize hV1 : World.drewN V _ = V1
  have hbV1 : Below V.heap.size V V1 := by rw [← hV1]; exact below_drewN (Below.refl _ _) _
  clear hV1
  obtain ⟨z0, z1, z2, z3, z4, z5, z6, z7, z8⟩ := HC.out V1 hbV1
  go_wp2_with fail
  clear z0 z1 z2 z3 z4 z5 z6 z7 z8
  obtain ⟨z0, z1, z2, z3, z4, z5, z6, z7, z8⟩ := HC.out V1 hbV1
  go_quiet (fail)
  clear z0 z1 z2 z3 z4 z5 z6 z7 z8
  generalize hV2 : World.drewN V1 _ = V2
  have hbV2 : Below V.heap.size V V2 := by rw [← hV2]; exact below_drewN hbV1 _
  clear hV2
  obtain ⟨z0, z1, z2, z3, z4, z5, z6, z7, z8⟩ := HC.out V2 hbV2
  go_wp2_with fail
  clear z0 z1 z2 z3 z4 z5 z6 z7 z8
  obtain ⟨z0, z1, z2, z3, z4, z5, z6, z7, z8⟩ := HC.out V2 hbV2
  go_quiet (fail)
  clear z0 z1 z2 z3 z4 z5 z6 z7 z8
  generalize hV3 : World.drewN V2 _ = V3
  have hbV3 : Below V.heap.size V V3 := by rw [← hV3]; exact below_drewN hbV2 _
  clear hV3
  go_wp2
  go_ret
  exact ⟨k, rfl, HD.out.below hbV3, HF.out.trans (DFr.below hbV3)⟩

set_option maxRecDepth 100000 in
set_option maxHeartbeats 8000000 in
theorem ddo_f3o3 (h : DocB w0 W k c n st) {t : Nat} (ht : t < n) (hl : ∀ t, (st.ops t).length ≤ 60) {m : Int} (hm : ¬ m < 0) (h7 : ¬ 7 < m) (hov : st.ov t = true) :
    Calls Tryd.prog 12 #[.pointer (some ⟨k.B, 0, none⟩), .agg #[.int .i64 (t : Int), .int .i64 3, .int .i64 m]] W fun e W' => DdTold w0 W k c n 6 st e W' := by
  have hV0 : Below W.heap.size W (W.alloc (.cells #[.int .i64 (t : Int), .int .i64 3, .int .i64 m] 36)) := belA (Below.refl _ _) _
  have hbx0 := heap_alloc_new W (.cells #[.int .i64 (t : Int), .int .i64 3, .int .i64 m] 36)
  have hdV0 := h.below hV0
  clear h
  go_enter Tryd.func12, Tryd.ntmps12
  go_wp2_with fail
  generalize W.alloc (.cells #[.int .i64 (t : Int), .int .i64 3, .int .i64 m] 36) = V at *
  have HD := hideIt hdV0
  have HF : Hid (DFr k n W V k) := DFr.below hV0
  obtain ⟨_, d1, d2, d3, d4, d5, d6⟩ := hdV0.cells
  have lB := hdV0.lt
  have lx := lt_of_heap hbx0
  have x0 : V.cell? ⟨W.heap.size, 0, none⟩ = some (.int .i64 (t : Int)) := by rw [cell_of_row _ _ _ _ 36 _ hbx0]; rfl
  have x1 : V.cell? ⟨W.heap.size, 1, none⟩ = some (.int .i64 3) := by rw [cell_of_row _ _ _ _ 36 _ hbx0]; rfl
  have x2 : V.cell? ⟨W.heap.size, 2, none⟩ = some (.int .i64 m) := by rw [cell_of_row _ _ _ _ 36 _ hbx0]; rfl
  obtain ⟨ab, cb, evb, hcb, hbgr⟩ := tim_at hdV0.bg
  obtain ⟨gb, rfl, hgb, b1⟩ := hbgr t ht
  rw [evb] at d3
  have o1 := hdV0.ov.bit t ht
  obtain ⟨oa, ocp, t1, t2, hoc, hoq, hwrt⟩ := hdV0.wrote hl ht 0
  have lT := (hdV0.own_lt (.inr (.inl rfl) : k.own n k.T)).2
  have lO := (hdV0.own_lt (.inr (.inr (.inr (.inl rfl))) : k.own n k.O)).2
  have lb := (ownsRow_block hdV0.bg gb hgb).2.1
  have hti : (t : Int) < (n : Int) := by omega
  have HC : Hid (∀ Y, Below V.heap.size V Y → Y.cell? ⟨W.heap.size, 0, none⟩ = some (.int .i64 (t : Int)) ∧ Y.cell? ⟨W.heap.size, 1, none⟩ = some (.int .i64 3) ∧ Y.cell? ⟨W.heap.size, 2, none⟩ = some (.int .i64 m) ∧ Y.cell? ⟨k.B, 1, none⟩ = some (.slice (some ⟨k.T, 0, none⟩) n n) ∧ Y.cell? ⟨k.B, 5, none⟩ = some (.slice (some ⟨k.O, 0, none⟩) n n) ∧ Y.cell? ⟨k.B, 3, none⟩ = some (.slice (some ⟨gb, 0, none⟩) n cb) ∧ Y.cell? ⟨gb, t, none⟩ = some (.int .i64 (st.bg t)) ∧ Y.cell? ⟨k.O, t, none⟩ = some (.bool (st.ov t)) ∧ Y.cell? ⟨k.T, t * 2, none⟩ = some (.slice oa (st.ops t).length ocp)) := fun Y hY => ⟨(hY.cell (p := ⟨W.heap.size, 0, none⟩) lx).trans x0, (hY.cell (p := ⟨W.heap.size, 1, none⟩) lx).trans x1, (hY.cell (p := ⟨W.heap.size, 2, none⟩) lx).trans x2, (hY.cell (p := ⟨k.B, 1, none⟩) lB).trans d1, (hY.cell (p := ⟨k.B, 5, none⟩) lB).trans d5, (hY.cell (p := ⟨k.B, 3, none⟩) lB).trans d3, (hY.cell (p := ⟨gb, t, none⟩) lb).trans b1, (hY.cell (p := ⟨k.O, t, none⟩) lO).trans o1, (hY.cell (p := ⟨k.T, t * 2, none⟩) lT).trans t1⟩
  have g0 : decide ((t : Int) < 0) = false := decide_eq_false (by omega)
  have g1 : ¬ (n : Int) ≤ (t : Int) := by omega
  rw [hov] at HC
  obtain ⟨bb, hb0⟩ : ∃ bb, decide ((0 : Int) ≤ st.bg t) = bb := ⟨_, rfl⟩
  clear hdV0 hbx0 hV0 d1 d2 d3 d4 d5 d6 evb lB lx x0 x1 x2 hbgr b1 o1 t1 t2 hoq hwrt lT lO lb hcb hgb hoc
  obtain ⟨z0, z1, z2, z3, z4, z5, z6, z7, z8⟩ := HC.out V (Below.refl _ _)
  go_quiet (fail)
  clear z0 z1 z2 z3 z4 z5 z6 z7 z8
  generalize hV1 : World.drewN V _ = V1
  have hbV1 : Below V.heap.size V V1 := by rw [← hV1]; exact below_drewN (Below.refl _ _) _
  clear hV1
  obtain ⟨z0, z1, z2, z3, z4, z5, z6, z7, z8⟩ := HC.out V1 hbV1
  go_wp2_with fail
  clear z0 z1 z2 z3 z4 z5 z6 z7 z8
  obtain ⟨z0, z1, z2, z3, z4, z5, z6, z7, z8⟩ := HC.out V1 hbV1
  go_quiet (fail)
  clear z0 z1 z2 z3 z4 z5 z6 z7 z8
  generalize hV2 : World.drewN V1 _ = V2
  have hbV2 : Below V.heap.size V V2 := by rw [← hV2]; exact below_drewN hbV1 _
  clear hV2
  obtain ⟨z0, z1, z2, z3, z4, z5, z6, z7, z8⟩ := HC.out V2 hbV2
  go_wp2_with fail
  clear z0 z1 z2 z3 z4 z5 z6 z7 z8
  obtain ⟨z0, z1, z2, z3, z4, z5, z6, z7, z8⟩ := HC.out V2 hbV2
  go_quiet (fail)
  clear z0 z1 z2 z3 z4 z5 z6 z7 z8
  generalize hV3 : World.drewN V2 _ = V3
  have hbV3 : Below V.heap.size V V3 := by rw [← hV3]; exact below_drewN hbV2 _
  clear hV3
  go_wp2
  go_ret
  exact ⟨k, rfl, HD.out.below hbV3, HF.out.trans (DFr.below hbV3)⟩

set_option maxRecDepth 100000 in
set_option maxHeartbeats 8000000 in
theorem ddo_f3b3 (h : DocB w0 W k c n st) {t : Nat} (ht : t < n) (hl : ∀ t, (st.ops t).length ≤ 60) {m : Int} (hm : ¬ m < 0) (h7 : ¬ 7 < m) (hov : st.ov t = false) (hb0 : st.bg t = -1) :
    Calls Tryd.prog 12 #[.pointer (some ⟨k.B, 0, none⟩), .agg #[.int .i64 (t : Int), .int .i64 3, .int .i64 m]] W fun e W' => DdTold w0 W k c n 6 st e W' := by
  have hV0 : Below W.heap.size W (W.alloc (.cells #[.int .i64 (t : Int), .int .i64 3, .int .i64 m] 36)) := belA (Below.refl _ _) _
  have hbx0 := heap_alloc_new W (.cells #[.int .i64 (t : Int), .int .i64 3, .int .i64 m] 36)
  have hdV0 := h.below hV0
  clear h
  go_enter Tryd.func12, Tryd.ntmps12
  go_wp2_with fail
  generalize W.alloc (.cells #[.int .i64 (t : Int), .int .i64 3, .int .i64 m] 36) = V at *
  have HD := hideIt hdV0
  have HF : Hid (DFr k n W V k) := DFr.below hV0
  obtain ⟨_, d1, d2, d3, d4, d5, d6⟩ := hdV0.cells
  have lB := hdV0.lt
  have lx := lt_of_heap hbx0
  have x0 : V.cell? ⟨W.heap.size, 0, none⟩ = some (.int .i64 (t : Int)) := by rw [cell_of_row _ _ _ _ 36 _ hbx0]; rfl
  have x1 : V.cell? ⟨W.heap.size, 1, none⟩ = some (.int .i64 3) := by rw [cell_of_row _ _ _ _ 36 _ hbx0]; rfl
  have x2 : V.cell? ⟨W.heap.size, 2, none⟩ = some (.int .i64 m) := by rw [cell_of_row _ _ _ _ 36 _ hbx0]; rfl
  obtain ⟨ab, cb, evb, hcb, hbgr⟩ := tim_at hdV0.bg
  obtain ⟨gb, rfl, hgb, b1⟩ := hbgr t ht
  rw [evb] at d3
  have o1 := hdV0.ov.bit t ht
  obtain ⟨oa, ocp, t1, t2, hoc, hoq, hwrt⟩ := hdV0.wrote hl ht 0
  have lT := (hdV0.own_lt (.inr (.inl rfl) : k.own n k.T)).2
  have lO := (hdV0.own_lt (.inr (.inr (.inr (.inl rfl))) : k.own n k.O)).2
  have lb := (ownsRow_block hdV0.bg gb hgb).2.1
  have hti : (t : Int) < (n : Int) := by omega
  have HC : Hid (∀ Y, Below V.heap.size V Y → Y.cell? ⟨W.heap.size, 0, none⟩ = some (.int .i64 (t : Int)) ∧ Y.cell? ⟨W.heap.size, 1, none⟩ = some (.int .i64 3) ∧ Y.cell? ⟨W.heap.size, 2, none⟩ = some (.int .i64 m) ∧ Y.cell? ⟨k.B, 1, none⟩ = some (.slice (some ⟨k.T, 0, none⟩) n n) ∧ Y.cell? ⟨k.B, 5, none⟩ = some (.slice (some ⟨k.O, 0, none⟩) n n) ∧ Y.cell? ⟨k.B, 3, none⟩ = some (.slice (some ⟨gb, 0, none⟩) n cb) ∧ Y.cell? ⟨gb, t, none⟩ = some (.int .i64 (st.bg t)) ∧ Y.cell? ⟨k.O, t, none⟩ = some (.bool (st.ov t)) ∧ Y.cell? ⟨k.T, t * 2, none⟩ = some (.slice oa (st.ops t).length ocp)) := fun Y hY => ⟨(hY.cell (p := ⟨W.heap.size, 0, none⟩) lx).trans x0, (hY.cell (p := ⟨W.heap.size, 1, none⟩) lx).trans x1, (hY.cell (p := ⟨W.heap.size, 2, none⟩) lx).trans x2, (hY.cell (p := ⟨k.B, 1, none⟩) lB).trans d1, (hY.cell (p := ⟨k.B, 5, none⟩) lB).trans d5, (hY.cell (p := ⟨k.B, 3, none⟩) lB).trans d3, (hY.cell (p := ⟨gb, t, none⟩) lb).trans b1, (hY.cell (p := ⟨k.O, t, none⟩) lO).trans o1, (hY.cell (p := ⟨k.T, t * 2, none⟩) lT).trans t1⟩
  have g0 : decide ((t : Int) < 0) = false := decide_eq_false (by omega)
  have g1 : ¬ (n : Int) ≤ (t : Int) := by omega
  rw [hov] at HC
  rw [hb0] at HC
  clear hdV0 hbx0 hV0 d1 d2 d3 d4 d5 d6 evb lB lx x0 x1 x2 hbgr b1 o1 t1 t2 hoq hwrt lT lO lb hcb hgb hoc
  obtain ⟨z0, z1, z2, z3, z4, z5, z6, z7, z8⟩ := HC.out V (Below.refl _ _)
  go_quiet (fail)
  clear z0 z1 z2 z3 z4 z5 z6 z7 z8
  generalize hV1 : World.drewN V _ = V1
  have hbV1 : Below V.heap.size V V1 := by rw [← hV1]; exact below_drewN (Below.refl _ _) _
  clear hV1
  obtain ⟨z0, z1, z2, z3, z4, z5, z6, z7, z8⟩ := HC.out V1 hbV1
  go_wp2_with fail
  clear z0 z1 z2 z3 z4 z5 z6 z7 z8
  obtain ⟨z0, z1, z2, z3, z4, z5, z6, z7, z8⟩ := HC.out V1 hbV1
  go_quiet (fail)
  clear z0 z1 z2 z3 z4 z5 z6 z7 z8
  generalize hV2 : World.drewN V1 _ = V2
  have hbV2 : Below V.heap.size V V2 := by rw [← hV2]; exact below_drewN hbV1 _
  clear hV2
  obtain ⟨z0, z1, z2, z3, z4, z5, z6, z7, z8⟩ := HC.out V2 hbV2
  go_wp2_with fail
  clear z0 z1 z2 z3 z4 z5 z6 z7 z8
  obtain ⟨z0, z1, z2, z3, z4, z5, z6, z7, z8⟩ := HC.out V2 hbV2
  go_quiet (fail)
  clear z0 z1 z2 z3 z4 z5 z6 z7 z8
  generalize hV3 : World.drewN V2 _ = V3
  have hbV3 : Below V.heap.size V V3 := by rw [← hV3]; exact below_drewN hbV2 _
  clear hV3
  go_wp2
  go_ret
  exact ⟨k, rfl, HD.out.below hbV3, HF.out.trans (DFr.below hbV3)⟩

set_option maxRecDepth 100000 in
set_option maxHeartbeats 8000000 in
theorem ddo_f3o4 (h : DocB w0 W k c n st) {t : Nat} (ht : t < n) (hl : ∀ t, (st.ops t).length ≤ 60) (hov : st.ov t = true) :
    Calls Tryd.prog 12 #[.pointer (some ⟨k.B, 0, none⟩), .agg #[.int .i64 (t : Int), .int .i64 4, .int .i64 0]] W fun e W' => DdTold w0 W k c n 6 st e W' := by
  have hV0 : Below W.heap.size W (W.alloc (.cells #[.int .i64 (t : Int), .int .i64 4, .int .i64 0] 36)) := belA (Below.refl _ _) _
  have hbx0 := heap_alloc_new W (.cells #[.int .i64 (t : Int), .int .i64 4, .int .i64 0] 36)
  have hdV0 := h.below hV0
  clear h
  go_enter Tryd.func12, Tryd.ntmps12
  go_wp2_with fail
  generalize W.alloc (.cells #[.int .i64 (t : Int), .int .i64 4, .int .i64 0] 36) = V at *
  have HD := hideIt hdV0
  have HF : Hid (DFr k n W V k) := DFr.below hV0
  obtain ⟨_, d1, d2, d3, d4, d5, d6⟩ := hdV0.cells
  have lB := hdV0.lt
  have lx := lt_of_heap hbx0
  have x0 : V.cell? ⟨W.heap.size, 0, none⟩ = some (.int .i64 (t : Int)) := by rw [cell_of_row _ _ _ _ 36 _ hbx0]; rfl
  have x1 : V.cell? ⟨W.heap.size, 1, none⟩ = some (.int .i64 4) := by rw [cell_of_row _ _ _ _ 36 _ hbx0]; rfl
  have x2 : V.cell? ⟨W.heap.size, 2, none⟩ = some (.int .i64 0) := by rw [cell_of_row _ _ _ _ 36 _ hbx0]; rfl
  obtain ⟨ab, cb, evb, hcb, hbgr⟩ := tim_at hdV0.bg
  obtain ⟨gb, rfl, hgb, b1⟩ := hbgr t ht
  rw [evb] at d3
  have o1 := hdV0.ov.bit t ht
  obtain ⟨oa, ocp, t1, t2, hoc, hoq, hwrt⟩ := hdV0.wrote hl ht 0
  have lT := (hdV0.own_lt (.inr (.inl rfl) : k.own n k.T)).2
  have lO := (hdV0.own_lt (.inr (.inr (.inr (.inl rfl))) : k.own n k.O)).2
  have lb := (ownsRow_block hdV0.bg gb hgb).2.1
  have hti : (t : Int) < (n : Int) := by omega
  have HC : Hid (∀ Y, Below V.heap.size V Y → Y.cell? ⟨W.heap.size, 0, none⟩ = some (.int .i64 (t : Int)) ∧ Y.cell? ⟨W.heap.size, 1, none⟩ = some (.int .i64 4) ∧ Y.cell? ⟨W.heap.size, 2, none⟩ = some (.int .i64 0) ∧ Y.cell? ⟨k.B, 1, none⟩ = some (.slice (some ⟨k.T, 0, none⟩) n n) ∧ Y.cell? ⟨k.B, 5, none⟩ = some (.slice (some ⟨k.O, 0, none⟩) n n) ∧ Y.cell? ⟨k.B, 3, none⟩ = some (.slice (some ⟨gb, 0, none⟩) n cb) ∧ Y.cell? ⟨gb, t, none⟩ = some (.int .i64 (st.bg t)) ∧ Y.cell? ⟨k.O, t, none⟩ = some (.bool (st.ov t)) ∧ Y.cell? ⟨k.T, t * 2, none⟩ = some (.slice oa (st.ops t).length ocp)) := fun Y hY => ⟨(hY.cell (p := ⟨W.heap.size, 0, none⟩) lx).trans x0, (hY.cell (p := ⟨W.heap.size, 1, none⟩) lx).trans x1, (hY.cell (p := ⟨W.heap.size, 2, none⟩) lx).trans x2, (hY.cell (p := ⟨k.B, 1, none⟩) lB).trans d1, (hY.cell (p := ⟨k.B, 5, none⟩) lB).trans d5, (hY.cell (p := ⟨k.B, 3, none⟩) lB).trans d3, (hY.cell (p := ⟨gb, t, none⟩) lb).trans b1, (hY.cell (p := ⟨k.O, t, none⟩) lO).trans o1, (hY.cell (p := ⟨k.T, t * 2, none⟩) lT).trans t1⟩
  have g0 : decide ((t : Int) < 0) = false := decide_eq_false (by omega)
  have g1 : ¬ (n : Int) ≤ (t : Int) := by omega
  rw [hov] at HC
  obtain ⟨bb, hb0⟩ : ∃ bb, decide ((0 : Int) ≤ st.bg t) = bb := ⟨_, rfl⟩
  clear hdV0 hbx0 hV0 d1 d2 d3 d4 d5 d6 evb lB lx x0 x1 x2 hbgr b1 o1 t1 t2 hoq hwrt lT lO lb hcb hgb hoc
  obtain ⟨z0, z1, z2, z3, z4, z5, z6, z7, z8⟩ := HC.out V (Below.refl _ _)
  go_quiet (fail)
  clear z0 z1 z2 z3 z4 z5 z6 z7 z8
  generalize hV1 : World.drewN V _ = V1
  have hbV1 : Below V.heap.size V V1 := by rw [← hV1]; exact below_drewN (Below.refl _ _) _
  clear hV1
  obtain ⟨z0, z1, z2, z3, z4, z5, z6, z7, z8⟩ := HC.out V1 hbV1
  go_wp2_with fail
  clear z0 z1 z2 z3 z4 z5 z6 z7 z8
  obtain ⟨z0, z1, z2, z3, z4, z5, z6, z7, z8⟩ := HC.out V1 hbV1
  go_quiet (fail)
  clear z0 z1 z2 z3 z4 z5 z6 z7 z8
  generalize hV2 : World.drewN V1 _ = V2
  have hbV2 : Below V.heap.size V V2 := by rw [← hV2]; exact below_drewN hbV1 _
  clear hV2
  obtain ⟨z0, z1, z2, z3, z4, z5, z6, z7, z8⟩ := HC.out V2 hbV2
  go_wp2_with fail
  clear z0 z1 z2 z3 z4 z5 z6 z7 z8
  obtain ⟨z0, z1, z2, z3, z4, z5, z6, z7, z8⟩ := HC.out V2 hbV2
  go_quiet (fail)
  clear z0 z1 z2 z3 z4 z5 z6 z7 z8
  generalize hV3 : World.drewN V2 _ = V3
  have hbV3 : Below V.heap.size V V3 := by rw [← hV3]; exact below_drewN hbV2 _
  clear hV3
  go_wp2
  go_ret
  exact ⟨k, rfl, HD.out.below hbV3, HF.out.trans (DFr.below hbV3)⟩

set_option maxRecDepth 100000 in
set_option maxHeartbeats 8000000 in
theorem ddo_f3b4 (h : DocB w0 W k c n st) {t : Nat} (ht : t < n) (hl : ∀ t, (st.ops t).length ≤ 60) (hov : st.ov t = false) (hb0 : st.bg t = -1) :
    Calls Tryd.prog 12 #[.pointer (some ⟨k.B, 0, none⟩), .agg #[.int .i64 (t : Int), .int .i64 4, .int .i64 0]] W fun e W' => DdTold w0 W k c n 6 st e W' := by
  have hV0 : Below W.heap.size W (W.alloc (.cells #[.int .i64 (t : Int), .int .i64 4, .int .i64 0] 36)) := belA (Below.refl _ _) _
  have hbx0 := heap_alloc_new W (.cells #[.int .i64 (t : Int), .int .i64 4, .int .i64 0] 36)
  have hdV0 := h.below hV0
  clear h
  go_enter Tryd.func12, Tryd.ntmps12
  go_wp2_with fail
  generalize W.alloc (.cells #[.int .i64 (t : Int), .int .i64 4, .int .i64 0] 36) = V at *
  have HD := hideIt hdV0
  have HF : Hid (DFr k n W V k) := DFr.below hV0
  obtain ⟨_, d1, d2, d3, d4, d5, d6⟩ := hdV0.cells
  have lB := hdV0.lt
  have lx := lt_of_heap hbx0
  have x0 : V.cell? ⟨W.heap.size, 0, none⟩ = some (.int .i64 (t : Int)) := by rw [cell_of_row _ _ _ _ 36 _ hbx0]; rfl
  have x1 : V.cell? ⟨W.heap.size, 1, none⟩ = some (.int .i64 4) := by rw [cell_of_row _ _ _ _ 36 _ hbx0]; rfl
  have x2 : V.cell? ⟨W.heap.size, 2, none⟩ = some (.int .i64 0) := by rw [cell_of_row _ _ _ _ 36 _ hbx0]; rfl
  obtain ⟨ab, cb, evb, hcb, hbgr⟩ := tim_at hdV0.bg
  obtain ⟨gb, rfl, hgb, b1⟩ := hbgr t ht
  rw [evb] at d3
  have o1 := hdV0.ov.bit t ht
  obtain ⟨oa, ocp, t1, t2, hoc, hoq, hwrt⟩ := hdV0.wrote hl ht 0
  have lT := (hdV0.own_lt (.inr (.inl rfl) : k.own n k.T)).2
  have lO := (hdV0.own_lt (.inr (.inr (.inr (.inl rfl))) : k.own n k.O)).2
  have lb := (ownsRow_block hdV0.bg gb hgb).2.1
  have hti : (t : Int) < (n : Int) := by omega
  have HC : Hid (∀ Y, Below V.heap.size V Y → Y.cell? ⟨W.heap.size, 0, none⟩ = some (.int .i64 (t : Int)) ∧ Y.cell? ⟨W.heap.size, 1, none⟩ = some (.int .i64 4) ∧ Y.cell? ⟨W.heap.size, 2, none⟩ = some (.int .i64 0) ∧ Y.cell? ⟨k.B, 1, none⟩ = some (.slice (some ⟨k.T, 0, none⟩) n n) ∧ Y.cell? ⟨k.B, 5, none⟩ = some (.slice (some ⟨k.O, 0, none⟩) n n) ∧ Y.cell? ⟨k.B, 3, none⟩ = some (.slice (some ⟨gb, 0, none⟩) n cb) ∧ Y.cell? ⟨gb, t, none⟩ = some (.int .i64 (st.bg t)) ∧ Y.cell? ⟨k.O, t, none⟩ = some (.bool (st.ov t)) ∧ Y.cell? ⟨k.T, t * 2, none⟩ = some (.slice oa (st.ops t).length ocp)) := fun Y hY => ⟨(hY.cell (p := ⟨W.heap.size, 0, none⟩) lx).trans x0, (hY.cell (p := ⟨W.heap.size, 1, none⟩) lx).trans x1, (hY.cell (p := ⟨W.heap.size, 2, none⟩) lx).trans x2, (hY.cell (p := ⟨k.B, 1, none⟩) lB).trans d1, (hY.cell (p := ⟨k.B, 5, none⟩) lB).trans d5, (hY.cell (p := ⟨k.B, 3, none⟩) lB).trans d3, (hY.cell (p := ⟨gb, t, none⟩) lb).trans b1, (hY.cell (p := ⟨k.O, t, none⟩) lO).trans o1, (hY.cell (p := ⟨k.T, t * 2, none⟩) lT).trans t1⟩
  have g0 : decide ((t : Int) < 0) = false := decide_eq_false (by omega)
  have g1 : ¬ (n : Int) ≤ (t : Int) := by omega
  rw [hov] at HC
  rw [hb0] at HC
  clear hdV0 hbx0 hV0 d1 d2 d3 d4 d5 d6 evb lB lx x0 x1 x2 hbgr b1 o1 t1 t2 hoq hwrt lT lO lb hcb hgb hoc
  obtain ⟨z0, z1, z2, z3, z4, z5, z6, z7, z8⟩ := HC.out V (Below.refl _ _)
  go_quiet (fail)
  clear z0 z1 z2 z3 z4 z5 z6 z7 z8
  generalize hV1 : World.drewN V _ = V1
  have hbV1 : Below V.heap.size V V1 := by rw [← hV1]; exact below_drewN (Below.refl _ _) _
  clear hV1
  obtain ⟨z0, z1, z2, z3, z4, z5, z6, z7, z8⟩ := HC.out V1 hbV1
  go_wp2_with fail
  clear z0 z1 z2 z3 z4 z5 z6 z7 z8
  obtain ⟨z0, z1, z2, z3, z4, z5, z6, z7, z8⟩ := HC.out V1 hbV1
  go_quiet (fail)
  clear z0 z1 z2 z3 z4 z5 z6 z7 z8
  generalize hV2 : World.drewN V1 _ = V2
  have hbV2 : Below V.heap.size V V2 := by rw [← hV2]; exact below_drewN hbV1 _
  clear hV2
  obtain ⟨z0, z1, z2, z3, z4, z5, z6, z7, z8⟩ := HC.out V2 hbV2
  go_wp2_with fail
  clear z0 z1 z2 z3 z4 z5 z6 z7 z8
  obtain ⟨z0, z1, z2, z3, z4, z5, z6, z7, z8⟩ := HC.out V2 hbV2
  go_quiet (fail)
  clear z0 z1 z2 z3 z4 z5 z6 z7 z8
  generalize hV3 : World.drewN V2 _ = V3
  have hbV3 : Below V.heap.size V V3 := by rw [← hV3]; exact below_drewN hbV2 _
  clear hV3
  go_wp2
  go_ret
  exact ⟨k, rfl, HD.out.below hbV3, HF.out.trans (DFr.below hbV3)⟩

set_option maxRecDepth 100000 in
set_option maxHeartbeats 8000000 in
theorem ddo_f3o5 (h : DocB w0 W k c n st) {t : Nat} (ht : t < n) (hl : ∀ t, (st.ops t).length ≤ 60) (hov : st.ov t = true) :
    Calls Tryd.prog 12 #[.pointer (some ⟨k.B, 0, none⟩), .agg #[.int .i64 (t : Int), .int .i64 5, .int .i64 0]] W fun e W' => DdTold w0 W k c n 6 st e W' := by
  have hV0 : Below W.heap.size W (W.alloc (.cells #[.int .i64 (t : Int), .int .i64 5, .int .i64 0] 36)) := belA (Below.refl _ _) _
  have hbx0 := heap_alloc_new W (.cells #[.int .i64 (t : Int), .int .i64 5, .int .i64 0] 36)
  have hdV0 := h.below hV0
  clear h
  go_enter Tryd.func12, Tryd.ntmps12
  go_wp2_with fail
  generalize W.alloc (.cells #[.int .i64 (t : Int), .int .i64 5, .int .i64 0] 36) = V at *
  have HD := hideIt hdV0
  have HF : Hid (DFr k n W V k) := DFr.below hV0
  obtain ⟨_, d1, d2, d3, d4, d5, d6⟩ := hdV0.cells
  have lB := hdV0.lt
  have lx := lt_of_heap hbx0
  have x0 : V.cell? ⟨W.heap.size, 0, none⟩ = some (.int .i64 (t : Int)) := by rw [cell_of_row _ _ _ _ 36 _ hbx0]; rfl
  have x1 : V.cell? ⟨W.heap.size, 1, none⟩ = some (.int .i64 5) := by rw [cell_of_row _ _ _ _ 36 _ hbx0]; rfl
  have x2 : V.cell? ⟨W.heap.size, 2, none⟩ = some (.int .i64 0) := by rw [cell_of_row _ _ _ _ 36 _ hbx0]; rfl
  obtain ⟨ab, cb, evb, hcb, hbgr⟩ := tim_at hdV0.bg
  obtain ⟨gb, rfl, hgb, b1⟩ := hbgr t ht
  rw [evb] at d3
  have o1 := hdV0.ov.bit t ht
  obtain ⟨oa, ocp, t1, t2, hoc, hoq, hwrt⟩ := hdV0.wrote hl ht 0
  have lT := (hdV0.own_lt (.inr (.inl rfl) : k.own n k.T)).2
  have lO := (hdV0.own_lt (.inr (.inr (.inr (.inl rfl))) : k.own n k.O)).2
  have lb := (ownsRow_block hdV0.bg gb hgb).2.1
  have hti : (t : Int) < (n : Int) := by omega
  have HC : Hid (∀ Y, Below V.heap.size V Y → Y.cell? ⟨W.heap.size, 0, none⟩ = some (.int .i64 (t : Int)) ∧ Y.cell? ⟨W.heap.size, 1, none⟩ = some (.int .i64 5) ∧ Y.cell? ⟨W.heap.size, 2, none⟩ = some (.int .i64 0) ∧ Y.cell? ⟨k.B, 1, none⟩ = some (.slice (some ⟨k.T, 0, none⟩) n n) ∧ Y.cell? ⟨k.B, 5, none⟩ = some (.slice (some ⟨k.O, 0, none⟩) n n) ∧ Y.cell? ⟨k.B, 3, none⟩ = some (.slice (some ⟨gb, 0, none⟩) n cb) ∧ Y.cell? ⟨gb, t, none⟩ = some (.int .i64 (st.bg t)) ∧ Y.cell? ⟨k.O, t, none⟩ = some (.bool (st.ov t)) ∧ Y.cell? ⟨k.T, t * 2, none⟩ = some (.slice oa (st.ops t).length ocp)) := fun Y hY => ⟨(hY.cell (p := ⟨W.heap.size, 0, none⟩) lx).trans x0, (hY.cell (p := ⟨W.heap.size, 1, none⟩) lx).trans x1, (hY.cell (p := ⟨W.heap.size, 2, none⟩) lx).trans x2, (hY.cell (p := ⟨k.B, 1, none⟩) lB).trans d1, (hY.cell (p := ⟨k.B, 5, none⟩) lB).trans d5, (hY.cell (p := ⟨k.B, 3, none⟩) lB).trans d3, (hY.cell (p := ⟨gb, t, none⟩) lb).trans b1, (hY.cell (p := ⟨k.O, t, none⟩) lO).trans o1, (hY.cell (p := ⟨k.T, t * 2, none⟩) lT).trans t1⟩
  have g0 : decide ((t : Int) < 0) = false := decide_eq_false (by omega)
  have g1 : ¬ (n : Int) ≤ (t : Int) := by omega
  rw [hov] at HC
  obtain ⟨bb, hb0⟩ : ∃ bb, decide ((0 : Int) ≤ st.bg t) = bb := ⟨_, rfl⟩
  clear hdV0 hbx0 hV0 d1 d2 d3 d4 d5 d6 evb lB lx x0 x1 x2 hbgr b1 o1 t1 t2 hoq hwrt lT lO lb hcb hgb hoc
  obtain ⟨z0, z1, z2, z3, z4, z5, z6, z7, z8⟩ := HC.out V (Below.refl _ _)
  go_quiet (fail)
  clear z0 z1 z2 z3 z4 z5 z6 z7 z8
  generalize hV1 : World.drewN V _ = V1
  have hbV1 : Below V.heap.size V V1 := by rw [← hV1]; exact below_drewN (Below.refl _ _) _
  clear hV1
  obtain ⟨z0, z1, z2, z3, z4, z5, z6, z7, z8⟩ := HC.out V1 hbV1
  go_wp2_with fail
  clear z0 z1 z2 z3 z4 z5 z6 z7 z8
  obtain ⟨z0, z1, z2, z3, z4, z5, z6, z7, z8⟩ := HC.out V1 hbV1
  go_quiet (fail)
  clear z0 z1 z2 z3 z4 z5 z6 z7 z8
  generalize hV2 : World.drewN V1 _ = V2
  have hbV2 : Below V.heap.size V V2 := by rw [← hV2]; exact below_drewN hbV1 _
  clear hV2
  obtain ⟨z0, z1, z2, z3, z4, z5, z6, z7, z8⟩ := HC.out V2 hbV2
  go_wp2_with fail
  clear z0 z1 z2 z3 z4 z5 z6 z7 z8
  obtain ⟨z0, z1, z2, z3, z4, z5, z6, z7, z8⟩ := HC.out V2 hbV2
  go_quiet (fail)
  clear z0 z1 z2 z3 z4 z5 z6 z7 z8
  generalize hV3 : World.drewN V2 _ = V3
  have hbV3 : Below V.heap.size V V3 := by rw [← hV3]; exact below_drewN hbV2 _
  clear hV3
  go_wp2
  go_ret
  exact ⟨k, rfl, HD.out.below hbV3, HF.out.trans (DFr.below hbV3)⟩

set_option maxRecDepth 100000 in
set_option maxHeartbeats 8000000 in
theorem ddo_f3b5 (h : DocB w0 W k c n st) {t : Nat} (ht : t < n) (hl : ∀ t, (st.ops t).length ≤ 60) (hov : st.ov t = false) (hb0 : st.bg t = -1) :
    Calls Tryd.prog 12 #[.pointer (some ⟨k.B, 0, none⟩), .agg #[.int .i64 (t : Int), .int .i64 5, .int .i64 0]] W fun e W' => DdTold w0 W k c n 6 st e W' := by
  have hV0 : Below W.heap.size W (W.alloc (.cells #[.int .i64 (t : Int), .int .i64 5, .int .i64 0] 36)) := belA (Below.refl _ _) _
  have hbx0 := heap_alloc_new W (.cells #[.int .i64 (t : Int), .int .i64 5, .int .i64 0] 36)
  have hdV0 := h.below hV0
  clear h
  go_enter Tryd.func12, Tryd.ntmps12
  go_wp2_with fail
  generalize W.alloc (.cells #[.int .i64 (t : Int), .int .i64 5, .int .i64 0] 36) = V at *
  have HD := hideIt hdV0
  have HF : Hid (DFr k n W V k) := DFr.below hV0
  obtain ⟨_, d1, d2, d3, d4, d5, d6⟩ := hdV0.cells
  have lB := hdV0.lt
  have lx := lt_of_heap hbx0
  have x0 : V.cell? ⟨W.heap.size, 0, none⟩ = some (.int .i64 (t : Int)) := by rw [cell_of_row _ _ _ _ 36 _ hbx0]; rfl
  have x1 : V.cell? ⟨W.heap.size, 1, none⟩ = some (.int .i64 5) := by rw [cell_of_row _ _ _ _ 36 _ hbx0]; rfl
  have x2 : V.cell? ⟨W.heap.size, 2, none⟩ = some (.int .i64 0) := by rw [cell_of_row _ _ _ _ 36 _ hbx0]; rfl
  obtain ⟨ab, cb, evb, hcb, hbgr⟩ := tim_at hdV0.bg
  obtain ⟨gb, rfl, hgb, b1⟩ := hbgr t ht
  rw [evb] at d3
  have o1 := hdV0.ov.bit t ht
  obtain ⟨oa, ocp, t1, t2, hoc, hoq, hwrt⟩ := hdV0.wrote hl ht 0
  have lT := (hdV0.own_lt (.inr (.inl rfl) : k.own n k.T)).2
  have lO := (hdV0.own_lt (.inr (.inr (.inr (.inl rfl))) : k.own n k.O)).2
  have lb := (ownsRow_block hdV0.bg gb hgb).2.1
  have hti : (t : Int) < (n : Int) := by omega
  have HC : Hid (∀ Y, Below V.heap.size V Y → Y.cell? ⟨W.heap.size, 0, none⟩ = some (.int .i64 (t : Int)) ∧ Y.cell? ⟨W.heap.size, 1, none⟩ = some (.int .i64 5) ∧ Y.cell? ⟨W.heap.size, 2, none⟩ = some (.int .i64 0) ∧ Y.cell? ⟨k.B, 1, none⟩ = some (.slice (some ⟨k.T, 0, none⟩) n n) ∧ Y.cell? ⟨k.B, 5, none⟩ = some (.slice (some ⟨k.O, 0, none⟩) n n) ∧ Y.cell? ⟨k.B, 3, none⟩ = some (.slice (some ⟨gb, 0, none⟩) n cb) ∧ Y.cell? ⟨gb, t, none⟩ = some (.int .i64 (st.bg t)) ∧ Y.cell? ⟨k.O, t, none⟩ = some (.bool (st.ov t)) ∧ Y.cell? ⟨k.T, t * 2, none⟩ = some (.slice oa (st.ops t).length ocp)) := fun Y hY => ⟨(hY.cell (p := ⟨W.heap.size, 0, none⟩) lx).trans x0, (hY.cell (p := ⟨W.heap.size, 1, none⟩) lx).trans x1, (hY.cell (p := ⟨W.heap.size, 2, none⟩) lx).trans x2, (hY.cell (p := ⟨k.B, 1, none⟩) lB).trans d1, (hY.cell (p := ⟨k.B, 5, none⟩) lB).trans d5, (hY.cell (p := ⟨k.B, 3, none⟩) lB).trans d3, (hY.cell (p := ⟨gb, t, none⟩) lb).trans b1, (hY.cell (p := ⟨k.O, t, none⟩) lO).trans o1, (hY.cell (p := ⟨k.T, t * 2, none⟩) lT).trans t1⟩
  have g0 : decide ((t : Int) < 0) = false := decide_eq_false (by omega)
  have g1 : ¬ (n : Int) ≤ (t : Int) := by omega
  rw [hov] at HC
  rw [hb0] at HC
  clear hdV0 hbx0 hV0 d1 d2 d3 d4 d5 d6 evb lB lx x0 x1 x2 hbgr b1 o1 t1 t2 hoq hwrt lT lO lb hcb hgb hoc
  obtain ⟨z0, z1, z2, z3, z4, z5, z6, z7, z8⟩ := HC.out V (Below.refl _ _)
  go_quiet (fail)
  clear z0 z1 z2 z3 z4 z5 z6 z7 z8
  generalize hV1 : World.drewN V _ = V1
  have hbV1 : Below V.heap.size V V1 := by rw [← hV1]; exact below_drewN (Below.refl _ _) _
  clear hV1
  obtain ⟨z0, z1, z2, z3, z4, z5, z6, z7, z8⟩ := HC.out V1 hbV1
  go_wp2_with fail
  clear z0 z1 z2 z3 z4 z5 z6 z7 z8
  obtain ⟨z0, z1, z2, z3, z4, z5, z6, z7, z8⟩ := HC.out V1 hbV1
  go_quiet (fail)
  clear z0 z1 z2 z3 z4 z5 z6 z7 z8
  generalize hV2 : World.drewN V1 _ = V2
  have hbV2 : Below V.heap.size V V2 := by rw [← hV2]; exact below_drewN hbV1 _
  clear hV2
  obtain ⟨z0, z1, z2, z3, z4, z5, z6, z7, z8⟩ := HC.out V2 hbV2
  go_wp2_with fail
  clear z0 z1 z2 z3 z4 z5 z6 z7 z8
  obtain ⟨z0, z1, z2, z3, z4, z5, z6, z7, z8⟩ := HC.out V2 hbV2
  go_quiet (fail)
  clear z0 z1 z2 z3 z4 z5 z6 z7 z8
  generalize hV3 : World.drewN V2 _ = V3
  have hbV3 : Below V.heap.size V V3 := by rw [← hV3]; exact below_drewN hbV2 _
  clear hV3
  go_wp2
  go_ret
  exact ⟨k, rfl, HD.out.below hbV3, HF.out.trans (DFr.below hbV3)⟩
end
end Go.Proofs.YtaopigjhdkdklaaDoor
