/-
  The document's Do, walked, at a read.
-/
import Derived.Test.YtaopigjhdkdklaaDoorDdA
namespace Go.Proofs.YtaopigjhdkdklaaDoor
open Go.RowKit

/-- The last one, among the first ones, that committed a key ahead of one's begin. -/
def befF (st : MvS) (t key m : Nat) : Option Nat := (((st.ord key).take m).filter fun x => decide (st.en x < st.bg t)).getLast?
def opF (st : MvS) (key : Nat) : Option Nat → IOp
  | some x => ⟨false, key, x, (wrN (st.ops x) key : Int) - 1⟩
  | none => ⟨false, key, -1, 0⟩
def opO (o : IOp) : Obj := .cells #[.bool o.wr, .int .i64 o.key, .int .i64 o.frm, .int .i64 o.num] 91
theorem befF_succ {st : MvS} {t key m : Nat} (hm : m < (st.ord key).length) : befF st t key (m + 1) = if st.en (st.ord key)[m] < st.bg t then some (st.ord key)[m] else befF st t key m := by
  unfold befF
  rw [List.take_add_one, List.getElem?_eq_getElem hm, List.filter_append]
  by_cases h : st.en (st.ord key)[m] < st.bg t
  · rw [if_pos h, Option.toList_some, List.filter_cons_of_pos (by simpa using h), List.filter_nil, List.getLast?_append]
    simp
  · rw [if_neg h, Option.toList_some, List.filter_cons_of_neg (by simpa using h), List.filter_nil, List.append_nil]
theorem befF_all (st : MvS) (t key : Nat) : befF st t key (st.ord key).length = befM st t key := by
  unfold befF befM
  rw [List.take_length]
theorem rdM_own {st : MvS} {t key : Nat} (h : 0 < wrN (st.ops t) key) : rdM st t key = ⟨false, key, t, (wrN (st.ops t) key : Int) - 1⟩ := by
  unfold rdM
  rw [if_pos h]
theorem rdM_bef {st : MvS} {t key : Nat} (h : ¬ 0 < wrN (st.ops t) key) : rdM st t key = opF st key (befF st t key (st.ord key).length) := by
  unfold rdM
  rw [if_neg h, befF_all]
  cases befM st t key <;> rfl
theorem opF_head (st : MvS) (key : Nat) (o : Option Nat) : (opF st key o).wr = false ∧ (opF st key o).key = (key : Int) := by cases o <;> exact ⟨rfl, rfl⟩
theorem op_set {w : World} {g : Nat} {o : IOp} (h : w.heap[g]? = some (opO o)) (x y : Int) : ((w.setCell ⟨g, 2, none⟩ (.int .i64 x)).setCell ⟨g, 3, none⟩ (.int .i64 y)).heap[g]? = some (opO ⟨o.wr, o.key, x, y⟩) :=
  heap_setCell_same _ g 3 _ 91 _ (heap_setCell_same w g 2 _ 91 _ h)
theorem op_cells {w : World} {g : Nat} {o : IOp} (h : w.heap[g]? = some (opO o)) : (w.cell? ⟨g, 0, none⟩ = some (.bool o.wr) ∧ w.cell? ⟨g, 1, none⟩ = some (.int .i64 o.key) ∧ w.cell? ⟨g, 2, none⟩ = some (.int .i64 o.frm) ∧ w.cell? ⟨g, 3, none⟩ = some (.int .i64 o.num)) ∧ w.frozen? ⟨g, 2, none⟩ = false ∧ w.frozen? ⟨g, 3, none⟩ = false :=
  ⟨⟨by rw [cell_of_row _ _ _ _ 91 _ h]; rfl, by rw [cell_of_row _ _ _ _ 91 _ h]; rfl, by rw [cell_of_row _ _ _ _ 91 _ h]; rfl, by rw [cell_of_row _ _ _ _ 91 _ h]; rfl⟩, frozen_of_row _ _ _ _ 91 h, frozen_of_row _ _ _ _ 91 h⟩
section
variable {w0 W : World} {k : DbK} {c : Bool} {n : Nat} {st : MvS}

set_option maxRecDepth 100000 in
set_option maxHeartbeats 8000000 in
theorem ddo_read (h : DocB w0 W k c n st) (hI : MvI n st) (hn : n ≤ 8) (htm : st.tm ≤ 1000) {t key : Nat} (ht : t < n) (hk8 : key < 8) (hov : st.ov t = false) (hbg : 0 < st.bg t) (hlen : (st.ops t).length < 60) :
    Calls Tryd.prog 12 #[.pointer (some ⟨k.B, 0, none⟩), .agg #[.int .i64 (t : Int), .int .i64 2, .int .i64 (key : Int)]] W fun e W' => DdTold w0 W k c n 0 (pushM st t (rdM st t key)) e W' := by
  have HI := hideIt hI
  have HW : Hid (∀ b, k.own n b → b < W.heap.size) := fun b hb => (h.own_lt hb).2
  have hV0 : Below W.heap.size W (W.alloc (.cells #[.int .i64 (t : Int), .int .i64 2, .int .i64 (key : Int)] 36)) := belA (Below.refl _ _) _
  have hbx0 := heap_alloc_new W (.cells #[.int .i64 (t : Int), .int .i64 2, .int .i64 (key : Int)] 36)
  have hdV0 := h.below hV0
  have hti : (t : Int) < (n : Int) := by omega
  have htm0 := hI.tm0
  have hwr : IntKind.i64.wrap (st.tm + 1) = st.tm + 1 := by rw [IntKind.wrap_i64]; omega
  have hl60 := hI.opl t
  have hnB : W.heap.size ≠ k.B := by
    have := HW.out k.B (.inl rfl)
    omega
  clear h hI
  go_enter Tryd.func12, Tryd.ntmps12
  go_wp2_with fail
  generalize W.alloc (.cells #[.int .i64 (t : Int), .int .i64 2, .int .i64 (key : Int)] 36) = V at *
  have HD := hideIt hdV0
  have HF : Hid (DFr k n W V k) := DFr.below hV0
  have HBx := hideIt hbx0
  obtain ⟨_, d1, d2, d3, d4, d5, d6⟩ := hdV0.cells
  obtain ⟨ab, cb, evb, hcb, hbgr⟩ := tim_at hdV0.bg
  obtain ⟨gb, rfl, hgb, b1⟩ := hbgr t ht
  rw [evb] at d3
  have o1 := hdV0.ov.bit t ht
  rw [hov] at o1
  obtain ⟨oa, ocp, t1, t2, hoc, hoq, hwrt⟩ := hdV0.wrote (fun u => HI.out.opl u) ht 0
  have lB := hdV0.lt
  have lT := (hdV0.own_lt (.inr (.inl rfl) : k.own n k.T)).2
  have lO := (hdV0.own_lt (.inr (.inr (.inr (.inl rfl))) : k.own n k.O)).2
  have lb := (ownsRow_block hdV0.bg gb hgb).2.1
  have lx := lt_of_heap hbx0
  have x0 : V.cell? ⟨W.heap.size, 0, none⟩ = some (.int .i64 (t : Int)) := by rw [cell_of_row _ _ _ _ 36 _ hbx0]; rfl
  have x1 : V.cell? ⟨W.heap.size, 1, none⟩ = some (.int .i64 2) := by rw [cell_of_row _ _ _ _ 36 _ hbx0]; rfl
  have x2 : V.cell? ⟨W.heap.size, 2, none⟩ = some (.int .i64 (key : Int)) := by rw [cell_of_row _ _ _ _ 36 _ hbx0]; rfl
  have HC : Hid (∀ Y, Below V.heap.size V Y → (Y.cell? ⟨W.heap.size, 0, none⟩ = some (.int .i64 (t : Int)) ∧ Y.cell? ⟨W.heap.size, 1, none⟩ = some (.int .i64 2) ∧ Y.cell? ⟨W.heap.size, 2, none⟩ = some (.int .i64 (key : Int))) ∧ (Y.cell? ⟨k.B, 1, none⟩ = some (.slice (some ⟨k.T, 0, none⟩) n n) ∧ Y.cell? ⟨k.B, 2, none⟩ = some (.slice (some ⟨k.R, 0, none⟩) 8 8) ∧ Y.cell? ⟨k.B, 3, none⟩ = some (.slice (some ⟨gb, 0, none⟩) n cb) ∧ Y.cell? ⟨k.B, 5, none⟩ = some (.slice (some ⟨k.O, 0, none⟩) n n) ∧ Y.cell? ⟨k.B, 6, none⟩ = some (.int .i64 st.tm)) ∧ (Y.cell? ⟨gb, t, none⟩ = some (.int .i64 (st.bg t)) ∧ Y.cell? ⟨k.O, t, none⟩ = some (.bool false) ∧ Y.cell? ⟨k.T, t * 2, none⟩ = some (.slice oa (st.ops t).length ocp) ∧ Y.cell? ⟨k.T, t * 2 + 1, none⟩ = some (.bool (st.com t)))) := fun Y hY => ⟨⟨(hY.cell (p := ⟨W.heap.size, 0, none⟩) lx).trans x0, (hY.cell (p := ⟨W.heap.size, 1, none⟩) lx).trans x1, (hY.cell (p := ⟨W.heap.size, 2, none⟩) lx).trans x2⟩, ⟨(hY.cell (p := ⟨k.B, 1, none⟩) lB).trans d1, (hY.cell (p := ⟨k.B, 2, none⟩) lB).trans d2, (hY.cell (p := ⟨k.B, 3, none⟩) lB).trans d3, (hY.cell (p := ⟨k.B, 5, none⟩) lB).trans d5, (hY.cell (p := ⟨k.B, 6, none⟩) lB).trans d6⟩, (hY.cell (p := ⟨gb, t, none⟩) lb).trans b1, (hY.cell (p := ⟨k.O, t, none⟩) lO).trans o1, (hY.cell (p := ⟨k.T, t * 2, none⟩) lT).trans t1, (hY.cell (p := ⟨k.T, t * 2 + 1, none⟩) lT).trans t2⟩
  have g0 : decide ((t : Int) < 0) = false := decide_eq_false (by omega)
  have g1 : ¬ (n : Int) ≤ (t : Int) := by omega
  have g2 : ¬ (key : Int) < 0 := by omega
  have g3 : ¬ (7 : Int) < (key : Int) := by omega
  have hb0 : (0 : Int) ≤ st.bg t := by omega
  clear hdV0 hbx0 hV0 d1 d2 d3 d4 d5 d6 evb hbgr b1 o1 t1 t2 hoq hwrt lB lT lO lb lx x0 x1 x2 hov hbg
  obtain ⟨⟨z0, z1, z2⟩, ⟨z3, z4, z5, z6, z7⟩, z8, z9, z10, z11⟩ := HC.out V (Below.refl _ _)
  go_quiet (fail)
  clear z0 z1 z2 z3 z4 z5 z6 z7 z8 z9 z10 z11
  generalize hV1 : World.drewN V _ = V1
  have hbV1 : Below V.heap.size V V1 := by rw [← hV1]; exact below_drewN (Below.refl _ _) _
  clear hV1
  obtain ⟨⟨z0, z1, z2⟩, ⟨z3, z4, z5, z6, z7⟩, z8, z9, z10, z11⟩ := HC.out V1 hbV1
  go_wp2_with fail
  clear z0 z1 z2 z3 z4 z5 z6 z7 z8 z9 z10 z11
  obtain ⟨⟨z0, z1, z2⟩, ⟨z3, z4, z5, z6, z7⟩, z8, z9, z10, z11⟩ := HC.out V1 hbV1
  go_quiet (fail)
  clear z0 z1 z2 z3 z4 z5 z6 z7 z8 z9 z10 z11
  generalize hV2 : World.drewN V1 _ = V2
  have hbV2 : Below V.heap.size V V2 := by rw [← hV2]; exact below_drewN hbV1 _
  clear hV2
  obtain ⟨⟨z0, z1, z2⟩, ⟨z3, z4, z5, z6, z7⟩, z8, z9, z10, z11⟩ := HC.out V2 hbV2
  go_wp2_with fail
  clear z0 z1 z2 z3 z4 z5 z6 z7 z8 z9 z10 z11
  obtain ⟨⟨z0, z1, z2⟩, ⟨z3, z4, z5, z6, z7⟩, z8, z9, z10, z11⟩ := HC.out V2 hbV2
  go_quiet (fail)
  clear z0 z1 z2 z3 z4 z5 z6 z7 z8 z9 z10 z11
  generalize hV3 : World.drewN V2 _ = V3
  have hbV3 : Below V.heap.size V V3 := by rw [← hV3]; exact below_drewN hbV2 _
  clear hV3
  obtain ⟨⟨z0, z1, z2⟩, ⟨z3, z4, z5, z6, z7⟩, z8, z9, z10, z11⟩ := HC.out V3 hbV3
  go_wp2_with fail
  clear z0 z1 z2 z3 z4 z5 z6 z7 z8 z9 z10 z11
  obtain ⟨⟨z0, z1, z2⟩, ⟨z3, z4, z5, z6, z7⟩, z8, z9, z10, z11⟩ := HC.out V3 hbV3
  go_quiet (fail)
  clear z0 z1 z2 z3 z4 z5 z6 z7 z8 z9 z10 z11
  generalize hV4 : World.drewN V3 _ = V4
  have hbV4 : Below V.heap.size V V4 := by rw [← hV4]; exact below_drewN hbV3 _
  clear hV4
  have gl : ((((st.ops t).length : Nat) : Int) == 60) = false := by rw [beq_eq_false_iff_ne]; omega
  obtain ⟨⟨z0, z1, z2⟩, ⟨z3, z4, z5, z6, z7⟩, z8, z9, z10, z11⟩ := HC.out V4 hbV4
  have hd4 := HD.out.below hbV4
  have zf := hd4.fz 6
  have HD5 := hideIt (hd4.setTm (st.tm + 1))
  have HF5 : Hid (DFr k n W (V4.setCell ⟨k.B, 6, none⟩ (.int .i64 (st.tm + 1))) k) := (HF.out.trans (DFr.below hbV4)).trans (DFr.set (p := ⟨k.B, 6, none⟩) (.inl rfl) _)
  have HBx5 : Hid ((V4.setCell ⟨k.B, 6, none⟩ (.int .i64 (st.tm + 1))).heap[W.heap.size]? = V.heap[W.heap.size]?) := (Below.heap_setCell _ ⟨k.B, 6, none⟩ _ _ hnB).trans (hbV4.block _ (lt_of_heap HBx.out))
  clear hd4
  go_wp2_with fail
  clear z0 z1 z2 z3 z4 z5 z6 z7 z8 z9 z10 z11 zf
  have hsz : V4.heap.size = (V4.setCell ⟨k.B, 6, none⟩ (.int .i64 (st.tm + 1))).heap.size := by simp
  rw [hsz]
  clear hsz
  generalize V4.setCell ⟨k.B, 6, none⟩ (.int .i64 (st.tm + 1)) = V5 at *
  have hbx5 := HBx5.out.trans HBx.out
  have x0 : V5.cell? ⟨W.heap.size, 0, none⟩ = some (.int .i64 (t : Int)) := by rw [cell_of_row _ _ _ _ 36 _ hbx5]; rfl
  have x1 : V5.cell? ⟨W.heap.size, 1, none⟩ = some (.int .i64 2) := by rw [cell_of_row _ _ _ _ 36 _ hbx5]; rfl
  have x2 : V5.cell? ⟨W.heap.size, 2, none⟩ = some (.int .i64 (key : Int)) := by rw [cell_of_row _ _ _ _ 36 _ hbx5]; rfl
  have lx := lt_of_heap hbx5
  obtain ⟨_, d1, d2, d3, d4, d5, d6⟩ := HD5.out.cells
  dsimp only at d6
  have lB := HD5.out.lt
  have HX : Hid (∀ Y, Below V5.heap.size V5 Y → (Y.cell? ⟨W.heap.size, 0, none⟩ = some (.int .i64 (t : Int)) ∧ Y.cell? ⟨W.heap.size, 2, none⟩ = some (.int .i64 (key : Int))) ∧ Y.cell? ⟨k.B, 3, none⟩ = some k.vb ∧ Y.cell? ⟨k.B, 5, none⟩ = some (.slice (some ⟨k.O, 0, none⟩) n n) ∧ Y.cell? ⟨k.B, 6, none⟩ = some (.int .i64 (st.tm + 1))) := fun Y hY => ⟨⟨(hY.cell (p := ⟨W.heap.size, 0, none⟩) lx).trans x0, (hY.cell (p := ⟨W.heap.size, 2, none⟩) lx).trans x2⟩, (hY.cell (p := ⟨k.B, 3, none⟩) lB).trans d3, (hY.cell (p := ⟨k.B, 5, none⟩) lB).trans d5, (hY.cell (p := ⟨k.B, 6, none⟩) lB).trans d6⟩
  clear HC HD HF HBx HBx5 hbV1 hbV2 hbV3 hbV4 d1 d2 d3 d4 d5 d6 lB
  have lT5 := (HD5.out.own_lt (.inr (.inl rfl) : k.own n k.T)).2
  have lR5 := (HD5.out.own_lt (.inr (.inr (.inl rfl)) : k.own n k.R)).2
  have lB5 := HD5.out.lt
  obtain ⟨_, d1, d2, d3, d4, _, _⟩ := HD5.out.cells
  obtain ⟨ab5, cb5, evb5, hcb5, hbg5⟩ := tim_at HD5.out.bg
  obtain ⟨gb5, rfl, hgb5, b5⟩ := hbg5 t ht
  obtain ⟨ae5, ce5, eve5, hce5, hen5⟩ := tim_at HD5.out.en
  obtain ⟨ge5, rfl, hge5, _⟩ := hen5 t ht
  have lgb := (ownsRow_block HD5.out.bg gb5 hgb5).2.1
  have lge := (ownsRow_block HD5.out.en ge5 hge5).2.1
  have HEn : Hid (∀ x, x < n → ∀ Y, Below V5.heap.size V5 Y → Y.cell? ⟨ge5, x, none⟩ = some (.int .i64 (st.en x))) := fun x hx Y hY => by
    obtain ⟨g', e', _, h'⟩ := hen5 x hx
    cases e'
    exact (hY.cell (p := ⟨ge5, x, none⟩) lge).trans h'
  rw [evb5] at d3
  rw [eve5] at d4
  obtain ⟨r1, r2⟩ := HD5.out.rw_ key hk8
  obtain ⟨va, vc, ev, hvc, hvq⟩ := num_hasI r2
  rw [ev] at r1
  have HQ : Hid (∀ Z, Below V5.heap.size V5 Z → HasI Z (.slice va (st.ord key).length vc) ((st.ord key).map fun x : Nat => (x : Int))) := fun Z hZ => by
    rw [show Value.slice va (st.ord key).length vc = k.vr key by rw [ev, List.length_map]]
    exact (num_hasI r2).below hZ
  rw [List.length_map] at r1 hvc
  have HY : Hid (∀ Y, Below V5.heap.size V5 Y → (Y.cell? ⟨W.heap.size, 0, none⟩ = some (.int .i64 (t : Int)) ∧ Y.cell? ⟨W.heap.size, 2, none⟩ = some (.int .i64 (key : Int))) ∧ (Y.cell? ⟨k.B, 1, none⟩ = some (.slice (some ⟨k.T, 0, none⟩) n n) ∧ Y.cell? ⟨k.B, 2, none⟩ = some (.slice (some ⟨k.R, 0, none⟩) 8 8) ∧ Y.cell? ⟨k.B, 3, none⟩ = some (.slice (some ⟨gb5, 0, none⟩) n cb5) ∧ Y.cell? ⟨k.B, 4, none⟩ = some (.slice (some ⟨ge5, 0, none⟩) n ce5)) ∧ Y.cell? ⟨gb5, t, none⟩ = some (.int .i64 (st.bg t)) ∧ Y.cell? ⟨k.R, key, none⟩ = some (.slice va (st.ord key).length vc)) := fun Y hY =>
    ⟨⟨(hY.cell (p := ⟨W.heap.size, 0, none⟩) lx).trans x0, (hY.cell (p := ⟨W.heap.size, 2, none⟩) lx).trans x2⟩, ⟨(hY.cell (p := ⟨k.B, 1, none⟩) lB5).trans d1, (hY.cell (p := ⟨k.B, 2, none⟩) lB5).trans d2, (hY.cell (p := ⟨k.B, 3, none⟩) lB5).trans d3, (hY.cell (p := ⟨k.B, 4, none⟩) lB5).trans d4⟩, (hY.cell (p := ⟨gb5, t, none⟩) lgb).trans b5, (hY.cell (p := ⟨k.R, key, none⟩) lR5).trans r1⟩
  have HT : Hid (∀ x, x < n → ∃ a cap, (∀ Y, Below V5.heap.size V5 Y → Y.cell? ⟨k.T, x * 2, none⟩ = some (.slice a (st.ops x).length cap) ∧ Y.cell? ⟨k.T, x * 2 + 1, none⟩ = some (.bool (st.com x))) ∧ ∀ Z, Below V5.heap.size V5 Z → Calls Tryd.prog 28 #[.agg #[.slice a (st.ops x).length cap, .bool (st.com x)], .int .i64 (key : Int)] Z fun e w' => e = .returned (.int .i64 (wrN (st.ops x) key : Nat)) ∧ Below Z.heap.size Z w') := fun x hx => by
    obtain ⟨a, cap, t1, t2, _, _, hw⟩ := HD5.out.wrote (fun u => HI.out.opl u) hx (key : Int)
    exact ⟨a, cap, fun Y hY => ⟨(hY.cell (p := ⟨k.T, x * 2, none⟩) lT5).trans t1, (hY.cell (p := ⟨k.T, x * 2 + 1, none⟩) lT5).trans t2⟩, hw⟩
  have hol := (HI.out.ord_few hn).2 key hk8
  have HM : Hid (∀ m (hm : m < (st.ord key).length), (st.ord key)[m] < n) := fun m hm => (HI.out.cov _ ((HI.out.ordm key hk8 _).1 (List.getElem_mem hm)).1).2.2.2
  have v0 := (HD5.out.tx t ht).1
  have HX2 : Hid (∀ Y, Below V5.heap.size V5 Y → Y.cell? ⟨k.T, t * 2, none⟩ = some (k.vo t)) := fun Y hY => (hY.cell (p := ⟨k.T, t * 2, none⟩) lT5).trans v0
  have HPush : Hid (∀ (o : IOp) (Y : World) (v' : Value) (W6 : World), Below V5.heap.size V5 Y → OpR W6 w0.heap.size v' (st.ops t ++ [o]) → Y.grownBy W6 (k.vo t).ownBlock → (v'.ownBlock = (k.vo t).ownBlock ∨ v'.ownBlock = some Y.heap.size) → DocB w0 (W6.setCell ⟨k.T, t * 2, none⟩ v') { k with vo := updM k.vo t v' } c n (pushM st t o) ∧ DFr k n W (W6.setCell ⟨k.T, t * 2, none⟩ v') { k with vo := updM k.vo t v' } ∧ W6.cell? ⟨k.T, t * 2, none⟩ = some (k.vo t) ∧ W6.frozen? ⟨k.T, t * 2, none⟩ = false) := fun o Y v' W6 hY h1 h2 h3 => by
    have hpY := HD5.out.below hY
    obtain ⟨e1, e2⟩ := hpY.pushO ht h1 h2 h3
    have hTb : W6.heap[k.T]? = Y.heap[k.T]? := h2.block _ (hpY.own_lt (.inr (.inl rfl) : k.own n k.T)).2 fun e => ne_tagD hpY.tag.2.1 (hpY.tagv.2.2.1 t ht _ e.symm) (by decide) rfl
    refine ⟨e1, HF5.out.trans ((DFr.below hY).trans e2), (World.cell?_of_block (a := ⟨k.T, t * 2, none⟩) hTb).trans (hpY.tx t ht).1, (World.frozen?_of_block (a := ⟨k.T, t * 2, none⟩) hTb).trans ?_⟩
    obtain ⟨cur, hc⟩ := hpY.tb
    exact frozen_of_row _ _ _ _ 90 hc
  have HOps : Hid (∀ Y, Below V5.heap.size V5 Y → OpR Y w0.heap.size (k.vo t) (st.ops t)) := fun Y hY => ((HD5.out.below hY).tx t ht).2.2
  have HW0 : Hid (w0.heap.size ≤ V5.heap.size) := HD5.out.bel.size
  clear HX hbx5 x0 x1 lT5 lR5 lB5 d1 d2 d3 d4 evb5 hbg5 b5 eve5 hen5 lgb lge r1 r2 ev hvq v0 hgb5 hge5 hcb5 hce5 lx hoc
  generalize k.vo t = vq at *
  clear x2
  have hb6 : Below V5.heap.size V5 (V5.alloc (.cells #[.bool false, .int .i64 (key : Int), .int .i64 (-1), .int .i64 0] 91)) := belA (Below.refl _ _) _
  have h6 : (V5.alloc (.cells #[.bool false, .int .i64 (key : Int), .int .i64 (-1), .int .i64 0] 91)).heap[V5.heap.size]? = some (opO ⟨false, key, -1, 0⟩) := heap_alloc_new V5 _
  generalize V5.alloc _ = V6 at *
  obtain ⟨a2, cp2, hcl, hcall⟩ := HT.out t ht
  have HY6 : Hid (∀ Y, Below V6.heap.size V6 Y → Y.cell? ⟨W.heap.size, 2, none⟩ = some (.int .i64 (key : Int)) ∧ Y.cell? ⟨k.T, t * 2, none⟩ = some (.slice a2 (st.ops t).length cp2) ∧ Y.cell? ⟨k.T, t * 2 + 1, none⟩ = some (.bool (st.com t))) := fun Y hY => ⟨(HY.out Y (belJ hb6 hY)).1.2, hcl Y (belJ hb6 hY)⟩
  have HC6 : Hid (∀ Z, Below V6.heap.size V6 Z → Calls Tryd.prog 28 #[.agg #[.slice a2 (st.ops t).length cp2, .bool (st.com t)], .int .i64 (key : Int)] Z fun e w' => e = .returned (.int .i64 (wrN (st.ops t) key : Nat)) ∧ Below Z.heap.size Z w') := fun Z hZ => hcall Z (belJ hb6 hZ)
  have HB6 := hideIt hb6
  have HH6 := hideIt h6
  clear hcl hcall hb6 h6
  generalize (st.ops t).length = nl at *
  generalize st.com t = cm at *
  have HRd := hideIt (rdM_own (st := st) (t := t) (key := key))
  have HRb := hideIt (rdM_bef (st := st) (t := t) (key := key))
  have hy60 : wrN (st.ops t) key ≤ 60 := Nat.le_trans (List.countP_le_length) (HI.out.opl t)
  generalize wrN (st.ops t) key = y at *
  refine wp_region_held_drew (S := (fun w' => Below V6.heap.size V6 w')) (by kernel_rfl) (Below.refl _ _).drew (fun hHeld => ?_)
  refine wpAnyH_take (i := 0) (v := ?_) rfl (by kernel_rfl) (by kernel_rfl) (by kernel_rfl) (fun _ _ _ h => h) (Or.inl ⟨by rfl, ?_⟩) (by assumption) ?_
  rotate_left 1
  · intro wz sb
    obtain ⟨y0, y1, y2⟩ := HY6.out wz sb
    go_simp
    all_goals with_reducible rfl
  simp only [Act.put, List.setIfInBounds_toArray, List.set_cons_zero, List.set_cons_succ, List.getElem_toArray, List.getElem_cons_zero]
  refine wpAnyH_take (i := 1) (v := ?_) rfl (by kernel_rfl) (by kernel_rfl) (by kernel_rfl) (fun _ _ _ h => h) (Or.inl ⟨by rfl, ?_⟩) (by assumption) ?_
  rotate_left 1
  · intro wz sb
    obtain ⟨y0, y1, y2⟩ := HY6.out wz sb
    go_simp
    all_goals with_reducible rfl
  simp only [Act.put, List.setIfInBounds_toArray, List.set_cons_zero, List.set_cons_succ, List.getElem_toArray, List.getElem_cons_zero, List.getElem_cons_succ]
  refine wpAnyH_take (i := 2) (v := ?_) rfl (by kernel_rfl) (by kernel_rfl) (by kernel_rfl) (fun _ _ _ h => h) (Or.inl ⟨by rfl, ?_⟩) (by assumption) ?_
  rotate_left 1
  · intro wz sb
    obtain ⟨y0, y1, y2⟩ := HY6.out wz sb
    go_simp
    all_goals with_reducible rfl
  simp only [Act.put, List.setIfInBounds_toArray, List.set_cons_zero, List.set_cons_succ, List.getElem_toArray, List.getElem_cons_zero, List.getElem_cons_succ]
  refine wpAnyH_take (i := 3) (v := ?_) rfl (by kernel_rfl) (by kernel_rfl) (by kernel_rfl) (fun _ _ _ h => h) (Or.inl ⟨by rfl, ?_⟩) (by assumption) ?_
  rotate_left 1
  · intro wz sb
    obtain ⟨y0, y1, y2⟩ := HY6.out wz sb
    go_simp
    all_goals with_reducible rfl
  simp only [Act.put, List.setIfInBounds_toArray, List.set_cons_zero, List.set_cons_succ, List.getElem_toArray, List.getElem_cons_zero, List.getElem_cons_succ]
  refine wpAnyH_take (i := 4) (v := ?_) rfl (by kernel_rfl) (by kernel_rfl) (by kernel_rfl) (fun _ _ _ h => h) (Or.inl ⟨by rfl, ?_⟩) (by assumption) ?_
  rotate_left 1
  · intro wz sb
    obtain ⟨y0, y1, y2⟩ := HY6.out wz sb
    go_simp
    all_goals with_reducible rfl
  simp only [Act.put, List.setIfInBounds_toArray, List.set_cons_zero, List.set_cons_succ, List.getElem_toArray, List.getElem_cons_zero, List.getElem_cons_succ]
  refine wpAnyH_ready (rs := [5]) (by kernel_rfl) (by simp) (AllReadyH.cons rfl (fun K hK => ?_) AllReadyH.nil)
  go_simp
  refine (HC6.out _ hHeld).mono ?_
  rintro e W7 ⟨rfl, hb7⟩
  refine hK.out _ _ (belJ hHeld hb7) (fun hHeld => ?_)
  clear hK K hb7
  refine wpAnyH_take (i := 6) (v := ?_) rfl (by kernel_rfl) (by kernel_rfl) (by kernel_rfl) (fun _ _ _ h => h) (Or.inl ⟨by rfl, ?_⟩) (by assumption) ?_
  rotate_left 1
  · intro wz sb
    obtain ⟨y0, y1, y2⟩ := HY6.out wz sb
    go_simp
    all_goals with_reducible rfl
  simp only [Act.put, List.setIfInBounds_toArray, List.set_cons_zero, List.set_cons_succ, List.getElem_toArray, List.getElem_cons_zero, List.getElem_cons_succ]
  refine wpAnyH_done (by kernel_rfl) ?_ _
  have HB7 := hideIt (belJ HB6.out hHeld)
  have HH7 : Hid (W7.heap[V5.heap.size]? = some (opO ⟨false, key, -1, 0⟩)) := (hHeld.block _ (lt_of_heap HH6.out)).trans HH6.out
  clear hHeld HY6 HC6 HB6 HH6
  by_cases hy : 0 < y
  · have hyo := HRd.out hy
    obtain ⟨⟨q1, q2, q3, q4⟩, q5, q6⟩ := op_cells HH7.out
    have qx := (HY.out W7 HB7.out).1.1
    have hyw : IntKind.i64.wrap ((y : Int) - 1) = (y : Int) - 1 := by rw [IntKind.wrap_i64]; omega
    have dy : (0 : Int) < (y : Int) := by omega
    go_wp2_with fail
    clear q1 q2 q3 q4 q5 q6 qx
    have hbF := (HB7.out.setCell (p := ⟨V5.heap.size, 2, none⟩) (Nat.le_refl _) (.int .i64 (t : Int))).setCell (p := ⟨V5.heap.size, 3, none⟩) (Nat.le_refl _) (.int .i64 ((y : Int) - 1))
    have hhF := op_set HH7.out (t : Int) ((y : Int) - 1)
    have HRD := hideIt (hyo)
    have lF := lt_of_heap hhF
    have HXF : Hid (∀ Y, Below V5.heap.size V5 Y ∧ Y.heap[V5.heap.size]? = some (opO ⟨false, key, t, (y : Int) - 1⟩) → Y.cell? ⟨k.T, t * 2, none⟩ = some vq ∧ (Y.cell? ⟨V5.heap.size, 0, none⟩ = some (.bool (⟨false, key, t, (y : Int) - 1⟩ : IOp).wr) ∧ Y.cell? ⟨V5.heap.size, 1, none⟩ = some (.int .i64 (⟨false, key, t, (y : Int) - 1⟩ : IOp).key) ∧ Y.cell? ⟨V5.heap.size, 2, none⟩ = some (.int .i64 (⟨false, key, t, (y : Int) - 1⟩ : IOp).frm) ∧ Y.cell? ⟨V5.heap.size, 3, none⟩ = some (.int .i64 (⟨false, key, t, (y : Int) - 1⟩ : IOp).num))) := fun Y hY => ⟨HX2.out Y hY.1, (op_cells hY.2).1⟩
    generalize (W7.setCell ⟨V5.heap.size, 2, none⟩ (.int .i64 (t : Int))).setCell ⟨V5.heap.size, 3, none⟩ (.int .i64 ((y : Int) - 1)) = VF at *
    refine wp_region_L (B := [7, 10]) (S := (fun _ => True)) (T := (fun w' => Below V5.heap.size V5 w' ∧ w'.heap[V5.heap.size]? = some (opO ⟨false, key, t, (y : Int) - 1⟩))) (by kernel_rfl) ⟨trivial, hbF.drew, hhF⟩ (fun hHeld => ?_)
    clear hbF hhF
    refine wpAnyL_takeS (i := 0) (v := ?_) rfl (by kernel_rfl) (by kernel_rfl) (by kernel_rfl) (by kernel_rfl) (fun _ _ _ h => h) (Or.inl ⟨by rfl, ?_⟩) (by assumption) ?_
    rotate_left 1
    · intro wz _
      go_simp
      all_goals with_reducible rfl
    simp only [Act.put, List.setIfInBounds_toArray, List.set_cons_zero, List.set_cons_succ, List.getElem_toArray, List.getElem_cons_zero]
    refine wpAnyL_takeS (i := 1) (v := ?_) rfl (by kernel_rfl) (by kernel_rfl) (by kernel_rfl) (by kernel_rfl) (fun _ _ _ h => h) (Or.inl ⟨by rfl, ?_⟩) (by assumption) ?_
    rotate_left 1
    · intro wz _
      go_simp
      all_goals with_reducible rfl
    simp only [Act.put, List.setIfInBounds_toArray, List.set_cons_zero, List.set_cons_succ, List.getElem_toArray, List.getElem_cons_zero, List.getElem_cons_succ]
    refine wpAnyL_takeS (i := 2) (v := ?_) rfl (by kernel_rfl) (by kernel_rfl) (by kernel_rfl) (by kernel_rfl) (fun _ _ _ h => h) (Or.inl ⟨by rfl, ?_⟩) (by assumption) ?_
    rotate_left 1
    · intro wz _
      go_simp
      all_goals with_reducible rfl
    simp only [Act.put, List.setIfInBounds_toArray, List.set_cons_zero, List.set_cons_succ, List.getElem_toArray, List.getElem_cons_zero, List.getElem_cons_succ]
    refine wpAnyL_takeS (i := 3) (v := ?_) rfl (by kernel_rfl) (by kernel_rfl) (by kernel_rfl) (by kernel_rfl) (fun _ _ _ h => h) (Or.inl ⟨by rfl, ?_⟩) (by assumption) ?_
    rotate_left 1
    · intro wz _
      go_simp
      all_goals with_reducible rfl
    simp only [Act.put, List.setIfInBounds_toArray, List.set_cons_zero, List.set_cons_succ, List.getElem_toArray, List.getElem_cons_zero, List.getElem_cons_succ]
    refine wpAnyL_take [7, 10] (i := 4) (v := ?_) rfl (by kernel_rfl) (by kernel_rfl) (by kernel_rfl) (by kernel_rfl) (fun _ _ _ h => h) (Or.inl ⟨by rfl, ?_⟩) (by assumption) ?_
    rotate_left 1
    · intro wz sb
      obtain ⟨y0, ⟨y1,y2,y3,y4⟩⟩ := HXF.out wz sb.2
      go_simp
      all_goals with_reducible rfl
    simp only [Act.put, List.setIfInBounds_toArray, List.set_cons_zero, List.set_cons_succ, List.getElem_toArray, List.getElem_cons_zero, List.getElem_cons_succ]
    refine wpAnyL_take [6, 7, 10] (i := 5) (v := ?_) rfl (by kernel_rfl) (by kernel_rfl) (by kernel_rfl) (by kernel_rfl) (fun _ _ _ h => h) (Or.inl ⟨by rfl, ?_⟩) (by assumption) ?_
    rotate_left 1
    · intro wz sb
      obtain ⟨y0, ⟨y1,y2,y3,y4⟩⟩ := HXF.out wz sb.2
      go_simp
      all_goals with_reducible rfl
    simp only [Act.put, List.setIfInBounds_toArray, List.set_cons_zero, List.set_cons_succ, List.getElem_toArray, List.getElem_cons_zero, List.getElem_cons_succ]
    generalize VF.drew = VG at hHeld ⊢
    refine wpAnyL_ready (rs := [6]) (by kernel_rfl) (by simp) (AllReadyL.cons rfl (fun K hK => ?_) AllReadyL.nil)
    go_simp
    have hbA := belA hHeld.2.1 (.cells #[.bool (⟨false, key, t, (y : Int) - 1⟩ : IOp).wr, .int .i64 (⟨false, key, t, (y : Int) - 1⟩ : IOp).key, .int .i64 (⟨false, key, t, (y : Int) - 1⟩ : IOp).frm, .int .i64 (⟨false, key, t, (y : Int) - 1⟩ : IOp).num] 91)
    refine hK.out _ _ ⟨trivial, hbA, ((belA (Below.refl VG.heap.size VG) _).block _ (lt_of_heap hHeld.2.2)).trans hHeld.2.2⟩ (fun hHeld => ?_)
    clear hK K
    obtain ⟨v', W6, hr, hop, hg, hv⟩ := run_appO (HOps.out _ hbA) (B := VG.heap.size) (o := ⟨false, key, t, (y : Int) - 1⟩) (by refine ⟨?_, ?_, ?_, ?_⟩ <;> simp) (by have := HW0.out; have := hbA.size; omega) (by have := HI.out.opl t; omega) 88
    obtain ⟨va', vc', rfl⟩ := ownsRow_slice hop
    obtain ⟨R1, R2, s0, s1⟩ := HPush.out _ _ _ _ hbA hop hg hv
    have HR1 := hideIt R1
    have HR2 := hideIt R2
    refine wpAnyL_ready (rs := [7]) (by kernel_rfl) (by simp) (AllReadyL.last rfl (by kernel_rfl) (fun K hK => ?_) AllReadyL.nil)
    refine step_append_run (by rfl) _ _ 88 (by rfl) _ _ _ W6 (by rfl) (by rfl) hr ?_
    refine hK.out _ _ trivial (fun hHeld => ?_)
    clear hK K
    simp only [Act.put, List.setIfInBounds_toArray, List.set_cons_zero, List.set_cons_succ, List.getElem_toArray, List.getElem_cons_zero, List.getElem_cons_succ]
    clear R1 R2 hop hg hv hr hbA
    generalize (st.ops t ++ [_]).length = ln at *
    refine wpAnyL_takeE (i := 8) (v := ?_) rfl (by kernel_rfl) (by kernel_rfl) (by kernel_rfl) (by kernel_rfl) (by kernel_rfl) (fun _ _ _ h => h) (Or.inl ⟨by rfl, ?_⟩) (by assumption) ?_
    rotate_left 1
    · intro wz _
      go_simp
      all_goals with_reducible rfl
    simp only [Act.put, List.setIfInBounds_toArray, List.set_cons_zero, List.set_cons_succ, List.getElem_toArray, List.getElem_cons_zero, List.getElem_cons_succ]
    refine wpAnyL_takeE (i := 9) (v := ?_) rfl (by kernel_rfl) (by kernel_rfl) (by kernel_rfl) (by kernel_rfl) (by kernel_rfl) (fun _ _ _ h => h) (Or.inl ⟨by rfl, ?_⟩) (by assumption) ?_
    rotate_left 1
    · intro wz _
      go_simp
      all_goals with_reducible rfl
    simp only [Act.put, List.setIfInBounds_toArray, List.set_cons_zero, List.set_cons_succ, List.getElem_toArray, List.getElem_cons_zero, List.getElem_cons_succ]
    refine wpAnyL_ready (rs := [10]) (by kernel_rfl) (by simp) (AllReadyL.last rfl (by kernel_rfl) (fun K hK => ?_) AllReadyL.nil)
    go_simp
    refine hK.out _ _ trivial (fun hHeld => ?_)
    clear hK K
    refine wpAnyL_done (by kernel_rfl) ?_ _
    go_wp2
    go_ret
    exact ⟨_, rfl, by first | exact HR1.out | (rw [HRD.out]; exact HR1.out), HR2.out⟩
  · have hyo := HRb.out hy
    have dy : ¬ (0 : Int) < (y : Int) := by omega
    go_wp2_with fail
    obtain ⟨⟨z0, z1⟩, ⟨z2, z3, z4, z5⟩, z6, z7⟩ := HY.out W7 HB7.out
    go_quiet (fail)
    clear z0 z1 z2 z3 z4 z5 z6 z7
    generalize h8 : World.drewN W7 _ = V8
    have HB8 : Hid (Below V5.heap.size V5 V8) := by rw [← h8]; exact below_drewN HB7.out _
    have HH8 : Hid (V8.heap[V5.heap.size]? = some (opO ⟨false, key, -1, 0⟩)) := by
      rw [← h8]
      exact ((below_drewN (Below.refl W7.heap.size W7) _).block _ (lt_of_heap HH7.out)).trans HH7.out
    clear h8 HB7 HH7
    go_wp2_with fail
    go_loopw [163] (fun v wz => ∃ m : Nat, m ≤ (st.ord key).length ∧ v = .int .i64 m ∧ Below V5.heap.size V5 wz ∧ wz.heap[V5.heap.size]? = some (opO (opF st key (befF st t key m)))) (fun v _ => (st.ord key).length - (intOf v).toNat)
    case atStart => exact ⟨0, by omega, rfl, HB8.out, HH8.out⟩
    case round =>
      obtain ⟨m, hm, rfl, hbm, hhm⟩ := hrel
      rename World => wz
      have HBm := hideIt hbm
      have HHm := hideIt hhm
      clear hbm hhm HB8 HH8
      by_cases hml : m < (st.ord key).length
      · have hml' : (m : Int) < ((st.ord key).length : Int) := by omega
        obtain ⟨va', vc', ev', _, hrd⟩ := HQ.out wz HBm.out
        obtain ⟨rfl, rfl⟩ : va = va' ∧ vc = vc' := by simpa using ev'
        obtain ⟨g, off, rfl, p1⟩ := hrd m (by simpa using hml)
        simp only [List.getElem_map] at p1
        have HBs := hideIt (befF_succ (t := t) hml)
        have hxn := HM.out m hml
        generalize (st.ord key)[m] = x at p1 HBs hxn
        have hxn' : (x : Int) < (n : Int) := by omega
        clear hrd ev'
        obtain ⟨⟨z0, z1⟩, ⟨z2, z3, z4, z5⟩, z6, z7⟩ := HY.out wz HBm.out
        have z8 := HEn.out x hxn wz HBm.out
        go_wp2_with fail
        go_quiet (fail)
        clear z0 z1 z2 z3 z4 z5 z6 z7 z8 p1
        generalize h9 : World.drewN wz _ = V9
        have HB9 : Hid (Below V5.heap.size V5 V9) := by rw [← h9]; exact below_drewN HBm.out _
        have HH9 : Hid (V9.heap[V5.heap.size]? = some (opO (opF st key (befF st t key m)))) := by
          rw [← h9]
          exact ((below_drewN (Below.refl wz.heap.size wz) _).block _ (lt_of_heap HHm.out)).trans HHm.out
        clear h9 HBm HHm
        by_cases hlt : st.en x < st.bg t
        · rw [if_pos hlt] at HBs
          go_wp2_with fail
          obtain ⟨a2, cp2, hcl, hcall⟩ := HT.out x hxn
          have HYx : Hid (∀ Y, Below V5.heap.size V5 Y → (Y.cell? ⟨W.heap.size, 2, none⟩ = some (.int .i64 (key : Int)) ∧ Y.cell? ⟨k.B, 1, none⟩ = some (.slice (some ⟨k.T, 0, none⟩) n n)) ∧ Y.cell? ⟨k.T, x * 2, none⟩ = some (.slice a2 (st.ops x).length cp2) ∧ Y.cell? ⟨k.T, x * 2 + 1, none⟩ = some (.bool (st.com x))) := fun Y hY => ⟨⟨(HY.out Y hY).1.2, (HY.out Y hY).2.1.1⟩, hcl Y hY⟩
          have HCx := hideIt hcall
          clear hcl hcall
          have HOf : Hid (opF st key (some x) = ⟨false, key, x, (wrN (st.ops x) key : Int) - 1⟩) := rfl
          have hy6 : wrN (st.ops x) key ≤ 60 := Nat.le_trans (List.countP_le_length) (HI.out.opl x)
          generalize (st.ops x).length = nx at *
          generalize st.com x = cx at *
          generalize wrN (st.ops x) key = yx at *
          refine wp_region_held_drew (S := (fun w' => Below V5.heap.size V5 w')) (by kernel_rfl) HB9.out.drew (fun hHeld => ?_)
          refine wpAnyH_take (i := 0) (v := ?_) rfl (by kernel_rfl) (by kernel_rfl) (by kernel_rfl) (fun _ _ _ h => h) (Or.inl ⟨by rfl, ?_⟩) (by assumption) ?_
          rotate_left 1
          · intro wz sb
            obtain ⟨⟨y0,y1⟩, y2, y3⟩ := HYx.out wz sb
            go_simp
            all_goals with_reducible rfl
          simp only [Act.put, List.setIfInBounds_toArray, List.set_cons_zero, List.set_cons_succ, List.getElem_toArray, List.getElem_cons_zero]
          refine wpAnyH_take (i := 1) (v := ?_) rfl (by kernel_rfl) (by kernel_rfl) (by kernel_rfl) (fun _ _ _ h => h) (Or.inl ⟨by rfl, ?_⟩) (by assumption) ?_
          rotate_left 1
          · intro wz sb
            obtain ⟨⟨y0,y1⟩, y2, y3⟩ := HYx.out wz sb
            go_simp
            all_goals with_reducible rfl
          simp only [Act.put, List.setIfInBounds_toArray, List.set_cons_zero, List.set_cons_succ, List.getElem_toArray, List.getElem_cons_zero, List.getElem_cons_succ]
          refine wpAnyH_take (i := 2) (v := ?_) rfl (by kernel_rfl) (by kernel_rfl) (by kernel_rfl) (fun _ _ _ h => h) (Or.inl ⟨by rfl, ?_⟩) (by assumption) ?_
          rotate_left 1
          · intro wz sb
            obtain ⟨⟨y0,y1⟩, y2, y3⟩ := HYx.out wz sb
            go_simp
            all_goals with_reducible rfl
          simp only [Act.put, List.setIfInBounds_toArray, List.set_cons_zero, List.set_cons_succ, List.getElem_toArray, List.getElem_cons_zero, List.getElem_cons_succ]
          refine wpAnyH_take (i := 3) (v := ?_) rfl (by kernel_rfl) (by kernel_rfl) (by kernel_rfl) (fun _ _ _ h => h) (Or.inl ⟨by rfl, ?_⟩) (by assumption) ?_
          rotate_left 1
          · intro wz sb
            obtain ⟨⟨y0,y1⟩, y2, y3⟩ := HYx.out wz sb
            go_simp
            all_goals with_reducible rfl
          simp only [Act.put, List.setIfInBounds_toArray, List.set_cons_zero, List.set_cons_succ, List.getElem_toArray, List.getElem_cons_zero, List.getElem_cons_succ]
          refine wpAnyH_take (i := 4) (v := ?_) rfl (by kernel_rfl) (by kernel_rfl) (by kernel_rfl) (fun _ _ _ h => h) (Or.inl ⟨by rfl, ?_⟩) (by assumption) ?_
          rotate_left 1
          · intro wz sb
            obtain ⟨⟨y0,y1⟩, y2, y3⟩ := HYx.out wz sb
            go_simp
            all_goals with_reducible rfl
          simp only [Act.put, List.setIfInBounds_toArray, List.set_cons_zero, List.set_cons_succ, List.getElem_toArray, List.getElem_cons_zero, List.getElem_cons_succ]
          refine wpAnyH_take (i := 5) (v := ?_) rfl (by kernel_rfl) (by kernel_rfl) (by kernel_rfl) (fun _ _ _ h => h) (Or.inl ⟨by rfl, ?_⟩) (by assumption) ?_
          rotate_left 1
          · intro wz sb
            obtain ⟨⟨y0,y1⟩, y2, y3⟩ := HYx.out wz sb
            go_simp
            all_goals with_reducible rfl
          simp only [Act.put, List.setIfInBounds_toArray, List.set_cons_zero, List.set_cons_succ, List.getElem_toArray, List.getElem_cons_zero, List.getElem_cons_succ]
          refine wpAnyH_take (i := 6) (v := ?_) rfl (by kernel_rfl) (by kernel_rfl) (by kernel_rfl) (fun _ _ _ h => h) (Or.inl ⟨by rfl, ?_⟩) (by assumption) ?_
          rotate_left 1
          · intro wz sb
            obtain ⟨⟨y0,y1⟩, y2, y3⟩ := HYx.out wz sb
            go_simp
            all_goals with_reducible rfl
          simp only [Act.put, List.setIfInBounds_toArray, List.set_cons_zero, List.set_cons_succ, List.getElem_toArray, List.getElem_cons_zero, List.getElem_cons_succ]
          refine wpAnyH_take (i := 7) (v := ?_) rfl (by kernel_rfl) (by kernel_rfl) (by kernel_rfl) (fun _ _ _ h => h) (Or.inl ⟨by rfl, ?_⟩) (by assumption) ?_
          rotate_left 1
          · intro wz sb
            obtain ⟨⟨y0,y1⟩, y2, y3⟩ := HYx.out wz sb
            go_simp
            all_goals with_reducible rfl
          simp only [Act.put, List.setIfInBounds_toArray, List.set_cons_zero, List.set_cons_succ, List.getElem_toArray, List.getElem_cons_zero, List.getElem_cons_succ]
          refine wpAnyH_take (i := 8) (v := ?_) rfl (by kernel_rfl) (by kernel_rfl) (by kernel_rfl) (fun _ _ _ h => h) (Or.inl ⟨by rfl, ?_⟩) (by assumption) ?_
          rotate_left 1
          · intro wz sb
            obtain ⟨⟨y0,y1⟩, y2, y3⟩ := HYx.out wz sb
            go_simp
            all_goals with_reducible rfl
          simp only [Act.put, List.setIfInBounds_toArray, List.set_cons_zero, List.set_cons_succ, List.getElem_toArray, List.getElem_cons_zero, List.getElem_cons_succ]
          refine wpAnyH_take (i := 9) (v := ?_) rfl (by kernel_rfl) (by kernel_rfl) (by kernel_rfl) (fun _ _ _ h => h) (Or.inl ⟨by rfl, ?_⟩) (by assumption) ?_
          rotate_left 1
          · intro wz sb
            obtain ⟨⟨y0,y1⟩, y2, y3⟩ := HYx.out wz sb
            go_simp
            all_goals with_reducible rfl
          simp only [Act.put, List.setIfInBounds_toArray, List.set_cons_zero, List.set_cons_succ, List.getElem_toArray, List.getElem_cons_zero, List.getElem_cons_succ]
          refine wpAnyH_take (i := 10) (v := ?_) rfl (by kernel_rfl) (by kernel_rfl) (by kernel_rfl) (fun _ _ _ h => h) (Or.inl ⟨by rfl, ?_⟩) (by assumption) ?_
          rotate_left 1
          · intro wz sb
            obtain ⟨⟨y0,y1⟩, y2, y3⟩ := HYx.out wz sb
            go_simp
            all_goals with_reducible rfl
          simp only [Act.put, List.setIfInBounds_toArray, List.set_cons_zero, List.set_cons_succ, List.getElem_toArray, List.getElem_cons_zero, List.getElem_cons_succ]
          refine wpAnyH_take (i := 13) (v := ?_) rfl (by kernel_rfl) (by kernel_rfl) (by kernel_rfl) (fun _ _ _ h => h) (Or.inl ⟨by rfl, ?_⟩) (by assumption) ?_
          rotate_left 1
          · intro wz sb
            obtain ⟨⟨y0,y1⟩, y2, y3⟩ := HYx.out wz sb
            go_simp
            all_goals with_reducible rfl
          simp only [Act.put, List.setIfInBounds_toArray, List.set_cons_zero, List.set_cons_succ, List.getElem_toArray, List.getElem_cons_zero, List.getElem_cons_succ]
          have HH9' : Hid (V9.drew.heap[V5.heap.size]? = some (opO (opF st key (befF st t key m)))) := HH9.out
          generalize V9.drew = V10 at *
          refine wpAnyH_ready (rs := [11]) (by kernel_rfl) (by simp) (AllReadyH.cons rfl (fun K hK => ?_) AllReadyH.nil)
          go_simp
          refine (HCx.out _ hHeld).mono ?_
          rintro e W11 ⟨rfl, hb11⟩
          refine hK.out _ _ (belJ hHeld hb11) (fun hHeld => ?_)
          clear hK K
          have HH11 : Hid (W11.heap[V5.heap.size]? = some (opO (opF st key (befF st t key m)))) := (hb11.block _ (lt_of_heap HH9'.out)).trans HH9'.out
          clear hb11 HH9 HH9' HB9
          have hyw : IntKind.i64.wrap ((yx : Int) - 1) = (yx : Int) - 1 := by rw [IntKind.wrap_i64]; omega
          refine wpAnyH_take (i := 12) (v := ?_) rfl (by kernel_rfl) (by kernel_rfl) (by kernel_rfl) (fun _ _ _ h => h) (Or.inl ⟨by rfl, ?_⟩) (by assumption) ?_
          rotate_left 1
          · intro wz sb
            obtain ⟨⟨y0,y1⟩, y2, y3⟩ := HYx.out wz sb
            go_simp
            all_goals with_reducible rfl
          simp only [Act.put, List.setIfInBounds_toArray, List.set_cons_zero, List.set_cons_succ, List.getElem_toArray, List.getElem_cons_zero, List.getElem_cons_succ]
          have HB11 := hideIt hHeld
          clear hHeld
          obtain ⟨⟨_, _, q3, _⟩, q5, _⟩ := op_cells HH11.out
          refine wpAnyH_ready (rs := [14]) (by kernel_rfl) (by simp) (AllReadyH.cons rfl (fun K hK => ?_) AllReadyH.nil)
          go_simp
          refine hK.out _ _ (HB11.out.setCell (p := ⟨V5.heap.size, 2, none⟩) (Nat.le_refl _) _) (fun hHeld => ?_)
          clear hK K q3 q5
          have h12 := heap_setCell_same W11 V5.heap.size 2 _ 91 (.int .i64 (x : Int)) HH11.out
          have q4 : (W11.setCell ⟨V5.heap.size, 2, none⟩ (.int .i64 (x : Int))).cell? ⟨V5.heap.size, 3, none⟩ = some (.int .i64 (opF st key (befF st t key m)).num) := by rw [cell_of_row _ _ _ _ 91 _ h12]; rfl
          have q6 : (W11.setCell ⟨V5.heap.size, 2, none⟩ (.int .i64 (x : Int))).frozen? ⟨V5.heap.size, 3, none⟩ = false := frozen_of_row _ _ _ _ 91 h12
          refine wpAnyH_take (i := 15) (v := ?_) rfl (by kernel_rfl) (by kernel_rfl) (by kernel_rfl) (fun _ _ _ h => h) (Or.inl ⟨by rfl, ?_⟩) (by assumption) ?_
          rotate_left 1
          · intro wz sb
            obtain ⟨⟨y0,y1⟩, y2, y3⟩ := HYx.out wz sb
            go_simp
            all_goals with_reducible rfl
          simp only [Act.put, List.setIfInBounds_toArray, List.set_cons_zero, List.set_cons_succ, List.getElem_toArray, List.getElem_cons_zero, List.getElem_cons_succ]
          refine wpAnyH_ready (rs := [16]) (by kernel_rfl) (by simp) (AllReadyH.cons rfl (fun K hK => ?_) AllReadyH.nil)
          go_simp
          refine hK.out _ _ (hHeld.setCell (p := ⟨V5.heap.size, 3, none⟩) (Nat.le_refl _) _) (fun hHeld => ?_)
          clear hK K q4 q6 h12
          refine wpAnyH_done (by kernel_rfl) ?_ _
          have h13 := op_set HH11.out (x : Int) ((yx : Int) - 1)
          rw [(opF_head _ _ _).1, (opF_head _ _ _).2] at h13
          go_wp2_with fail
          go_roundw
          case rel => exact ⟨m + 1, by omega, by go_num, hHeld, by rw [HBs.out, HOf.out]; exact h13⟩
          case measure => simp [intOf]; omega
        · rw [if_neg hlt] at HBs
          go_wp2_with fail
          go_roundw
          case rel => exact ⟨m + 1, by omega, by go_num, HB9.out, by rw [HBs.out]; exact HH9.out⟩
          case measure => simp [intOf]; omega
      · have hml' : ¬ (m : Int) < ((st.ord key).length : Int) := by omega
        obtain rfl : m = (st.ord key).length := by omega
        go_wp2_with fail
        have hbF := HBm.out
        have hhF := HHm.out
        have HRD := hideIt (hyo)
        have lF := lt_of_heap hhF
        have HXF : Hid (∀ Y, Below V5.heap.size V5 Y ∧ Y.heap[V5.heap.size]? = some (opO (opF st key (befF st t key (st.ord key).length))) → Y.cell? ⟨k.T, t * 2, none⟩ = some vq ∧ (Y.cell? ⟨V5.heap.size, 0, none⟩ = some (.bool ((opF st key (befF st t key (st.ord key).length)) : IOp).wr) ∧ Y.cell? ⟨V5.heap.size, 1, none⟩ = some (.int .i64 ((opF st key (befF st t key (st.ord key).length)) : IOp).key) ∧ Y.cell? ⟨V5.heap.size, 2, none⟩ = some (.int .i64 ((opF st key (befF st t key (st.ord key).length)) : IOp).frm) ∧ Y.cell? ⟨V5.heap.size, 3, none⟩ = some (.int .i64 ((opF st key (befF st t key (st.ord key).length)) : IOp).num))) := fun Y hY => ⟨HX2.out Y hY.1, (op_cells hY.2).1⟩
        generalize wz = VF at *
        refine wp_region_L (B := [7, 10]) (S := (fun _ => True)) (T := (fun w' => Below V5.heap.size V5 w' ∧ w'.heap[V5.heap.size]? = some (opO (opF st key (befF st t key (st.ord key).length))))) (by kernel_rfl) ⟨trivial, hbF.drew, hhF⟩ (fun hHeld => ?_)
        clear hbF hhF
        refine wpAnyL_takeS (i := 0) (v := ?_) rfl (by kernel_rfl) (by kernel_rfl) (by kernel_rfl) (by kernel_rfl) (fun _ _ _ h => h) (Or.inl ⟨by rfl, ?_⟩) (by assumption) ?_
        rotate_left 1
        · intro wz _
          go_simp
          all_goals with_reducible rfl
        simp only [Act.put, List.setIfInBounds_toArray, List.set_cons_zero, List.set_cons_succ, List.getElem_toArray, List.getElem_cons_zero]
        refine wpAnyL_takeS (i := 1) (v := ?_) rfl (by kernel_rfl) (by kernel_rfl) (by kernel_rfl) (by kernel_rfl) (fun _ _ _ h => h) (Or.inl ⟨by rfl, ?_⟩) (by assumption) ?_
        rotate_left 1
        · intro wz _
          go_simp
          all_goals with_reducible rfl
        simp only [Act.put, List.setIfInBounds_toArray, List.set_cons_zero, List.set_cons_succ, List.getElem_toArray, List.getElem_cons_zero, List.getElem_cons_succ]
        refine wpAnyL_takeS (i := 2) (v := ?_) rfl (by kernel_rfl) (by kernel_rfl) (by kernel_rfl) (by kernel_rfl) (fun _ _ _ h => h) (Or.inl ⟨by rfl, ?_⟩) (by assumption) ?_
        rotate_left 1
        · intro wz _
          go_simp
          all_goals with_reducible rfl
        simp only [Act.put, List.setIfInBounds_toArray, List.set_cons_zero, List.set_cons_succ, List.getElem_toArray, List.getElem_cons_zero, List.getElem_cons_succ]
        refine wpAnyL_takeS (i := 3) (v := ?_) rfl (by kernel_rfl) (by kernel_rfl) (by kernel_rfl) (by kernel_rfl) (fun _ _ _ h => h) (Or.inl ⟨by rfl, ?_⟩) (by assumption) ?_
        rotate_left 1
        · intro wz _
          go_simp
          all_goals with_reducible rfl
        simp only [Act.put, List.setIfInBounds_toArray, List.set_cons_zero, List.set_cons_succ, List.getElem_toArray, List.getElem_cons_zero, List.getElem_cons_succ]
        refine wpAnyL_take [7, 10] (i := 4) (v := ?_) rfl (by kernel_rfl) (by kernel_rfl) (by kernel_rfl) (by kernel_rfl) (fun _ _ _ h => h) (Or.inl ⟨by rfl, ?_⟩) (by assumption) ?_
        rotate_left 1
        · intro wz sb
          obtain ⟨y0, ⟨y1,y2,y3,y4⟩⟩ := HXF.out wz sb.2
          go_simp
          all_goals with_reducible rfl
        simp only [Act.put, List.setIfInBounds_toArray, List.set_cons_zero, List.set_cons_succ, List.getElem_toArray, List.getElem_cons_zero, List.getElem_cons_succ]
        refine wpAnyL_take [6, 7, 10] (i := 5) (v := ?_) rfl (by kernel_rfl) (by kernel_rfl) (by kernel_rfl) (by kernel_rfl) (fun _ _ _ h => h) (Or.inl ⟨by rfl, ?_⟩) (by assumption) ?_
        rotate_left 1
        · intro wz sb
          obtain ⟨y0, ⟨y1,y2,y3,y4⟩⟩ := HXF.out wz sb.2
          go_simp
          all_goals with_reducible rfl
        simp only [Act.put, List.setIfInBounds_toArray, List.set_cons_zero, List.set_cons_succ, List.getElem_toArray, List.getElem_cons_zero, List.getElem_cons_succ]
        generalize VF.drew = VG at hHeld ⊢
        refine wpAnyL_ready (rs := [6]) (by kernel_rfl) (by simp) (AllReadyL.cons rfl (fun K hK => ?_) AllReadyL.nil)
        go_simp
        have hbA := belA hHeld.2.1 (.cells #[.bool ((opF st key (befF st t key (st.ord key).length)) : IOp).wr, .int .i64 ((opF st key (befF st t key (st.ord key).length)) : IOp).key, .int .i64 ((opF st key (befF st t key (st.ord key).length)) : IOp).frm, .int .i64 ((opF st key (befF st t key (st.ord key).length)) : IOp).num] 91)
        refine hK.out _ _ ⟨trivial, hbA, ((belA (Below.refl VG.heap.size VG) _).block _ (lt_of_heap hHeld.2.2)).trans hHeld.2.2⟩ (fun hHeld => ?_)
        clear hK K
        obtain ⟨v', W6, hr, hop, hg, hv⟩ := run_appO (HOps.out _ hbA) (B := VG.heap.size) (o := (opF st key (befF st t key (st.ord key).length))) (by refine ⟨?_, ?_, ?_, ?_⟩ <;> simp) (by have := HW0.out; have := hbA.size; omega) (by have := HI.out.opl t; omega) 88
        obtain ⟨va', vc', rfl⟩ := ownsRow_slice hop
        obtain ⟨R1, R2, s0, s1⟩ := HPush.out _ _ _ _ hbA hop hg hv
        have HR1 := hideIt R1
        have HR2 := hideIt R2
        refine wpAnyL_ready (rs := [7]) (by kernel_rfl) (by simp) (AllReadyL.last rfl (by kernel_rfl) (fun K hK => ?_) AllReadyL.nil)
        refine step_append_run (by rfl) _ _ 88 (by rfl) _ _ _ W6 (by rfl) (by rfl) hr ?_
        refine hK.out _ _ trivial (fun hHeld => ?_)
        clear hK K
        simp only [Act.put, List.setIfInBounds_toArray, List.set_cons_zero, List.set_cons_succ, List.getElem_toArray, List.getElem_cons_zero, List.getElem_cons_succ]
        clear R1 R2 hop hg hv hr hbA
        generalize (st.ops t ++ [_]).length = ln at *
        refine wpAnyL_takeE (i := 8) (v := ?_) rfl (by kernel_rfl) (by kernel_rfl) (by kernel_rfl) (by kernel_rfl) (by kernel_rfl) (fun _ _ _ h => h) (Or.inl ⟨by rfl, ?_⟩) (by assumption) ?_
        rotate_left 1
        · intro wz _
          go_simp
          all_goals with_reducible rfl
        simp only [Act.put, List.setIfInBounds_toArray, List.set_cons_zero, List.set_cons_succ, List.getElem_toArray, List.getElem_cons_zero, List.getElem_cons_succ]
        refine wpAnyL_takeE (i := 9) (v := ?_) rfl (by kernel_rfl) (by kernel_rfl) (by kernel_rfl) (by kernel_rfl) (by kernel_rfl) (fun _ _ _ h => h) (Or.inl ⟨by rfl, ?_⟩) (by assumption) ?_
        rotate_left 1
        · intro wz _
          go_simp
          all_goals with_reducible rfl
        simp only [Act.put, List.setIfInBounds_toArray, List.set_cons_zero, List.set_cons_succ, List.getElem_toArray, List.getElem_cons_zero, List.getElem_cons_succ]
        refine wpAnyL_ready (rs := [10]) (by kernel_rfl) (by simp) (AllReadyL.last rfl (by kernel_rfl) (fun K hK => ?_) AllReadyL.nil)
        go_simp
        refine hK.out _ _ trivial (fun hHeld => ?_)
        clear hK K
        refine wpAnyL_done (by kernel_rfl) ?_ _
        go_wp2
        go_ret
        exact ⟨_, rfl, by first | exact HR1.out | (rw [HRD.out]; exact HR1.out), HR2.out⟩
end
end Go.Proofs.YtaopigjhdkdklaaDoor
