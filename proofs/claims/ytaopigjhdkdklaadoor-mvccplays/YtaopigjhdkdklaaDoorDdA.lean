/-
  The document's Do, walked, at what may be asked: all but a read.
-/
import Derived.Test.YtaopigjhdkdklaaDoorDcW
import Derived.Test.YtaopigjhdkdklaaDoorPxW
import Derived.BigQuiet
namespace Go.Proofs.YtaopigjhdkdklaaDoor
open Go.RowKit

/-- What the document's Do tells and leaves. -/
def DdTold (w0 W : World) (k : DbK) (c : Bool) (n : Nat) (x : Int) (st' : MvS) (e : Ending) (W' : World) : Prop := ∃ k', e = .returned (.int .i64 x) ∧ DocB w0 W' k' c n st' ∧ DFr k n W W' k'
section
variable {w0 W : World} {k : DbK} {c : Bool} {n : Nat} {st : MvS}

set_option maxRecDepth 100000 in
set_option maxHeartbeats 8000000 in
theorem ddo_begin (h : DocB w0 W k c n st) (hI : MvI n st) (htm : st.tm ≤ 1000) {t : Nat} (ht : t < n) (hov : st.ov t = false) (hbg : st.bg t = -1) :
    Calls Tryd.prog 12 #[.pointer (some ⟨k.B, 0, none⟩), .agg #[.int .i64 (t : Int), .int .i64 1, .int .i64 0]] W fun e W' => DdTold w0 W k c n 0 (begM st t) e W' := by
  have HI := hideIt hI
  have HW : Hid (∀ b, k.own n b → b < W.heap.size) := fun b hb => (h.own_lt hb).2
  have hV0 : Below W.heap.size W (W.alloc (.cells #[.int .i64 (t : Int), .int .i64 1, .int .i64 0] 36)) := belA (Below.refl _ _) _
  have hbx0 := heap_alloc_new W (.cells #[.int .i64 (t : Int), .int .i64 1, .int .i64 0] 36)
  have hdV0 := h.below hV0
  have hti : (t : Int) < (n : Int) := by omega
  have htm0 := hI.tm0
  have hwr : IntKind.i64.wrap (st.tm + 1) = st.tm + 1 := by rw [IntKind.wrap_i64]; omega
  have hl60 := hI.opl t
  have hnB : W.heap.size ≠ k.B := by
    have := HW.out k.B (.inl rfl)
    omega
  clear h hI
  go_enter Tryd.func12, Tryd.ntmps12
  go_wp2_with fail
  generalize W.alloc (.cells #[.int .i64 (t : Int), .int .i64 1, .int .i64 0] 36) = V at *
  have HD := hideIt hdV0
  have HF : Hid (DFr k n W V k) := DFr.below hV0
  have HBx := hideIt hbx0
  obtain ⟨_, d1, d2, d3, d4, d5, d6⟩ := hdV0.cells
  obtain ⟨ab, cb, evb, hcb, hbgr⟩ := tim_at hdV0.bg
  obtain ⟨gb, rfl, hgb, b1⟩ := hbgr t ht
  rw [evb] at d3
  have o1 := hdV0.ov.bit t ht
  rw [hov] at o1
  obtain ⟨oa, ocp, t1, t2, hoc, hoq, hwrt⟩ := hdV0.wrote (fun u => HI.out.opl u) ht 0
  have lB := hdV0.lt
  have lT := (hdV0.own_lt (.inr (.inl rfl) : k.own n k.T)).2
  have lO := (hdV0.own_lt (.inr (.inr (.inr (.inl rfl))) : k.own n k.O)).2
  have lb := (ownsRow_block hdV0.bg gb hgb).2.1
  have lx := lt_of_heap hbx0
  have x0 : V.cell? ⟨W.heap.size, 0, none⟩ = some (.int .i64 (t : Int)) := by rw [cell_of_row _ _ _ _ 36 _ hbx0]; rfl
  have x1 : V.cell? ⟨W.heap.size, 1, none⟩ = some (.int .i64 1) := by rw [cell_of_row _ _ _ _ 36 _ hbx0]; rfl
  have x2 : V.cell? ⟨W.heap.size, 2, none⟩ = some (.int .i64 0) := by rw [cell_of_row _ _ _ _ 36 _ hbx0]; rfl
  have HC : Hid (∀ Y, Below V.heap.size V Y → (Y.cell? ⟨W.heap.size, 0, none⟩ = some (.int .i64 (t : Int)) ∧ Y.cell? ⟨W.heap.size, 1, none⟩ = some (.int .i64 1) ∧ Y.cell? ⟨W.heap.size, 2, none⟩ = some (.int .i64 0)) ∧ (Y.cell? ⟨k.B, 1, none⟩ = some (.slice (some ⟨k.T, 0, none⟩) n n) ∧ Y.cell? ⟨k.B, 2, none⟩ = some (.slice (some ⟨k.R, 0, none⟩) 8 8) ∧ Y.cell? ⟨k.B, 3, none⟩ = some (.slice (some ⟨gb, 0, none⟩) n cb) ∧ Y.cell? ⟨k.B, 5, none⟩ = some (.slice (some ⟨k.O, 0, none⟩) n n) ∧ Y.cell? ⟨k.B, 6, none⟩ = some (.int .i64 st.tm)) ∧ (Y.cell? ⟨gb, t, none⟩ = some (.int .i64 (st.bg t)) ∧ Y.cell? ⟨k.O, t, none⟩ = some (.bool false) ∧ Y.cell? ⟨k.T, t * 2, none⟩ = some (.slice oa (st.ops t).length ocp) ∧ Y.cell? ⟨k.T, t * 2 + 1, none⟩ = some (.bool (st.com t)))) := fun Y hY => ⟨⟨(hY.cell (p := ⟨W.heap.size, 0, none⟩) lx).trans x0, (hY.cell (p := ⟨W.heap.size, 1, none⟩) lx).trans x1, (hY.cell (p := ⟨W.heap.size, 2, none⟩) lx).trans x2⟩, ⟨(hY.cell (p := ⟨k.B, 1, none⟩) lB).trans d1, (hY.cell (p := ⟨k.B, 2, none⟩) lB).trans d2, (hY.cell (p := ⟨k.B, 3, none⟩) lB).trans d3, (hY.cell (p := ⟨k.B, 5, none⟩) lB).trans d5, (hY.cell (p := ⟨k.B, 6, none⟩) lB).trans d6⟩, (hY.cell (p := ⟨gb, t, none⟩) lb).trans b1, (hY.cell (p := ⟨k.O, t, none⟩) lO).trans o1, (hY.cell (p := ⟨k.T, t * 2, none⟩) lT).trans t1, (hY.cell (p := ⟨k.T, t * 2 + 1, none⟩) lT).trans t2⟩
  have g0 : decide ((t : Int) < 0) = false := decide_eq_false (by omega)
  have g1 : ¬ (n : Int) ≤ (t : Int) := by omega
  have hb0 : ¬ (0 : Int) ≤ st.bg t := by omega
  clear hdV0 hbx0 hV0 d1 d2 d3 d4 d5 d6 evb hbgr b1 o1 t1 t2 hoq hwrt lB lT lO lb lx x0 x1 x2 hov hbg
  obtain ⟨⟨z0, z1, z2⟩, ⟨z3, z4, z5, z6, z7⟩, z8, z9, z10, z11⟩ := HC.out V (Below.refl _ _)
  go_quiet (fail)
  clear z0 z1 z2 z3 z4 z5 z6 z7 z8 z9 z10 z11
  generalize hV1 : World.drewN V _ = V1
  have hbV1 : Below V.heap.size V V1 := by rw [← hV1]; exact below_drewN (Below.refl _ _) _
  clear hV1
  obtain ⟨⟨z0, z1, z2⟩, ⟨z3, z4, z5, z6, z7⟩, z8, z9, z10, z11⟩ := HC.out V1 hbV1
  go_wp2_with fail
  clear z0 z1 z2 z3 z4 z5 z6 z7 z8 z9 z10 z11
  obtain ⟨⟨z0, z1, z2⟩, ⟨z3, z4, z5, z6, z7⟩, z8, z9, z10, z11⟩ := HC.out V1 hbV1
  go_quiet (fail)
  clear z0 z1 z2 z3 z4 z5 z6 z7 z8 z9 z10 z11
  generalize hV2 : World.drewN V1 _ = V2
  have hbV2 : Below V.heap.size V V2 := by rw [← hV2]; exact below_drewN hbV1 _
  clear hV2
  obtain ⟨⟨z0, z1, z2⟩, ⟨z3, z4, z5, z6, z7⟩, z8, z9, z10, z11⟩ := HC.out V2 hbV2
  go_wp2_with fail
  clear z0 z1 z2 z3 z4 z5 z6 z7 z8 z9 z10 z11
  obtain ⟨⟨z0, z1, z2⟩, ⟨z3, z4, z5, z6, z7⟩, z8, z9, z10, z11⟩ := HC.out V2 hbV2
  go_quiet (fail)
  clear z0 z1 z2 z3 z4 z5 z6 z7 z8 z9 z10 z11
  generalize hV3 : World.drewN V2 _ = V3
  have hbV3 : Below V.heap.size V V3 := by rw [← hV3]; exact below_drewN hbV2 _
  clear hV3
  obtain ⟨⟨z0, z1, z2⟩, ⟨z3, z4, z5, z6, z7⟩, z8, z9, z10, z11⟩ := HC.out V3 hbV3
  go_wp2_with fail
  clear z0 z1 z2 z3 z4 z5 z6 z7 z8 z9 z10 z11
  obtain ⟨⟨z0, z1, z2⟩, ⟨z3, z4, z5, z6, z7⟩, z8, z9, z10, z11⟩ := HC.out V3 hbV3
  go_quiet (fail)
  clear z0 z1 z2 z3 z4 z5 z6 z7 z8 z9 z10 z11
  generalize hV4 : World.drewN V3 _ = V4
  have hbV4 : Below V.heap.size V V4 := by rw [← hV4]; exact below_drewN hbV3 _
  clear hV4
  obtain ⟨bl, gl⟩ : ∃ bl, ((((st.ops t).length : Nat) : Int) == 60) = bl := ⟨_, rfl⟩
  obtain ⟨⟨z0, z1, z2⟩, ⟨z3, z4, z5, z6, z7⟩, z8, z9, z10, z11⟩ := HC.out V4 hbV4
  have hd4 := HD.out.below hbV4
  have zf := hd4.fz 6
  have HD5 := hideIt (hd4.setTm (st.tm + 1))
  have HF5 : Hid (DFr k n W (V4.setCell ⟨k.B, 6, none⟩ (.int .i64 (st.tm + 1))) k) := (HF.out.trans (DFr.below hbV4)).trans (DFr.set (p := ⟨k.B, 6, none⟩) (.inl rfl) _)
  have HBx5 : Hid ((V4.setCell ⟨k.B, 6, none⟩ (.int .i64 (st.tm + 1))).heap[W.heap.size]? = V.heap[W.heap.size]?) := (Below.heap_setCell _ ⟨k.B, 6, none⟩ _ _ hnB).trans (hbV4.block _ (lt_of_heap HBx.out))
  clear hd4
  cases bl
  · go_wp2_with fail
    clear z0 z1 z2 z3 z4 z5 z6 z7 z8 z9 z10 z11 zf
    generalize V4.setCell ⟨k.B, 6, none⟩ (.int .i64 (st.tm + 1)) = V5 at *
    have hbx5 := HBx5.out.trans HBx.out
    have x0 : V5.cell? ⟨W.heap.size, 0, none⟩ = some (.int .i64 (t : Int)) := by rw [cell_of_row _ _ _ _ 36 _ hbx5]; rfl
    have x1 : V5.cell? ⟨W.heap.size, 1, none⟩ = some (.int .i64 1) := by rw [cell_of_row _ _ _ _ 36 _ hbx5]; rfl
    have x2 : V5.cell? ⟨W.heap.size, 2, none⟩ = some (.int .i64 0) := by rw [cell_of_row _ _ _ _ 36 _ hbx5]; rfl
    have lx := lt_of_heap hbx5
    obtain ⟨_, d1, d2, d3, d4, d5, d6⟩ := HD5.out.cells
    dsimp only at d6
    have lB := HD5.out.lt
    have HX : Hid (∀ Y, Below V5.heap.size V5 Y → (Y.cell? ⟨W.heap.size, 0, none⟩ = some (.int .i64 (t : Int)) ∧ Y.cell? ⟨W.heap.size, 2, none⟩ = some (.int .i64 0)) ∧ Y.cell? ⟨k.B, 3, none⟩ = some k.vb ∧ Y.cell? ⟨k.B, 5, none⟩ = some (.slice (some ⟨k.O, 0, none⟩) n n) ∧ Y.cell? ⟨k.B, 6, none⟩ = some (.int .i64 (st.tm + 1))) := fun Y hY => ⟨⟨(hY.cell (p := ⟨W.heap.size, 0, none⟩) lx).trans x0, (hY.cell (p := ⟨W.heap.size, 2, none⟩) lx).trans x2⟩, (hY.cell (p := ⟨k.B, 3, none⟩) lB).trans d3, (hY.cell (p := ⟨k.B, 5, none⟩) lB).trans d5, (hY.cell (p := ⟨k.B, 6, none⟩) lB).trans d6⟩
    clear HC HD HF HBx HBx5 hbV1 hbV2 hbV3 hbV4 d1 d2 d3 d4 d5 d6 lB
    obtain ⟨ab5, cb5, evb5, hcb5, hbg5⟩ := tim_at HD5.out.bg
    obtain ⟨gb5, rfl, hgb5, b5⟩ := hbg5 t ht
    rw [evb5] at HX
    have HD7 : Hid (DocB w0 (V5.drew.setCell ⟨gb5, t, none⟩ (.int .i64 (st.tm + 1))) k c n (begM st t)) := (HD5.out.below (Below.refl _ _).drew).setBg ht (st.tm + 1) hgb5
    have HF7 : Hid (DFr k n W (V5.drew.setCell ⟨gb5, t, none⟩ (.int .i64 (st.tm + 1))) k) := (HF5.out.trans (DFr.below (Below.refl _ _).drew)).trans (DFr.set (p := ⟨gb5, t, none⟩) (.inr (.inr (.inr (.inr (.inl hgb5))))) (.int .i64 (st.tm + 1)))
    have e1 : V5.drew.cell? ⟨gb5, t, none⟩ = some (.int .i64 (st.bg t)) := b5
    have e2 : V5.drew.frozen? ⟨gb5, t, none⟩ = false := by
      obtain ⟨_, _, cur, hc⟩ := ownsRow_block HD5.out.bg gb5 hgb5
      exact frozen_of_row _ _ _ _ 3 hc
    clear hbg5 evb5 hbx5 b5
    go_wp2_with fail
    refine wp_region_L (B := [11]) (S := (fun _ => True)) (T := (fun w' => Below V5.heap.size V5 w')) (by kernel_rfl) ⟨trivial, (Below.refl _ _).drew⟩ (fun hHeld => ?_)
    refine wpAnyL_takeS (i := 0) (v := ?_) rfl (by kernel_rfl) (by kernel_rfl) (by kernel_rfl) (by kernel_rfl) (fun _ _ _ h => h) (Or.inl ⟨by rfl, ?_⟩) (by assumption) ?_
    rotate_left 1
    · intro wz _
      go_simp
      all_goals with_reducible rfl
    simp only [Act.put, List.setIfInBounds_toArray, List.set_cons_zero, List.set_cons_succ, List.getElem_toArray, List.getElem_cons_zero]
    refine wpAnyL_takeS (i := 1) (v := ?_) rfl (by kernel_rfl) (by kernel_rfl) (by kernel_rfl) (by kernel_rfl) (fun _ _ _ h => h) (Or.inl ⟨by rfl, ?_⟩) (by assumption) ?_
    rotate_left 1
    · intro wz _
      go_simp
      all_goals with_reducible rfl
    simp only [Act.put, List.setIfInBounds_toArray, List.set_cons_zero, List.set_cons_succ, List.getElem_toArray, List.getElem_cons_zero, List.getElem_cons_succ]
    refine wpAnyL_takeS (i := 2) (v := ?_) rfl (by kernel_rfl) (by kernel_rfl) (by kernel_rfl) (by kernel_rfl) (fun _ _ _ h => h) (Or.inl ⟨by rfl, ?_⟩) (by assumption) ?_
    rotate_left 1
    · intro wz _
      go_simp
      all_goals with_reducible rfl
    simp only [Act.put, List.setIfInBounds_toArray, List.set_cons_zero, List.set_cons_succ, List.getElem_toArray, List.getElem_cons_zero, List.getElem_cons_succ]
    refine wpAnyL_take [10, 11] (i := 3) (v := ?_) rfl (by kernel_rfl) (by kernel_rfl) (by kernel_rfl) (by kernel_rfl) (fun _ _ _ h => h) (Or.inl ⟨by rfl, ?_⟩) (by assumption) ?_
    rotate_left 1
    · intro wz sb
      obtain ⟨⟨y0,y2⟩, y3, y4, y5⟩ := HX.out wz sb.2
      go_simp
      all_goals with_reducible rfl
    simp only [Act.put, List.setIfInBounds_toArray, List.set_cons_zero, List.set_cons_succ, List.getElem_toArray, List.getElem_cons_zero, List.getElem_cons_succ]
    refine wpAnyL_takeS (i := 4) (v := ?_) rfl (by kernel_rfl) (by kernel_rfl) (by kernel_rfl) (by kernel_rfl) (fun _ _ _ h => h) (Or.inl ⟨by rfl, ?_⟩) (by assumption) ?_
    rotate_left 1
    · intro wz _
      go_simp
      all_goals with_reducible rfl
    simp only [Act.put, List.setIfInBounds_toArray, List.set_cons_zero, List.set_cons_succ, List.getElem_toArray, List.getElem_cons_zero, List.getElem_cons_succ]
    refine wpAnyL_take [10, 11] (i := 5) (v := ?_) rfl (by kernel_rfl) (by kernel_rfl) (by kernel_rfl) (by kernel_rfl) (fun _ _ _ h => h) (Or.inl ⟨by rfl, ?_⟩) (by assumption) ?_
    rotate_left 1
    · intro wz sb
      obtain ⟨⟨y0,y2⟩, y3, y4, y5⟩ := HX.out wz sb.2
      go_simp
      all_goals with_reducible rfl
    simp only [Act.put, List.setIfInBounds_toArray, List.set_cons_zero, List.set_cons_succ, List.getElem_toArray, List.getElem_cons_zero, List.getElem_cons_succ]
    refine wpAnyL_takeS (i := 6) (v := ?_) rfl (by kernel_rfl) (by kernel_rfl) (by kernel_rfl) (by kernel_rfl) (fun _ _ _ h => h) (Or.inl ⟨by rfl, ?_⟩) (by assumption) ?_
    rotate_left 1
    · intro wz _
      go_simp
      all_goals with_reducible rfl
    simp only [Act.put, List.setIfInBounds_toArray, List.set_cons_zero, List.set_cons_succ, List.getElem_toArray, List.getElem_cons_zero, List.getElem_cons_succ]
    refine wpAnyL_takeS (i := 7) (v := ?_) rfl (by kernel_rfl) (by kernel_rfl) (by kernel_rfl) (by kernel_rfl) (fun _ _ _ h => h) (Or.inl ⟨by rfl, ?_⟩) (by assumption) ?_
    rotate_left 1
    · intro wz _
      go_simp
      all_goals with_reducible rfl
    simp only [Act.put, List.setIfInBounds_toArray, List.set_cons_zero, List.set_cons_succ, List.getElem_toArray, List.getElem_cons_zero, List.getElem_cons_succ]
    refine wpAnyL_takeS (i := 8) (v := ?_) rfl (by kernel_rfl) (by kernel_rfl) (by kernel_rfl) (by kernel_rfl) (fun _ _ _ h => h) (Or.inl ⟨by rfl, ?_⟩) (by assumption) ?_
    rotate_left 1
    · intro wz _
      go_simp
      all_goals with_reducible rfl
    simp only [Act.put, List.setIfInBounds_toArray, List.set_cons_zero, List.set_cons_succ, List.getElem_toArray, List.getElem_cons_zero, List.getElem_cons_succ]
    refine wpAnyL_take [11] (i := 9) (v := ?_) rfl (by kernel_rfl) (by kernel_rfl) (by kernel_rfl) (by kernel_rfl) (fun _ _ _ h => h) (Or.inl ⟨by rfl, ?_⟩) (by assumption) ?_
    rotate_left 1
    · intro wz sb
      obtain ⟨⟨y0,y2⟩, y3, y4, y5⟩ := HX.out wz sb.2
      go_simp
      all_goals with_reducible rfl
    simp only [Act.put, List.setIfInBounds_toArray, List.set_cons_zero, List.set_cons_succ, List.getElem_toArray, List.getElem_cons_zero, List.getElem_cons_succ]
    refine wpAnyL_takeS (i := 10) (v := ?_) rfl (by kernel_rfl) (by kernel_rfl) (by kernel_rfl) (by kernel_rfl) (fun _ _ _ h => h) (Or.inl ⟨by rfl, ?_⟩) (by assumption) ?_
    rotate_left 1
    · intro wz _
      go_simp
      all_goals with_reducible rfl
    simp only [Act.put, List.setIfInBounds_toArray, List.set_cons_zero, List.set_cons_succ, List.getElem_toArray, List.getElem_cons_zero, List.getElem_cons_succ]
    refine wpAnyL_ready (rs := [11]) (by kernel_rfl) (by simp) (AllReadyL.last rfl (by kernel_rfl) (fun K hK => ?_) AllReadyL.nil)
    go_simp
    refine hK.out _ _ trivial (fun hHeld => ?_)
    clear hK K
    refine wpAnyL_done (by kernel_rfl) ?_ _
    clear HX x0 x1 x2 e1 e2
    go_wp2
    go_ret
    exact ⟨k, rfl, HD7.out, HF7.out⟩
  · go_wp2_with fail
    clear z0 z1 z2 z3 z4 z5 z6 z7 z8 z9 z10 z11 zf
    generalize V4.setCell ⟨k.B, 6, none⟩ (.int .i64 (st.tm + 1)) = V5 at *
    have hbx5 := HBx5.out.trans HBx.out
    have x0 : V5.cell? ⟨W.heap.size, 0, none⟩ = some (.int .i64 (t : Int)) := by rw [cell_of_row _ _ _ _ 36 _ hbx5]; rfl
    have x1 : V5.cell? ⟨W.heap.size, 1, none⟩ = some (.int .i64 1) := by rw [cell_of_row _ _ _ _ 36 _ hbx5]; rfl
    have x2 : V5.cell? ⟨W.heap.size, 2, none⟩ = some (.int .i64 0) := by rw [cell_of_row _ _ _ _ 36 _ hbx5]; rfl
    have lx := lt_of_heap hbx5
    obtain ⟨_, d1, d2, d3, d4, d5, d6⟩ := HD5.out.cells
    dsimp only at d6
    have lB := HD5.out.lt
    have HX : Hid (∀ Y, Below V5.heap.size V5 Y → (Y.cell? ⟨W.heap.size, 0, none⟩ = some (.int .i64 (t : Int)) ∧ Y.cell? ⟨W.heap.size, 2, none⟩ = some (.int .i64 0)) ∧ Y.cell? ⟨k.B, 3, none⟩ = some k.vb ∧ Y.cell? ⟨k.B, 5, none⟩ = some (.slice (some ⟨k.O, 0, none⟩) n n) ∧ Y.cell? ⟨k.B, 6, none⟩ = some (.int .i64 (st.tm + 1))) := fun Y hY => ⟨⟨(hY.cell (p := ⟨W.heap.size, 0, none⟩) lx).trans x0, (hY.cell (p := ⟨W.heap.size, 2, none⟩) lx).trans x2⟩, (hY.cell (p := ⟨k.B, 3, none⟩) lB).trans d3, (hY.cell (p := ⟨k.B, 5, none⟩) lB).trans d5, (hY.cell (p := ⟨k.B, 6, none⟩) lB).trans d6⟩
    clear HC HD HF HBx HBx5 hbV1 hbV2 hbV3 hbV4 d1 d2 d3 d4 d5 d6 lB
    obtain ⟨ab5, cb5, evb5, hcb5, hbg5⟩ := tim_at HD5.out.bg
    obtain ⟨gb5, rfl, hgb5, b5⟩ := hbg5 t ht
    rw [evb5] at HX
    have HD7 : Hid (DocB w0 (V5.drew.setCell ⟨gb5, t, none⟩ (.int .i64 (st.tm + 1))) k c n (begM st t)) := (HD5.out.below (Below.refl _ _).drew).setBg ht (st.tm + 1) hgb5
    have HF7 : Hid (DFr k n W (V5.drew.setCell ⟨gb5, t, none⟩ (.int .i64 (st.tm + 1))) k) := (HF5.out.trans (DFr.below (Below.refl _ _).drew)).trans (DFr.set (p := ⟨gb5, t, none⟩) (.inr (.inr (.inr (.inr (.inl hgb5))))) (.int .i64 (st.tm + 1)))
    have e1 : V5.drew.cell? ⟨gb5, t, none⟩ = some (.int .i64 (st.bg t)) := b5
    have e2 : V5.drew.frozen? ⟨gb5, t, none⟩ = false := by
      obtain ⟨_, _, cur, hc⟩ := ownsRow_block HD5.out.bg gb5 hgb5
      exact frozen_of_row _ _ _ _ 3 hc
    clear hbg5 evb5 hbx5 b5
    go_wp2_with fail
    refine wp_region_L (B := [11]) (S := (fun _ => True)) (T := (fun w' => Below V5.heap.size V5 w')) (by kernel_rfl) ⟨trivial, (Below.refl _ _).drew⟩ (fun hHeld => ?_)
    refine wpAnyL_takeS (i := 0) (v := ?_) rfl (by kernel_rfl) (by kernel_rfl) (by kernel_rfl) (by kernel_rfl) (fun _ _ _ h => h) (Or.inl ⟨by rfl, ?_⟩) (by assumption) ?_
    rotate_left 1
    · intro wz _
      go_simp
      all_goals with_reducible rfl
    simp only [Act.put, List.setIfInBounds_toArray, List.set_cons_zero, List.set_cons_succ, List.getElem_toArray, List.getElem_cons_zero]
    refine wpAnyL_takeS (i := 1) (v := ?_) rfl (by kernel_rfl) (by kernel_rfl) (by kernel_rfl) (by kernel_rfl) (fun _ _ _ h => h) (Or.inl ⟨by rfl, ?_⟩) (by assumption) ?_
    rotate_left 1
    · intro wz _
      go_simp
      all_goals with_reducible rfl
    simp only [Act.put, List.setIfInBounds_toArray, List.set_cons_zero, List.set_cons_succ, List.getElem_toArray, List.getElem_cons_zero, List.getElem_cons_succ]
    refine wpAnyL_takeS (i := 2) (v := ?_) rfl (by kernel_rfl) (by kernel_rfl) (by kernel_rfl) (by kernel_rfl) (fun _ _ _ h => h) (Or.inl ⟨by rfl, ?_⟩) (by assumption) ?_
    rotate_left 1
    · intro wz _
      go_simp
      all_goals with_reducible rfl
    simp only [Act.put, List.setIfInBounds_toArray, List.set_cons_zero, List.set_cons_succ, List.getElem_toArray, List.getElem_cons_zero, List.getElem_cons_succ]
    refine wpAnyL_take [10, 11] (i := 3) (v := ?_) rfl (by kernel_rfl) (by kernel_rfl) (by kernel_rfl) (by kernel_rfl) (fun _ _ _ h => h) (Or.inl ⟨by rfl, ?_⟩) (by assumption) ?_
    rotate_left 1
    · intro wz sb
      obtain ⟨⟨y0,y2⟩, y3, y4, y5⟩ := HX.out wz sb.2
      go_simp
      all_goals with_reducible rfl
    simp only [Act.put, List.setIfInBounds_toArray, List.set_cons_zero, List.set_cons_succ, List.getElem_toArray, List.getElem_cons_zero, List.getElem_cons_succ]
    refine wpAnyL_takeS (i := 4) (v := ?_) rfl (by kernel_rfl) (by kernel_rfl) (by kernel_rfl) (by kernel_rfl) (fun _ _ _ h => h) (Or.inl ⟨by rfl, ?_⟩) (by assumption) ?_
    rotate_left 1
    · intro wz _
      go_simp
      all_goals with_reducible rfl
    simp only [Act.put, List.setIfInBounds_toArray, List.set_cons_zero, List.set_cons_succ, List.getElem_toArray, List.getElem_cons_zero, List.getElem_cons_succ]
    refine wpAnyL_take [10, 11] (i := 5) (v := ?_) rfl (by kernel_rfl) (by kernel_rfl) (by kernel_rfl) (by kernel_rfl) (fun _ _ _ h => h) (Or.inl ⟨by rfl, ?_⟩) (by assumption) ?_
    rotate_left 1
    · intro wz sb
      obtain ⟨⟨y0,y2⟩, y3, y4, y5⟩ := HX.out wz sb.2
      go_simp
      all_goals with_reducible rfl
    simp only [Act.put, List.setIfInBounds_toArray, List.set_cons_zero, List.set_cons_succ, List.getElem_toArray, List.getElem_cons_zero, List.getElem_cons_succ]
    refine wpAnyL_takeS (i := 6) (v := ?_) rfl (by kernel_rfl) (by kernel_rfl) (by kernel_rfl) (by kernel_rfl) (fun _ _ _ h => h) (Or.inl ⟨by rfl, ?_⟩) (by assumption) ?_
    rotate_left 1
    · intro wz _
      go_simp
      all_goals with_reducible rfl
    simp only [Act.put, List.setIfInBounds_toArray, List.set_cons_zero, List.set_cons_succ, List.getElem_toArray, List.getElem_cons_zero, List.getElem_cons_succ]
    refine wpAnyL_takeS (i := 7) (v := ?_) rfl (by kernel_rfl) (by kernel_rfl) (by kernel_rfl) (by kernel_rfl) (fun _ _ _ h => h) (Or.inl ⟨by rfl, ?_⟩) (by assumption) ?_
    rotate_left 1
    · intro wz _
      go_simp
      all_goals with_reducible rfl
    simp only [Act.put, List.setIfInBounds_toArray, List.set_cons_zero, List.set_cons_succ, List.getElem_toArray, List.getElem_cons_zero, List.getElem_cons_succ]
    refine wpAnyL_takeS (i := 8) (v := ?_) rfl (by kernel_rfl) (by kernel_rfl) (by kernel_rfl) (by kernel_rfl) (fun _ _ _ h => h) (Or.inl ⟨by rfl, ?_⟩) (by assumption) ?_
    rotate_left 1
    · intro wz _
      go_simp
      all_goals with_reducible rfl
    simp only [Act.put, List.setIfInBounds_toArray, List.set_cons_zero, List.set_cons_succ, List.getElem_toArray, List.getElem_cons_zero, List.getElem_cons_succ]
    refine wpAnyL_take [11] (i := 9) (v := ?_) rfl (by kernel_rfl) (by kernel_rfl) (by kernel_rfl) (by kernel_rfl) (fun _ _ _ h => h) (Or.inl ⟨by rfl, ?_⟩) (by assumption) ?_
    rotate_left 1
    · intro wz sb
      obtain ⟨⟨y0,y2⟩, y3, y4, y5⟩ := HX.out wz sb.2
      go_simp
      all_goals with_reducible rfl
    simp only [Act.put, List.setIfInBounds_toArray, List.set_cons_zero, List.set_cons_succ, List.getElem_toArray, List.getElem_cons_zero, List.getElem_cons_succ]
    refine wpAnyL_takeS (i := 10) (v := ?_) rfl (by kernel_rfl) (by kernel_rfl) (by kernel_rfl) (by kernel_rfl) (fun _ _ _ h => h) (Or.inl ⟨by rfl, ?_⟩) (by assumption) ?_
    rotate_left 1
    · intro wz _
      go_simp
      all_goals with_reducible rfl
    simp only [Act.put, List.setIfInBounds_toArray, List.set_cons_zero, List.set_cons_succ, List.getElem_toArray, List.getElem_cons_zero, List.getElem_cons_succ]
    refine wpAnyL_ready (rs := [11]) (by kernel_rfl) (by simp) (AllReadyL.last rfl (by kernel_rfl) (fun K hK => ?_) AllReadyL.nil)
    go_simp
    refine hK.out _ _ trivial (fun hHeld => ?_)
    clear hK K
    refine wpAnyL_done (by kernel_rfl) ?_ _
    clear HX x0 x1 x2 e1 e2
    go_wp2
    go_ret
    exact ⟨k, rfl, HD7.out, HF7.out⟩

set_option maxRecDepth 100000 in
set_option maxHeartbeats 8000000 in
theorem ddo_write (h : DocB w0 W k c n st) (hI : MvI n st) (htm : st.tm ≤ 1000) {t key : Nat} (ht : t < n) (hk8 : key < 8) (hov : st.ov t = false) (hbg : 0 < st.bg t) (hlen : (st.ops t).length < 60) :
    Calls Tryd.prog 12 #[.pointer (some ⟨k.B, 0, none⟩), .agg #[.int .i64 (t : Int), .int .i64 3, .int .i64 (key : Int)]] W fun e W' => DdTold w0 W k c n 0 (pushM st t ⟨true, key, 0, 0⟩) e W' := by
  have HI := hideIt hI
  have HW : Hid (∀ b, k.own n b → b < W.heap.size) := fun b hb => (h.own_lt hb).2
  have hV0 : Below W.heap.size W (W.alloc (.cells #[.int .i64 (t : Int), .int .i64 3, .int .i64 (key : Int)] 36)) := belA (Below.refl _ _) _
  have hbx0 := heap_alloc_new W (.cells #[.int .i64 (t : Int), .int .i64 3, .int .i64 (key : Int)] 36)
  have hdV0 := h.below hV0
  have hti : (t : Int) < (n : Int) := by omega
  have htm0 := hI.tm0
  have hwr : IntKind.i64.wrap (st.tm + 1) = st.tm + 1 := by rw [IntKind.wrap_i64]; omega
  have hl60 := hI.opl t
  have hnB : W.heap.size ≠ k.B := by
    have := HW.out k.B (.inl rfl)
    omega
  clear h hI
  go_enter Tryd.func12, Tryd.ntmps12
  go_wp2_with fail
  generalize W.alloc (.cells #[.int .i64 (t : Int), .int .i64 3, .int .i64 (key : Int)] 36) = V at *
  have HD := hideIt hdV0
  have HF : Hid (DFr k n W V k) := DFr.below hV0
  have HBx := hideIt hbx0
  obtain ⟨_, d1, d2, d3, d4, d5, d6⟩ := hdV0.cells
  obtain ⟨ab, cb, evb, hcb, hbgr⟩ := tim_at hdV0.bg
  obtain ⟨gb, rfl, hgb, b1⟩ := hbgr t ht
  rw [evb] at d3
  have o1 := hdV0.ov.bit t ht
  rw [hov] at o1
  obtain ⟨oa, ocp, t1, t2, hoc, hoq, hwrt⟩ := hdV0.wrote (fun u => HI.out.opl u) ht 0
  have lB := hdV0.lt
  have lT := (hdV0.own_lt (.inr (.inl rfl) : k.own n k.T)).2
  have lO := (hdV0.own_lt (.inr (.inr (.inr (.inl rfl))) : k.own n k.O)).2
  have lb := (ownsRow_block hdV0.bg gb hgb).2.1
  have lx := lt_of_heap hbx0
  have x0 : V.cell? ⟨W.heap.size, 0, none⟩ = some (.int .i64 (t : Int)) := by rw [cell_of_row _ _ _ _ 36 _ hbx0]; rfl
  have x1 : V.cell? ⟨W.heap.size, 1, none⟩ = some (.int .i64 3) := by rw [cell_of_row _ _ _ _ 36 _ hbx0]; rfl
  have x2 : V.cell? ⟨W.heap.size, 2, none⟩ = some (.int .i64 (key : Int)) := by rw [cell_of_row _ _ _ _ 36 _ hbx0]; rfl
  have HC : Hid (∀ Y, Below V.heap.size V Y → (Y.cell? ⟨W.heap.size, 0, none⟩ = some (.int .i64 (t : Int)) ∧ Y.cell? ⟨W.heap.size, 1, none⟩ = some (.int .i64 3) ∧ Y.cell? ⟨W.heap.size, 2, none⟩ = some (.int .i64 (key : Int))) ∧ (Y.cell? ⟨k.B, 1, none⟩ = some (.slice (some ⟨k.T, 0, none⟩) n n) ∧ Y.cell? ⟨k.B, 2, none⟩ = some (.slice (some ⟨k.R, 0, none⟩) 8 8) ∧ Y.cell? ⟨k.B, 3, none⟩ = some (.slice (some ⟨gb, 0, none⟩) n cb) ∧ Y.cell? ⟨k.B, 5, none⟩ = some (.slice (some ⟨k.O, 0, none⟩) n n) ∧ Y.cell? ⟨k.B, 6, none⟩ = some (.int .i64 st.tm)) ∧ (Y.cell? ⟨gb, t, none⟩ = some (.int .i64 (st.bg t)) ∧ Y.cell? ⟨k.O, t, none⟩ = some (.bool false) ∧ Y.cell? ⟨k.T, t * 2, none⟩ = some (.slice oa (st.ops t).length ocp) ∧ Y.cell? ⟨k.T, t * 2 + 1, none⟩ = some (.bool (st.com t)))) := fun Y hY => ⟨⟨(hY.cell (p := ⟨W.heap.size, 0, none⟩) lx).trans x0, (hY.cell (p := ⟨W.heap.size, 1, none⟩) lx).trans x1, (hY.cell (p := ⟨W.heap.size, 2, none⟩) lx).trans x2⟩, ⟨(hY.cell (p := ⟨k.B, 1, none⟩) lB).trans d1, (hY.cell (p := ⟨k.B, 2, none⟩) lB).trans d2, (hY.cell (p := ⟨k.B, 3, none⟩) lB).trans d3, (hY.cell (p := ⟨k.B, 5, none⟩) lB).trans d5, (hY.cell (p := ⟨k.B, 6, none⟩) lB).trans d6⟩, (hY.cell (p := ⟨gb, t, none⟩) lb).trans b1, (hY.cell (p := ⟨k.O, t, none⟩) lO).trans o1, (hY.cell (p := ⟨k.T, t * 2, none⟩) lT).trans t1, (hY.cell (p := ⟨k.T, t * 2 + 1, none⟩) lT).trans t2⟩
  have g0 : decide ((t : Int) < 0) = false := decide_eq_false (by omega)
  have g1 : ¬ (n : Int) ≤ (t : Int) := by omega
  have g2 : ¬ (key : Int) < 0 := by omega
  have g3 : ¬ (7 : Int) < (key : Int) := by omega
  have hb0 : (0 : Int) ≤ st.bg t := by omega
  clear hdV0 hbx0 hV0 d1 d2 d3 d4 d5 d6 evb hbgr b1 o1 t1 t2 hoq hwrt lB lT lO lb lx x0 x1 x2 hov hbg
  obtain ⟨⟨z0, z1, z2⟩, ⟨z3, z4, z5, z6, z7⟩, z8, z9, z10, z11⟩ := HC.out V (Below.refl _ _)
  go_quiet (fail)
  clear z0 z1 z2 z3 z4 z5 z6 z7 z8 z9 z10 z11
  generalize hV1 : World.drewN V _ = V1
  have hbV1 : Below V.heap.size V V1 := by rw [← hV1]; exact below_drewN (Below.refl _ _) _
  clear hV1
  obtain ⟨⟨z0, z1, z2⟩, ⟨z3, z4, z5, z6, z7⟩, z8, z9, z10, z11⟩ := HC.out V1 hbV1
  go_wp2_with fail
  clear z0 z1 z2 z3 z4 z5 z6 z7 z8 z9 z10 z11
  obtain ⟨⟨z0, z1, z2⟩, ⟨z3, z4, z5, z6, z7⟩, z8, z9, z10, z11⟩ := HC.out V1 hbV1
  go_quiet (fail)
  clear z0 z1 z2 z3 z4 z5 z6 z7 z8 z9 z10 z11
  generalize hV2 : World.drewN V1 _ = V2
  have hbV2 : Below V.heap.size V V2 := by rw [← hV2]; exact below_drewN hbV1 _
  clear hV2
  obtain ⟨⟨z0, z1, z2⟩, ⟨z3, z4, z5, z6, z7⟩, z8, z9, z10, z11⟩ := HC.out V2 hbV2
  go_wp2_with fail
  clear z0 z1 z2 z3 z4 z5 z6 z7 z8 z9 z10 z11
  obtain ⟨⟨z0, z1, z2⟩, ⟨z3, z4, z5, z6, z7⟩, z8, z9, z10, z11⟩ := HC.out V2 hbV2
  go_quiet (fail)
  clear z0 z1 z2 z3 z4 z5 z6 z7 z8 z9 z10 z11
  generalize hV3 : World.drewN V2 _ = V3
  have hbV3 : Below V.heap.size V V3 := by rw [← hV3]; exact below_drewN hbV2 _
  clear hV3
  obtain ⟨⟨z0, z1, z2⟩, ⟨z3, z4, z5, z6, z7⟩, z8, z9, z10, z11⟩ := HC.out V3 hbV3
  go_wp2_with fail
  clear z0 z1 z2 z3 z4 z5 z6 z7 z8 z9 z10 z11
  obtain ⟨⟨z0, z1, z2⟩, ⟨z3, z4, z5, z6, z7⟩, z8, z9, z10, z11⟩ := HC.out V3 hbV3
  go_quiet (fail)
  clear z0 z1 z2 z3 z4 z5 z6 z7 z8 z9 z10 z11
  generalize hV4 : World.drewN V3 _ = V4
  have hbV4 : Below V.heap.size V V4 := by rw [← hV4]; exact below_drewN hbV3 _
  clear hV4
  have gl : ((((st.ops t).length : Nat) : Int) == 60) = false := by rw [beq_eq_false_iff_ne]; omega
  obtain ⟨⟨z0, z1, z2⟩, ⟨z3, z4, z5, z6, z7⟩, z8, z9, z10, z11⟩ := HC.out V4 hbV4
  have hd4 := HD.out.below hbV4
  have zf := hd4.fz 6
  have HD5 := hideIt (hd4.setTm (st.tm + 1))
  have HF5 : Hid (DFr k n W (V4.setCell ⟨k.B, 6, none⟩ (.int .i64 (st.tm + 1))) k) := (HF.out.trans (DFr.below hbV4)).trans (DFr.set (p := ⟨k.B, 6, none⟩) (.inl rfl) _)
  have HBx5 : Hid ((V4.setCell ⟨k.B, 6, none⟩ (.int .i64 (st.tm + 1))).heap[W.heap.size]? = V.heap[W.heap.size]?) := (Below.heap_setCell _ ⟨k.B, 6, none⟩ _ _ hnB).trans (hbV4.block _ (lt_of_heap HBx.out))
  clear hd4
  go_wp2_with fail
  clear z0 z1 z2 z3 z4 z5 z6 z7 z8 z9 z10 z11 zf
  generalize V4.setCell ⟨k.B, 6, none⟩ (.int .i64 (st.tm + 1)) = V5 at *
  have hbx5 := HBx5.out.trans HBx.out
  have x0 : V5.cell? ⟨W.heap.size, 0, none⟩ = some (.int .i64 (t : Int)) := by rw [cell_of_row _ _ _ _ 36 _ hbx5]; rfl
  have x1 : V5.cell? ⟨W.heap.size, 1, none⟩ = some (.int .i64 3) := by rw [cell_of_row _ _ _ _ 36 _ hbx5]; rfl
  have x2 : V5.cell? ⟨W.heap.size, 2, none⟩ = some (.int .i64 (key : Int)) := by rw [cell_of_row _ _ _ _ 36 _ hbx5]; rfl
  have lx := lt_of_heap hbx5
  obtain ⟨_, d1, d2, d3, d4, d5, d6⟩ := HD5.out.cells
  dsimp only at d6
  have lB := HD5.out.lt
  have HX : Hid (∀ Y, Below V5.heap.size V5 Y → (Y.cell? ⟨W.heap.size, 0, none⟩ = some (.int .i64 (t : Int)) ∧ Y.cell? ⟨W.heap.size, 2, none⟩ = some (.int .i64 (key : Int))) ∧ Y.cell? ⟨k.B, 3, none⟩ = some k.vb ∧ Y.cell? ⟨k.B, 5, none⟩ = some (.slice (some ⟨k.O, 0, none⟩) n n) ∧ Y.cell? ⟨k.B, 6, none⟩ = some (.int .i64 (st.tm + 1))) := fun Y hY => ⟨⟨(hY.cell (p := ⟨W.heap.size, 0, none⟩) lx).trans x0, (hY.cell (p := ⟨W.heap.size, 2, none⟩) lx).trans x2⟩, (hY.cell (p := ⟨k.B, 3, none⟩) lB).trans d3, (hY.cell (p := ⟨k.B, 5, none⟩) lB).trans d5, (hY.cell (p := ⟨k.B, 6, none⟩) lB).trans d6⟩
  clear HC HD HF HBx HBx5 hbV1 hbV2 hbV3 hbV4 d1 d2 d3 d4 d5 d6 lB
  have v0 := (HD5.out.tx t ht).1
  have lT5 := (HD5.out.own_lt (.inr (.inl rfl) : k.own n k.T)).2
  have HX2 : Hid (∀ Y, Below V5.heap.size V5 Y → Y.cell? ⟨k.T, t * 2, none⟩ = some (k.vo t) ∧ Y.cell? ⟨W.heap.size, 2, none⟩ = some (.int .i64 (key : Int))) := fun Y hY => ⟨(hY.cell (p := ⟨k.T, t * 2, none⟩) lT5).trans v0, (hY.cell (p := ⟨W.heap.size, 2, none⟩) lx).trans x2⟩
  have HPush : Hid (∀ (Y : World) (v' : Value) (W6 : World), Below V5.heap.size V5 Y → OpR W6 w0.heap.size v' (st.ops t ++ [⟨true, key, 0, 0⟩]) → Y.grownBy W6 (k.vo t).ownBlock → (v'.ownBlock = (k.vo t).ownBlock ∨ v'.ownBlock = some Y.heap.size) → DocB w0 (W6.setCell ⟨k.T, t * 2, none⟩ v') { k with vo := updM k.vo t v' } c n (pushM st t ⟨true, key, 0, 0⟩) ∧ DFr k n W (W6.setCell ⟨k.T, t * 2, none⟩ v') { k with vo := updM k.vo t v' } ∧ W6.cell? ⟨k.T, t * 2, none⟩ = some (k.vo t) ∧ W6.frozen? ⟨k.T, t * 2, none⟩ = false) := fun Y v' W6 hY h1 h2 h3 => by
    have hpY := HD5.out.below hY
    obtain ⟨e1, e2⟩ := hpY.pushO ht h1 h2 h3
    have hTb : W6.heap[k.T]? = Y.heap[k.T]? := h2.block _ (hpY.own_lt (.inr (.inl rfl) : k.own n k.T)).2 fun e => ne_tagD hpY.tag.2.1 (hpY.tagv.2.2.1 t ht _ e.symm) (by decide) rfl
    refine ⟨e1, HF5.out.trans ((DFr.below hY).trans e2), (World.cell?_of_block (a := ⟨k.T, t * 2, none⟩) hTb).trans (hpY.tx t ht).1, (World.frozen?_of_block (a := ⟨k.T, t * 2, none⟩) hTb).trans ?_⟩
    obtain ⟨cur, hc⟩ := hpY.tb
    exact frozen_of_row _ _ _ _ 90 hc
  have HOps : Hid (∀ Y, Below V5.heap.size V5 Y → OpR Y w0.heap.size (k.vo t) (st.ops t)) := fun Y hY => ((HD5.out.below hY).tx t ht).2.2
  have HW0 : Hid (w0.heap.size ≤ V5.heap.size) := HD5.out.bel.size
  clear HX hbx5 x0 x1
  generalize k.vo t = vq at *
  go_wp2_with fail
  refine wp_region_L (B := [9, 12]) (S := (fun _ => True)) (T := (fun w' => Below V5.heap.size V5 w')) (by kernel_rfl) ⟨trivial, (Below.refl _ _).drew⟩ (fun hHeld => ?_)
  refine wpAnyL_takeS (i := 0) (v := ?_) rfl (by kernel_rfl) (by kernel_rfl) (by kernel_rfl) (by kernel_rfl) (fun _ _ _ h => h) (Or.inl ⟨by rfl, ?_⟩) (by assumption) ?_
  rotate_left 1
  · intro wz _
    go_simp
    all_goals with_reducible rfl
  simp only [Act.put, List.setIfInBounds_toArray, List.set_cons_zero, List.set_cons_succ, List.getElem_toArray, List.getElem_cons_zero]
  refine wpAnyL_takeS (i := 1) (v := ?_) rfl (by kernel_rfl) (by kernel_rfl) (by kernel_rfl) (by kernel_rfl) (fun _ _ _ h => h) (Or.inl ⟨by rfl, ?_⟩) (by assumption) ?_
  rotate_left 1
  · intro wz _
    go_simp
    all_goals with_reducible rfl
  simp only [Act.put, List.setIfInBounds_toArray, List.set_cons_zero, List.set_cons_succ, List.getElem_toArray, List.getElem_cons_zero, List.getElem_cons_succ]
  refine wpAnyL_takeS (i := 2) (v := ?_) rfl (by kernel_rfl) (by kernel_rfl) (by kernel_rfl) (by kernel_rfl) (fun _ _ _ h => h) (Or.inl ⟨by rfl, ?_⟩) (by assumption) ?_
  rotate_left 1
  · intro wz _
    go_simp
    all_goals with_reducible rfl
  simp only [Act.put, List.setIfInBounds_toArray, List.set_cons_zero, List.set_cons_succ, List.getElem_toArray, List.getElem_cons_zero, List.getElem_cons_succ]
  refine wpAnyL_takeS (i := 3) (v := ?_) rfl (by kernel_rfl) (by kernel_rfl) (by kernel_rfl) (by kernel_rfl) (fun _ _ _ h => h) (Or.inl ⟨by rfl, ?_⟩) (by assumption) ?_
  rotate_left 1
  · intro wz _
    go_simp
    all_goals with_reducible rfl
  simp only [Act.put, List.setIfInBounds_toArray, List.set_cons_zero, List.set_cons_succ, List.getElem_toArray, List.getElem_cons_zero, List.getElem_cons_succ]
  refine wpAnyL_take [9, 12] (i := 4) (v := ?_) rfl (by kernel_rfl) (by kernel_rfl) (by kernel_rfl) (by kernel_rfl) (fun _ _ _ h => h) (Or.inl ⟨by rfl, ?_⟩) (by assumption) ?_
  rotate_left 1
  · intro wz sb
    obtain ⟨y0, y1⟩ := HX2.out wz sb.2
    go_simp
    all_goals with_reducible rfl
  simp only [Act.put, List.setIfInBounds_toArray, List.set_cons_zero, List.set_cons_succ, List.getElem_toArray, List.getElem_cons_zero, List.getElem_cons_succ]
  refine wpAnyL_takeS (i := 5) (v := ?_) rfl (by kernel_rfl) (by kernel_rfl) (by kernel_rfl) (by kernel_rfl) (fun _ _ _ h => h) (Or.inl ⟨by rfl, ?_⟩) (by assumption) ?_
  rotate_left 1
  · intro wz _
    go_simp
    all_goals with_reducible rfl
  simp only [Act.put, List.setIfInBounds_toArray, List.set_cons_zero, List.set_cons_succ, List.getElem_toArray, List.getElem_cons_zero, List.getElem_cons_succ]
  refine wpAnyL_take [7, 8, 9, 12] (i := 6) (v := ?_) rfl (by kernel_rfl) (by kernel_rfl) (by kernel_rfl) (by kernel_rfl) (fun _ _ _ h => h) (Or.inl ⟨by rfl, ?_⟩) (by assumption) ?_
  rotate_left 1
  · intro wz sb
    obtain ⟨y0, y1⟩ := HX2.out wz sb.2
    go_simp
    all_goals with_reducible rfl
  simp only [Act.put, List.setIfInBounds_toArray, List.set_cons_zero, List.set_cons_succ, List.getElem_toArray, List.getElem_cons_zero, List.getElem_cons_succ]
  refine wpAnyL_takeS (i := 7) (v := ?_) rfl (by kernel_rfl) (by kernel_rfl) (by kernel_rfl) (by kernel_rfl) (fun _ _ _ h => h) (Or.inl ⟨by rfl, ?_⟩) (by assumption) ?_
  rotate_left 1
  · intro wz _
    go_simp
    all_goals with_reducible rfl
  simp only [Act.put, List.setIfInBounds_toArray, List.set_cons_zero, List.set_cons_succ, List.getElem_toArray, List.getElem_cons_zero, List.getElem_cons_succ]
  generalize V5.drew = V6 at hHeld ⊢
  refine wpAnyL_ready (rs := [8]) (by kernel_rfl) (by simp) (AllReadyL.cons rfl (fun K hK => ?_) AllReadyL.nil)
  go_simp
  have hbA := belA hHeld.2 (.cells #[.bool true, .int .i64 (key : Int), .int .i64 0, .int .i64 0] 91)
  refine hK.out _ _ ⟨trivial, hbA⟩ (fun hHeld => ?_)
  clear hK K
  obtain ⟨v', W6, hr, hop, hg, hv⟩ := run_appO (HOps.out _ hbA) (B := V6.heap.size) (o := ⟨true, key, 0, 0⟩) (by refine ⟨?_, ?_, ?_, ?_⟩ <;> simp) (by have := HW0.out; have := hbA.size; omega) (by omega) 88
  obtain ⟨va', vc', rfl⟩ := ownsRow_slice hop
  obtain ⟨R1, R2, s0, s1⟩ := HPush.out _ _ _ hbA hop hg hv
  have HR1 := hideIt R1
  have HR2 := hideIt R2
  refine wpAnyL_ready (rs := [9]) (by kernel_rfl) (by simp) (AllReadyL.last rfl (by kernel_rfl) (fun K hK => ?_) AllReadyL.nil)
  refine step_append_run (by rfl) _ _ 88 (by rfl) _ _ _ W6 (by rfl) (by rfl) hr ?_
  refine hK.out _ _ trivial (fun hHeld => ?_)
  clear hK K
  simp only [Act.put, List.setIfInBounds_toArray, List.set_cons_zero, List.set_cons_succ, List.getElem_toArray, List.getElem_cons_zero, List.getElem_cons_succ]
  clear R1 R2 hop hg hv hr hbA
  generalize (st.ops t ++ [_]).length = ln at *
  refine wpAnyL_takeE (i := 10) (v := ?_) rfl (by kernel_rfl) (by kernel_rfl) (by kernel_rfl) (by kernel_rfl) (by kernel_rfl) (fun _ _ _ h => h) (Or.inl ⟨by rfl, ?_⟩) (by assumption) ?_
  rotate_left 1
  · intro wz _
    go_simp
    all_goals with_reducible rfl
  simp only [Act.put, List.setIfInBounds_toArray, List.set_cons_zero, List.set_cons_succ, List.getElem_toArray, List.getElem_cons_zero, List.getElem_cons_succ]
  refine wpAnyL_takeE (i := 11) (v := ?_) rfl (by kernel_rfl) (by kernel_rfl) (by kernel_rfl) (by kernel_rfl) (by kernel_rfl) (fun _ _ _ h => h) (Or.inl ⟨by rfl, ?_⟩) (by assumption) ?_
  rotate_left 1
  · intro wz _
    go_simp
    all_goals with_reducible rfl
  simp only [Act.put, List.setIfInBounds_toArray, List.set_cons_zero, List.set_cons_succ, List.getElem_toArray, List.getElem_cons_zero, List.getElem_cons_succ]
  refine wpAnyL_ready (rs := [12]) (by kernel_rfl) (by simp) (AllReadyL.last rfl (by kernel_rfl) (fun K hK => ?_) AllReadyL.nil)
  go_simp
  refine hK.out _ _ trivial (fun hHeld => ?_)
  clear hK K
  refine wpAnyL_done (by kernel_rfl) ?_ _
  go_wp2
  go_ret
  exact ⟨_, rfl, HR1.out, HR2.out⟩

set_option maxRecDepth 100000 in
set_option maxHeartbeats 8000000 in
theorem ddo_commit (h : DocB w0 W k c n st) (hI : MvI n st) (hn : n ≤ 8) (htm : st.tm ≤ 1000) {t : Nat} (ht : t < n) {x : Int} {s1 : MvS} (hx : Hid (x = if refB c n st t = true then 12 else 0)) (hs : Hid (s1 = if refB c n st t = true then aboM st t else comM st t)) (hov : st.ov t = false) (hbg : 0 < st.bg t) :
    Calls Tryd.prog 12 #[.pointer (some ⟨k.B, 0, none⟩), .agg #[.int .i64 (t : Int), .int .i64 4, .int .i64 0]] W fun e W' => DdTold w0 W k c n x s1 e W' := by
  have HI := hideIt hI
  have HW : Hid (∀ b, k.own n b → b < W.heap.size) := fun b hb => (h.own_lt hb).2
  have hV0 : Below W.heap.size W (W.alloc (.cells #[.int .i64 (t : Int), .int .i64 4, .int .i64 0] 36)) := belA (Below.refl _ _) _
  have hbx0 := heap_alloc_new W (.cells #[.int .i64 (t : Int), .int .i64 4, .int .i64 0] 36)
  have hdV0 := h.below hV0
  have hti : (t : Int) < (n : Int) := by omega
  have htm0 := hI.tm0
  have hwr : IntKind.i64.wrap (st.tm + 1) = st.tm + 1 := by rw [IntKind.wrap_i64]; omega
  have hl60 := hI.opl t
  have hnB : W.heap.size ≠ k.B := by
    have := HW.out k.B (.inl rfl)
    omega
  clear h hI
  go_enter Tryd.func12, Tryd.ntmps12
  go_wp2_with fail
  generalize W.alloc (.cells #[.int .i64 (t : Int), .int .i64 4, .int .i64 0] 36) = V at *
  have HD := hideIt hdV0
  have HF : Hid (DFr k n W V k) := DFr.below hV0
  have HBx := hideIt hbx0
  obtain ⟨_, d1, d2, d3, d4, d5, d6⟩ := hdV0.cells
  obtain ⟨ab, cb, evb, hcb, hbgr⟩ := tim_at hdV0.bg
  obtain ⟨gb, rfl, hgb, b1⟩ := hbgr t ht
  rw [evb] at d3
  have o1 := hdV0.ov.bit t ht
  rw [hov] at o1
  obtain ⟨oa, ocp, t1, t2, hoc, hoq, hwrt⟩ := hdV0.wrote (fun u => HI.out.opl u) ht 0
  have lB := hdV0.lt
  have lT := (hdV0.own_lt (.inr (.inl rfl) : k.own n k.T)).2
  have lO := (hdV0.own_lt (.inr (.inr (.inr (.inl rfl))) : k.own n k.O)).2
  have lb := (ownsRow_block hdV0.bg gb hgb).2.1
  have lx := lt_of_heap hbx0
  have x0 : V.cell? ⟨W.heap.size, 0, none⟩ = some (.int .i64 (t : Int)) := by rw [cell_of_row _ _ _ _ 36 _ hbx0]; rfl
  have x1 : V.cell? ⟨W.heap.size, 1, none⟩ = some (.int .i64 4) := by rw [cell_of_row _ _ _ _ 36 _ hbx0]; rfl
  have x2 : V.cell? ⟨W.heap.size, 2, none⟩ = some (.int .i64 0) := by rw [cell_of_row _ _ _ _ 36 _ hbx0]; rfl
  have HC : Hid (∀ Y, Below V.heap.size V Y → (Y.cell? ⟨W.heap.size, 0, none⟩ = some (.int .i64 (t : Int)) ∧ Y.cell? ⟨W.heap.size, 1, none⟩ = some (.int .i64 4) ∧ Y.cell? ⟨W.heap.size, 2, none⟩ = some (.int .i64 0)) ∧ (Y.cell? ⟨k.B, 1, none⟩ = some (.slice (some ⟨k.T, 0, none⟩) n n) ∧ Y.cell? ⟨k.B, 2, none⟩ = some (.slice (some ⟨k.R, 0, none⟩) 8 8) ∧ Y.cell? ⟨k.B, 3, none⟩ = some (.slice (some ⟨gb, 0, none⟩) n cb) ∧ Y.cell? ⟨k.B, 5, none⟩ = some (.slice (some ⟨k.O, 0, none⟩) n n) ∧ Y.cell? ⟨k.B, 6, none⟩ = some (.int .i64 st.tm)) ∧ (Y.cell? ⟨gb, t, none⟩ = some (.int .i64 (st.bg t)) ∧ Y.cell? ⟨k.O, t, none⟩ = some (.bool false) ∧ Y.cell? ⟨k.T, t * 2, none⟩ = some (.slice oa (st.ops t).length ocp) ∧ Y.cell? ⟨k.T, t * 2 + 1, none⟩ = some (.bool (st.com t)))) := fun Y hY => ⟨⟨(hY.cell (p := ⟨W.heap.size, 0, none⟩) lx).trans x0, (hY.cell (p := ⟨W.heap.size, 1, none⟩) lx).trans x1, (hY.cell (p := ⟨W.heap.size, 2, none⟩) lx).trans x2⟩, ⟨(hY.cell (p := ⟨k.B, 1, none⟩) lB).trans d1, (hY.cell (p := ⟨k.B, 2, none⟩) lB).trans d2, (hY.cell (p := ⟨k.B, 3, none⟩) lB).trans d3, (hY.cell (p := ⟨k.B, 5, none⟩) lB).trans d5, (hY.cell (p := ⟨k.B, 6, none⟩) lB).trans d6⟩, (hY.cell (p := ⟨gb, t, none⟩) lb).trans b1, (hY.cell (p := ⟨k.O, t, none⟩) lO).trans o1, (hY.cell (p := ⟨k.T, t * 2, none⟩) lT).trans t1, (hY.cell (p := ⟨k.T, t * 2 + 1, none⟩) lT).trans t2⟩
  have g0 : decide ((t : Int) < 0) = false := decide_eq_false (by omega)
  have g1 : ¬ (n : Int) ≤ (t : Int) := by omega
  have hb0 : (0 : Int) ≤ st.bg t := by omega
  clear hdV0 hbx0 hV0 d1 d2 d3 d4 d5 d6 evb hbgr b1 o1 t1 t2 hoq hwrt lB lT lO lb lx x0 x1 x2 hov hbg
  obtain ⟨⟨z0, z1, z2⟩, ⟨z3, z4, z5, z6, z7⟩, z8, z9, z10, z11⟩ := HC.out V (Below.refl _ _)
  go_quiet (fail)
  clear z0 z1 z2 z3 z4 z5 z6 z7 z8 z9 z10 z11
  generalize hV1 : World.drewN V _ = V1
  have hbV1 : Below V.heap.size V V1 := by rw [← hV1]; exact below_drewN (Below.refl _ _) _
  clear hV1
  obtain ⟨⟨z0, z1, z2⟩, ⟨z3, z4, z5, z6, z7⟩, z8, z9, z10, z11⟩ := HC.out V1 hbV1
  go_wp2_with fail
  clear z0 z1 z2 z3 z4 z5 z6 z7 z8 z9 z10 z11
  obtain ⟨⟨z0, z1, z2⟩, ⟨z3, z4, z5, z6, z7⟩, z8, z9, z10, z11⟩ := HC.out V1 hbV1
  go_quiet (fail)
  clear z0 z1 z2 z3 z4 z5 z6 z7 z8 z9 z10 z11
  generalize hV2 : World.drewN V1 _ = V2
  have hbV2 : Below V.heap.size V V2 := by rw [← hV2]; exact below_drewN hbV1 _
  clear hV2
  obtain ⟨⟨z0, z1, z2⟩, ⟨z3, z4, z5, z6, z7⟩, z8, z9, z10, z11⟩ := HC.out V2 hbV2
  go_wp2_with fail
  clear z0 z1 z2 z3 z4 z5 z6 z7 z8 z9 z10 z11
  obtain ⟨⟨z0, z1, z2⟩, ⟨z3, z4, z5, z6, z7⟩, z8, z9, z10, z11⟩ := HC.out V2 hbV2
  go_quiet (fail)
  clear z0 z1 z2 z3 z4 z5 z6 z7 z8 z9 z10 z11
  generalize hV3 : World.drewN V2 _ = V3
  have hbV3 : Below V.heap.size V V3 := by rw [← hV3]; exact below_drewN hbV2 _
  clear hV3
  obtain ⟨⟨z0, z1, z2⟩, ⟨z3, z4, z5, z6, z7⟩, z8, z9, z10, z11⟩ := HC.out V3 hbV3
  go_wp2_with fail
  clear z0 z1 z2 z3 z4 z5 z6 z7 z8 z9 z10 z11
  obtain ⟨⟨z0, z1, z2⟩, ⟨z3, z4, z5, z6, z7⟩, z8, z9, z10, z11⟩ := HC.out V3 hbV3
  go_quiet (fail)
  clear z0 z1 z2 z3 z4 z5 z6 z7 z8 z9 z10 z11
  generalize hV4 : World.drewN V3 _ = V4
  have hbV4 : Below V.heap.size V V4 := by rw [← hV4]; exact below_drewN hbV3 _
  clear hV4
  obtain ⟨bl, gl⟩ : ∃ bl, ((((st.ops t).length : Nat) : Int) == 60) = bl := ⟨_, rfl⟩
  obtain ⟨⟨z0, z1, z2⟩, ⟨z3, z4, z5, z6, z7⟩, z8, z9, z10, z11⟩ := HC.out V4 hbV4
  have hd4 := HD.out.below hbV4
  have zf := hd4.fz 6
  have HD5 := hideIt (hd4.setTm (st.tm + 1))
  have HF5 : Hid (DFr k n W (V4.setCell ⟨k.B, 6, none⟩ (.int .i64 (st.tm + 1))) k) := (HF.out.trans (DFr.below hbV4)).trans (DFr.set (p := ⟨k.B, 6, none⟩) (.inl rfl) _)
  have HBx5 : Hid ((V4.setCell ⟨k.B, 6, none⟩ (.int .i64 (st.tm + 1))).heap[W.heap.size]? = V.heap[W.heap.size]?) := (Below.heap_setCell _ ⟨k.B, 6, none⟩ _ _ hnB).trans (hbV4.block _ (lt_of_heap HBx.out))
  clear hd4
  cases bl
  · go_wp2_with fail
    clear z0 z1 z2 z3 z4 z5 z6 z7 z8 z9 z10 z11 zf
    generalize V4.setCell ⟨k.B, 6, none⟩ (.int .i64 (st.tm + 1)) = V5 at *
    have hbx5 := HBx5.out.trans HBx.out
    have x0 : V5.cell? ⟨W.heap.size, 0, none⟩ = some (.int .i64 (t : Int)) := by rw [cell_of_row _ _ _ _ 36 _ hbx5]; rfl
    have x1 : V5.cell? ⟨W.heap.size, 1, none⟩ = some (.int .i64 4) := by rw [cell_of_row _ _ _ _ 36 _ hbx5]; rfl
    have x2 : V5.cell? ⟨W.heap.size, 2, none⟩ = some (.int .i64 0) := by rw [cell_of_row _ _ _ _ 36 _ hbx5]; rfl
    have lx := lt_of_heap hbx5
    obtain ⟨_, d1, d2, d3, d4, d5, d6⟩ := HD5.out.cells
    dsimp only at d6
    have lB := HD5.out.lt
    have HX : Hid (∀ Y, Below V5.heap.size V5 Y → (Y.cell? ⟨W.heap.size, 0, none⟩ = some (.int .i64 (t : Int)) ∧ Y.cell? ⟨W.heap.size, 2, none⟩ = some (.int .i64 0)) ∧ Y.cell? ⟨k.B, 3, none⟩ = some k.vb ∧ Y.cell? ⟨k.B, 5, none⟩ = some (.slice (some ⟨k.O, 0, none⟩) n n) ∧ Y.cell? ⟨k.B, 6, none⟩ = some (.int .i64 (st.tm + 1))) := fun Y hY => ⟨⟨(hY.cell (p := ⟨W.heap.size, 0, none⟩) lx).trans x0, (hY.cell (p := ⟨W.heap.size, 2, none⟩) lx).trans x2⟩, (hY.cell (p := ⟨k.B, 3, none⟩) lB).trans d3, (hY.cell (p := ⟨k.B, 5, none⟩) lB).trans d5, (hY.cell (p := ⟨k.B, 6, none⟩) lB).trans d6⟩
    clear HC HD HF HBx HBx5 hbV1 hbV2 hbV3 hbV4 d1 d2 d3 d4 d5 d6 lB
    have o5 := HD5.out.ov.bit t ht
    have oz := HD5.out.ov.fz t
    have HD6 := hideIt (HD5.out.setOv ht)
    have HF6 := hideIt (HF5.out.trans (DFr.set (p := ⟨k.O, t, none⟩) (.inr (.inr (.inr (.inl rfl)))) (.bool true)))
    dsimp only at o5
    clear hbx5
    go_wp2_with fail
    refine wp_region_L (B := [7]) (S := (fun _ => True)) (T := (fun w' => Below V5.heap.size V5 w')) (by kernel_rfl) ⟨trivial, (Below.refl _ _).drew⟩ (fun hHeld => ?_)
    refine wpAnyL_takeS (i := 0) (v := ?_) rfl (by kernel_rfl) (by kernel_rfl) (by kernel_rfl) (by kernel_rfl) (fun _ _ _ h => h) (Or.inl ⟨by rfl, ?_⟩) (by assumption) ?_
    rotate_left 1
    · intro wz _
      go_simp
      all_goals with_reducible rfl
    simp only [Act.put, List.setIfInBounds_toArray, List.set_cons_zero, List.set_cons_succ, List.getElem_toArray, List.getElem_cons_zero]
    refine wpAnyL_takeS (i := 1) (v := ?_) rfl (by kernel_rfl) (by kernel_rfl) (by kernel_rfl) (by kernel_rfl) (fun _ _ _ h => h) (Or.inl ⟨by rfl, ?_⟩) (by assumption) ?_
    rotate_left 1
    · intro wz _
      go_simp
      all_goals with_reducible rfl
    simp only [Act.put, List.setIfInBounds_toArray, List.set_cons_zero, List.set_cons_succ, List.getElem_toArray, List.getElem_cons_zero, List.getElem_cons_succ]
    refine wpAnyL_takeS (i := 2) (v := ?_) rfl (by kernel_rfl) (by kernel_rfl) (by kernel_rfl) (by kernel_rfl) (fun _ _ _ h => h) (Or.inl ⟨by rfl, ?_⟩) (by assumption) ?_
    rotate_left 1
    · intro wz _
      go_simp
      all_goals with_reducible rfl
    simp only [Act.put, List.setIfInBounds_toArray, List.set_cons_zero, List.set_cons_succ, List.getElem_toArray, List.getElem_cons_zero, List.getElem_cons_succ]
    refine wpAnyL_take [6, 7] (i := 3) (v := ?_) rfl (by kernel_rfl) (by kernel_rfl) (by kernel_rfl) (by kernel_rfl) (fun _ _ _ h => h) (Or.inl ⟨by rfl, ?_⟩) (by assumption) ?_
    rotate_left 1
    · intro wz sb
      obtain ⟨⟨y0,y2⟩, y3, y4, y5⟩ := HX.out wz sb.2
      go_simp
      all_goals with_reducible rfl
    simp only [Act.put, List.setIfInBounds_toArray, List.set_cons_zero, List.set_cons_succ, List.getElem_toArray, List.getElem_cons_zero, List.getElem_cons_succ]
    refine wpAnyL_takeS (i := 4) (v := ?_) rfl (by kernel_rfl) (by kernel_rfl) (by kernel_rfl) (by kernel_rfl) (fun _ _ _ h => h) (Or.inl ⟨by rfl, ?_⟩) (by assumption) ?_
    rotate_left 1
    · intro wz _
      go_simp
      all_goals with_reducible rfl
    simp only [Act.put, List.setIfInBounds_toArray, List.set_cons_zero, List.set_cons_succ, List.getElem_toArray, List.getElem_cons_zero, List.getElem_cons_succ]
    refine wpAnyL_take [6, 7] (i := 5) (v := ?_) rfl (by kernel_rfl) (by kernel_rfl) (by kernel_rfl) (by kernel_rfl) (fun _ _ _ h => h) (Or.inl ⟨by rfl, ?_⟩) (by assumption) ?_
    rotate_left 1
    · intro wz sb
      obtain ⟨⟨y0,y2⟩, y3, y4, y5⟩ := HX.out wz sb.2
      go_simp
      all_goals with_reducible rfl
    simp only [Act.put, List.setIfInBounds_toArray, List.set_cons_zero, List.set_cons_succ, List.getElem_toArray, List.getElem_cons_zero, List.getElem_cons_succ]
    refine wpAnyL_takeS (i := 6) (v := ?_) rfl (by kernel_rfl) (by kernel_rfl) (by kernel_rfl) (by kernel_rfl) (fun _ _ _ h => h) (Or.inl ⟨by rfl, ?_⟩) (by assumption) ?_
    rotate_left 1
    · intro wz _
      go_simp
      all_goals with_reducible rfl
    simp only [Act.put, List.setIfInBounds_toArray, List.set_cons_zero, List.set_cons_succ, List.getElem_toArray, List.getElem_cons_zero, List.getElem_cons_succ]
    have e1 : V5.drew.cell? ⟨k.O, t, none⟩ = some (.bool (st.ov t)) := o5
    have e2 : V5.drew.frozen? ⟨k.O, t, none⟩ = false := oz
    have HD7 : Hid (DocB w0 (V5.setCell ⟨k.O, t, none⟩ (.bool true)).drew k c n (aboM st t)) := (HD5.out.setOv ht).below (Below.refl _ _).drew
    have HF7 : Hid (DFr k n W (V5.setCell ⟨k.O, t, none⟩ (.bool true)).drew k) := (HF5.out.trans (DFr.set (p := ⟨k.O, t, none⟩) (.inr (.inr (.inr (.inl rfl)))) (.bool true))).trans (DFr.below (Below.refl _ _).drew)
    have hxO : W.heap.size ≠ k.O := by
      have := HW.out k.O (.inr (.inr (.inr (.inl rfl))))
      omega
    have x0s : (V5.setCell ⟨k.O, t, none⟩ (.bool true)).drew.cell? ⟨W.heap.size, 0, none⟩ = some (.int .i64 (t : Int)) := (World.cell?_of_block (a := ⟨W.heap.size, 0, none⟩) (Below.heap_setCell V5.drew ⟨k.O, t, none⟩ _ _ hxO)).trans x0
    refine wpAnyL_ready (rs := [7]) (by kernel_rfl) (by simp) (AllReadyL.last rfl (by kernel_rfl) (fun K hK => ?_) AllReadyL.nil)
    go_simp
    refine hK.out _ _ trivial (fun hHeld => ?_)
    clear hK K
    refine wpAnyL_done (by kernel_rfl) ?_ _
    generalize (V5.setCell ⟨k.O, t, none⟩ (.bool true)).drew = V6 at *
    clear HD6 HF6 o5 oz e1 e2 HX x0 x1 x2
    obtain ⟨hm, ho⟩ := HI.out.ord_few hn
    have HCm := hideIt (commit_any HD7.out hn HI.out.opl hm ho ht)
    have hrf : refS c n (aboM st t) t = refB c n st t := rfl
    rw [hrf] at HCm
    clear hm ho hrf
    go_wp2_with fail
    refine HCm.out.mono ?_
    rintro e W8 ⟨k8, rfl, hd8, hf8⟩
    have HD8 := hideIt hd8
    have HF8 := hideIt (HF7.out.trans hf8)
    clear HCm hd8 hf8
    obtain ⟨r, hr⟩ : ∃ r, refB c n st t = r := ⟨_, rfl⟩
    rw [hr] at HD8 ⊢
    have HR := hideIt hr
    clear hr
    cases r
    · rw [show (if false = true then (12 : Int) else 0) = 0 from rfl]
      go_wp2
      go_ret
      exact ⟨k8, by rw [hx.out, HR.out]; rfl, by rw [hs.out, HR.out]; exact HD8.out, HF8.out⟩
    · rw [show (if true = true then (12 : Int) else 0) = 12 from rfl]
      go_wp2
      go_ret
      exact ⟨k8, by rw [hx.out, HR.out]; rfl, by rw [hs.out, HR.out]; exact HD8.out, HF8.out⟩
  · go_wp2_with fail
    clear z0 z1 z2 z3 z4 z5 z6 z7 z8 z9 z10 z11 zf
    generalize V4.setCell ⟨k.B, 6, none⟩ (.int .i64 (st.tm + 1)) = V5 at *
    have hbx5 := HBx5.out.trans HBx.out
    have x0 : V5.cell? ⟨W.heap.size, 0, none⟩ = some (.int .i64 (t : Int)) := by rw [cell_of_row _ _ _ _ 36 _ hbx5]; rfl
    have x1 : V5.cell? ⟨W.heap.size, 1, none⟩ = some (.int .i64 4) := by rw [cell_of_row _ _ _ _ 36 _ hbx5]; rfl
    have x2 : V5.cell? ⟨W.heap.size, 2, none⟩ = some (.int .i64 0) := by rw [cell_of_row _ _ _ _ 36 _ hbx5]; rfl
    have lx := lt_of_heap hbx5
    obtain ⟨_, d1, d2, d3, d4, d5, d6⟩ := HD5.out.cells
    dsimp only at d6
    have lB := HD5.out.lt
    have HX : Hid (∀ Y, Below V5.heap.size V5 Y → (Y.cell? ⟨W.heap.size, 0, none⟩ = some (.int .i64 (t : Int)) ∧ Y.cell? ⟨W.heap.size, 2, none⟩ = some (.int .i64 0)) ∧ Y.cell? ⟨k.B, 3, none⟩ = some k.vb ∧ Y.cell? ⟨k.B, 5, none⟩ = some (.slice (some ⟨k.O, 0, none⟩) n n) ∧ Y.cell? ⟨k.B, 6, none⟩ = some (.int .i64 (st.tm + 1))) := fun Y hY => ⟨⟨(hY.cell (p := ⟨W.heap.size, 0, none⟩) lx).trans x0, (hY.cell (p := ⟨W.heap.size, 2, none⟩) lx).trans x2⟩, (hY.cell (p := ⟨k.B, 3, none⟩) lB).trans d3, (hY.cell (p := ⟨k.B, 5, none⟩) lB).trans d5, (hY.cell (p := ⟨k.B, 6, none⟩) lB).trans d6⟩
    clear HC HD HF HBx HBx5 hbV1 hbV2 hbV3 hbV4 d1 d2 d3 d4 d5 d6 lB
    have o5 := HD5.out.ov.bit t ht
    have oz := HD5.out.ov.fz t
    have HD6 := hideIt (HD5.out.setOv ht)
    have HF6 := hideIt (HF5.out.trans (DFr.set (p := ⟨k.O, t, none⟩) (.inr (.inr (.inr (.inl rfl)))) (.bool true)))
    dsimp only at o5
    clear hbx5
    go_wp2_with fail
    refine wp_region_L (B := [7]) (S := (fun _ => True)) (T := (fun w' => Below V5.heap.size V5 w')) (by kernel_rfl) ⟨trivial, (Below.refl _ _).drew⟩ (fun hHeld => ?_)
    refine wpAnyL_takeS (i := 0) (v := ?_) rfl (by kernel_rfl) (by kernel_rfl) (by kernel_rfl) (by kernel_rfl) (fun _ _ _ h => h) (Or.inl ⟨by rfl, ?_⟩) (by assumption) ?_
    rotate_left 1
    · intro wz _
      go_simp
      all_goals with_reducible rfl
    simp only [Act.put, List.setIfInBounds_toArray, List.set_cons_zero, List.set_cons_succ, List.getElem_toArray, List.getElem_cons_zero]
    refine wpAnyL_takeS (i := 1) (v := ?_) rfl (by kernel_rfl) (by kernel_rfl) (by kernel_rfl) (by kernel_rfl) (fun _ _ _ h => h) (Or.inl ⟨by rfl, ?_⟩) (by assumption) ?_
    rotate_left 1
    · intro wz _
      go_simp
      all_goals with_reducible rfl
    simp only [Act.put, List.setIfInBounds_toArray, List.set_cons_zero, List.set_cons_succ, List.getElem_toArray, List.getElem_cons_zero, List.getElem_cons_succ]
    refine wpAnyL_takeS (i := 2) (v := ?_) rfl (by kernel_rfl) (by kernel_rfl) (by kernel_rfl) (by kernel_rfl) (fun _ _ _ h => h) (Or.inl ⟨by rfl, ?_⟩) (by assumption) ?_
    rotate_left 1
    · intro wz _
      go_simp
      all_goals with_reducible rfl
    simp only [Act.put, List.setIfInBounds_toArray, List.set_cons_zero, List.set_cons_succ, List.getElem_toArray, List.getElem_cons_zero, List.getElem_cons_succ]
    refine wpAnyL_take [6, 7] (i := 3) (v := ?_) rfl (by kernel_rfl) (by kernel_rfl) (by kernel_rfl) (by kernel_rfl) (fun _ _ _ h => h) (Or.inl ⟨by rfl, ?_⟩) (by assumption) ?_
    rotate_left 1
    · intro wz sb
      obtain ⟨⟨y0,y2⟩, y3, y4, y5⟩ := HX.out wz sb.2
      go_simp
      all_goals with_reducible rfl
    simp only [Act.put, List.setIfInBounds_toArray, List.set_cons_zero, List.set_cons_succ, List.getElem_toArray, List.getElem_cons_zero, List.getElem_cons_succ]
    refine wpAnyL_takeS (i := 4) (v := ?_) rfl (by kernel_rfl) (by kernel_rfl) (by kernel_rfl) (by kernel_rfl) (fun _ _ _ h => h) (Or.inl ⟨by rfl, ?_⟩) (by assumption) ?_
    rotate_left 1
    · intro wz _
      go_simp
      all_goals with_reducible rfl
    simp only [Act.put, List.setIfInBounds_toArray, List.set_cons_zero, List.set_cons_succ, List.getElem_toArray, List.getElem_cons_zero, List.getElem_cons_succ]
    refine wpAnyL_take [6, 7] (i := 5) (v := ?_) rfl (by kernel_rfl) (by kernel_rfl) (by kernel_rfl) (by kernel_rfl) (fun _ _ _ h => h) (Or.inl ⟨by rfl, ?_⟩) (by assumption) ?_
    rotate_left 1
    · intro wz sb
      obtain ⟨⟨y0,y2⟩, y3, y4, y5⟩ := HX.out wz sb.2
      go_simp
      all_goals with_reducible rfl
    simp only [Act.put, List.setIfInBounds_toArray, List.set_cons_zero, List.set_cons_succ, List.getElem_toArray, List.getElem_cons_zero, List.getElem_cons_succ]
    refine wpAnyL_takeS (i := 6) (v := ?_) rfl (by kernel_rfl) (by kernel_rfl) (by kernel_rfl) (by kernel_rfl) (fun _ _ _ h => h) (Or.inl ⟨by rfl, ?_⟩) (by assumption) ?_
    rotate_left 1
    · intro wz _
      go_simp
      all_goals with_reducible rfl
    simp only [Act.put, List.setIfInBounds_toArray, List.set_cons_zero, List.set_cons_succ, List.getElem_toArray, List.getElem_cons_zero, List.getElem_cons_succ]
    have e1 : V5.drew.cell? ⟨k.O, t, none⟩ = some (.bool (st.ov t)) := o5
    have e2 : V5.drew.frozen? ⟨k.O, t, none⟩ = false := oz
    have HD7 : Hid (DocB w0 (V5.setCell ⟨k.O, t, none⟩ (.bool true)).drew k c n (aboM st t)) := (HD5.out.setOv ht).below (Below.refl _ _).drew
    have HF7 : Hid (DFr k n W (V5.setCell ⟨k.O, t, none⟩ (.bool true)).drew k) := (HF5.out.trans (DFr.set (p := ⟨k.O, t, none⟩) (.inr (.inr (.inr (.inl rfl)))) (.bool true))).trans (DFr.below (Below.refl _ _).drew)
    have hxO : W.heap.size ≠ k.O := by
      have := HW.out k.O (.inr (.inr (.inr (.inl rfl))))
      omega
    have x0s : (V5.setCell ⟨k.O, t, none⟩ (.bool true)).drew.cell? ⟨W.heap.size, 0, none⟩ = some (.int .i64 (t : Int)) := (World.cell?_of_block (a := ⟨W.heap.size, 0, none⟩) (Below.heap_setCell V5.drew ⟨k.O, t, none⟩ _ _ hxO)).trans x0
    refine wpAnyL_ready (rs := [7]) (by kernel_rfl) (by simp) (AllReadyL.last rfl (by kernel_rfl) (fun K hK => ?_) AllReadyL.nil)
    go_simp
    refine hK.out _ _ trivial (fun hHeld => ?_)
    clear hK K
    refine wpAnyL_done (by kernel_rfl) ?_ _
    generalize (V5.setCell ⟨k.O, t, none⟩ (.bool true)).drew = V6 at *
    clear HD6 HF6 o5 oz e1 e2 HX x0 x1 x2
    obtain ⟨hm, ho⟩ := HI.out.ord_few hn
    have HCm := hideIt (commit_any HD7.out hn HI.out.opl hm ho ht)
    have hrf : refS c n (aboM st t) t = refB c n st t := rfl
    rw [hrf] at HCm
    clear hm ho hrf
    go_wp2_with fail
    refine HCm.out.mono ?_
    rintro e W8 ⟨k8, rfl, hd8, hf8⟩
    have HD8 := hideIt hd8
    have HF8 := hideIt (HF7.out.trans hf8)
    clear HCm hd8 hf8
    obtain ⟨r, hr⟩ : ∃ r, refB c n st t = r := ⟨_, rfl⟩
    rw [hr] at HD8 ⊢
    have HR := hideIt hr
    clear hr
    cases r
    · rw [show (if false = true then (12 : Int) else 0) = 0 from rfl]
      go_wp2
      go_ret
      exact ⟨k8, by rw [hx.out, HR.out]; rfl, by rw [hs.out, HR.out]; exact HD8.out, HF8.out⟩
    · rw [show (if true = true then (12 : Int) else 0) = 12 from rfl]
      go_wp2
      go_ret
      exact ⟨k8, by rw [hx.out, HR.out]; rfl, by rw [hs.out, HR.out]; exact HD8.out, HF8.out⟩

set_option maxRecDepth 100000 in
set_option maxHeartbeats 8000000 in
theorem ddo_abort (h : DocB w0 W k c n st) (hI : MvI n st) (htm : st.tm ≤ 1000) {t : Nat} (ht : t < n) (hov : st.ov t = false) (hbg : 0 < st.bg t) :
    Calls Tryd.prog 12 #[.pointer (some ⟨k.B, 0, none⟩), .agg #[.int .i64 (t : Int), .int .i64 5, .int .i64 0]] W fun e W' => DdTold w0 W k c n 0 (aboM st t) e W' := by
  have HI := hideIt hI
  have HW : Hid (∀ b, k.own n b → b < W.heap.size) := fun b hb => (h.own_lt hb).2
  have hV0 : Below W.heap.size W (W.alloc (.cells #[.int .i64 (t : Int), .int .i64 5, .int .i64 0] 36)) := belA (Below.refl _ _) _
  have hbx0 := heap_alloc_new W (.cells #[.int .i64 (t : Int), .int .i64 5, .int .i64 0] 36)
  have hdV0 := h.below hV0
  have hti : (t : Int) < (n : Int) := by omega
  have htm0 := hI.tm0
  have hwr : IntKind.i64.wrap (st.tm + 1) = st.tm + 1 := by rw [IntKind.wrap_i64]; omega
  have hl60 := hI.opl t
  have hnB : W.heap.size ≠ k.B := by
    have := HW.out k.B (.inl rfl)
    omega
  clear h hI
  go_enter Tryd.func12, Tryd.ntmps12
  go_wp2_with fail
  generalize W.alloc (.cells #[.int .i64 (t : Int), .int .i64 5, .int .i64 0] 36) = V at *
  have HD := hideIt hdV0
  have HF : Hid (DFr k n W V k) := DFr.below hV0
  have HBx := hideIt hbx0
  obtain ⟨_, d1, d2, d3, d4, d5, d6⟩ := hdV0.cells
  obtain ⟨ab, cb, evb, hcb, hbgr⟩ := tim_at hdV0.bg
  obtain ⟨gb, rfl, hgb, b1⟩ := hbgr t ht
  rw [evb] at d3
  have o1 := hdV0.ov.bit t ht
  rw [hov] at o1
  obtain ⟨oa, ocp, t1, t2, hoc, hoq, hwrt⟩ := hdV0.wrote (fun u => HI.out.opl u) ht 0
  have lB := hdV0.lt
  have lT := (hdV0.own_lt (.inr (.inl rfl) : k.own n k.T)).2
  have lO := (hdV0.own_lt (.inr (.inr (.inr (.inl rfl))) : k.own n k.O)).2
  have lb := (ownsRow_block hdV0.bg gb hgb).2.1
  have lx := lt_of_heap hbx0
  have x0 : V.cell? ⟨W.heap.size, 0, none⟩ = some (.int .i64 (t : Int)) := by rw [cell_of_row _ _ _ _ 36 _ hbx0]; rfl
  have x1 : V.cell? ⟨W.heap.size, 1, none⟩ = some (.int .i64 5) := by rw [cell_of_row _ _ _ _ 36 _ hbx0]; rfl
  have x2 : V.cell? ⟨W.heap.size, 2, none⟩ = some (.int .i64 0) := by rw [cell_of_row _ _ _ _ 36 _ hbx0]; rfl
  have HC : Hid (∀ Y, Below V.heap.size V Y → (Y.cell? ⟨W.heap.size, 0, none⟩ = some (.int .i64 (t : Int)) ∧ Y.cell? ⟨W.heap.size, 1, none⟩ = some (.int .i64 5) ∧ Y.cell? ⟨W.heap.size, 2, none⟩ = some (.int .i64 0)) ∧ (Y.cell? ⟨k.B, 1, none⟩ = some (.slice (some ⟨k.T, 0, none⟩) n n) ∧ Y.cell? ⟨k.B, 2, none⟩ = some (.slice (some ⟨k.R, 0, none⟩) 8 8) ∧ Y.cell? ⟨k.B, 3, none⟩ = some (.slice (some ⟨gb, 0, none⟩) n cb) ∧ Y.cell? ⟨k.B, 5, none⟩ = some (.slice (some ⟨k.O, 0, none⟩) n n) ∧ Y.cell? ⟨k.B, 6, none⟩ = some (.int .i64 st.tm)) ∧ (Y.cell? ⟨gb, t, none⟩ = some (.int .i64 (st.bg t)) ∧ Y.cell? ⟨k.O, t, none⟩ = some (.bool false) ∧ Y.cell? ⟨k.T, t * 2, none⟩ = some (.slice oa (st.ops t).length ocp) ∧ Y.cell? ⟨k.T, t * 2 + 1, none⟩ = some (.bool (st.com t)))) := fun Y hY => ⟨⟨(hY.cell (p := ⟨W.heap.size, 0, none⟩) lx).trans x0, (hY.cell (p := ⟨W.heap.size, 1, none⟩) lx).trans x1, (hY.cell (p := ⟨W.heap.size, 2, none⟩) lx).trans x2⟩, ⟨(hY.cell (p := ⟨k.B, 1, none⟩) lB).trans d1, (hY.cell (p := ⟨k.B, 2, none⟩) lB).trans d2, (hY.cell (p := ⟨k.B, 3, none⟩) lB).trans d3, (hY.cell (p := ⟨k.B, 5, none⟩) lB).trans d5, (hY.cell (p := ⟨k.B, 6, none⟩) lB).trans d6⟩, (hY.cell (p := ⟨gb, t, none⟩) lb).trans b1, (hY.cell (p := ⟨k.O, t, none⟩) lO).trans o1, (hY.cell (p := ⟨k.T, t * 2, none⟩) lT).trans t1, (hY.cell (p := ⟨k.T, t * 2 + 1, none⟩) lT).trans t2⟩
  have g0 : decide ((t : Int) < 0) = false := decide_eq_false (by omega)
  have g1 : ¬ (n : Int) ≤ (t : Int) := by omega
  have hb0 : (0 : Int) ≤ st.bg t := by omega
  clear hdV0 hbx0 hV0 d1 d2 d3 d4 d5 d6 evb hbgr b1 o1 t1 t2 hoq hwrt lB lT lO lb lx x0 x1 x2 hov hbg
  obtain ⟨⟨z0, z1, z2⟩, ⟨z3, z4, z5, z6, z7⟩, z8, z9, z10, z11⟩ := HC.out V (Below.refl _ _)
  go_quiet (fail)
  clear z0 z1 z2 z3 z4 z5 z6 z7 z8 z9 z10 z11
  generalize hV1 : World.drewN V _ = V1
  have hbV1 : Below V.heap.size V V1 := by rw [← hV1]; exact below_drewN (Below.refl _ _) _
  clear hV1
  obtain ⟨⟨z0, z1, z2⟩, ⟨z3, z4, z5, z6, z7⟩, z8, z9, z10, z11⟩ := HC.out V1 hbV1
  go_wp2_with fail
  clear z0 z1 z2 z3 z4 z5 z6 z7 z8 z9 z10 z11
  obtain ⟨⟨z0, z1, z2⟩, ⟨z3, z4, z5, z6, z7⟩, z8, z9, z10, z11⟩ := HC.out V1 hbV1
  go_quiet (fail)
  clear z0 z1 z2 z3 z4 z5 z6 z7 z8 z9 z10 z11
  generalize hV2 : World.drewN V1 _ = V2
  have hbV2 : Below V.heap.size V V2 := by rw [← hV2]; exact below_drewN hbV1 _
  clear hV2
  obtain ⟨⟨z0, z1, z2⟩, ⟨z3, z4, z5, z6, z7⟩, z8, z9, z10, z11⟩ := HC.out V2 hbV2
  go_wp2_with fail
  clear z0 z1 z2 z3 z4 z5 z6 z7 z8 z9 z10 z11
  obtain ⟨⟨z0, z1, z2⟩, ⟨z3, z4, z5, z6, z7⟩, z8, z9, z10, z11⟩ := HC.out V2 hbV2
  go_quiet (fail)
  clear z0 z1 z2 z3 z4 z5 z6 z7 z8 z9 z10 z11
  generalize hV3 : World.drewN V2 _ = V3
  have hbV3 : Below V.heap.size V V3 := by rw [← hV3]; exact below_drewN hbV2 _
  clear hV3
  obtain ⟨⟨z0, z1, z2⟩, ⟨z3, z4, z5, z6, z7⟩, z8, z9, z10, z11⟩ := HC.out V3 hbV3
  go_wp2_with fail
  clear z0 z1 z2 z3 z4 z5 z6 z7 z8 z9 z10 z11
  obtain ⟨⟨z0, z1, z2⟩, ⟨z3, z4, z5, z6, z7⟩, z8, z9, z10, z11⟩ := HC.out V3 hbV3
  go_quiet (fail)
  clear z0 z1 z2 z3 z4 z5 z6 z7 z8 z9 z10 z11
  generalize hV4 : World.drewN V3 _ = V4
  have hbV4 : Below V.heap.size V V4 := by rw [← hV4]; exact below_drewN hbV3 _
  clear hV4
  obtain ⟨bl, gl⟩ : ∃ bl, ((((st.ops t).length : Nat) : Int) == 60) = bl := ⟨_, rfl⟩
  obtain ⟨⟨z0, z1, z2⟩, ⟨z3, z4, z5, z6, z7⟩, z8, z9, z10, z11⟩ := HC.out V4 hbV4
  have hd4 := HD.out.below hbV4
  have zf := hd4.fz 6
  have HD5 := hideIt (hd4.setTm (st.tm + 1))
  have HF5 : Hid (DFr k n W (V4.setCell ⟨k.B, 6, none⟩ (.int .i64 (st.tm + 1))) k) := (HF.out.trans (DFr.below hbV4)).trans (DFr.set (p := ⟨k.B, 6, none⟩) (.inl rfl) _)
  have HBx5 : Hid ((V4.setCell ⟨k.B, 6, none⟩ (.int .i64 (st.tm + 1))).heap[W.heap.size]? = V.heap[W.heap.size]?) := (Below.heap_setCell _ ⟨k.B, 6, none⟩ _ _ hnB).trans (hbV4.block _ (lt_of_heap HBx.out))
  clear hd4
  cases bl
  · go_wp2_with fail
    clear z0 z1 z2 z3 z4 z5 z6 z7 z8 z9 z10 z11 zf
    generalize V4.setCell ⟨k.B, 6, none⟩ (.int .i64 (st.tm + 1)) = V5 at *
    have hbx5 := HBx5.out.trans HBx.out
    have x0 : V5.cell? ⟨W.heap.size, 0, none⟩ = some (.int .i64 (t : Int)) := by rw [cell_of_row _ _ _ _ 36 _ hbx5]; rfl
    have x1 : V5.cell? ⟨W.heap.size, 1, none⟩ = some (.int .i64 5) := by rw [cell_of_row _ _ _ _ 36 _ hbx5]; rfl
    have x2 : V5.cell? ⟨W.heap.size, 2, none⟩ = some (.int .i64 0) := by rw [cell_of_row _ _ _ _ 36 _ hbx5]; rfl
    have lx := lt_of_heap hbx5
    obtain ⟨_, d1, d2, d3, d4, d5, d6⟩ := HD5.out.cells
    dsimp only at d6
    have lB := HD5.out.lt
    have HX : Hid (∀ Y, Below V5.heap.size V5 Y → (Y.cell? ⟨W.heap.size, 0, none⟩ = some (.int .i64 (t : Int)) ∧ Y.cell? ⟨W.heap.size, 2, none⟩ = some (.int .i64 0)) ∧ Y.cell? ⟨k.B, 3, none⟩ = some k.vb ∧ Y.cell? ⟨k.B, 5, none⟩ = some (.slice (some ⟨k.O, 0, none⟩) n n) ∧ Y.cell? ⟨k.B, 6, none⟩ = some (.int .i64 (st.tm + 1))) := fun Y hY => ⟨⟨(hY.cell (p := ⟨W.heap.size, 0, none⟩) lx).trans x0, (hY.cell (p := ⟨W.heap.size, 2, none⟩) lx).trans x2⟩, (hY.cell (p := ⟨k.B, 3, none⟩) lB).trans d3, (hY.cell (p := ⟨k.B, 5, none⟩) lB).trans d5, (hY.cell (p := ⟨k.B, 6, none⟩) lB).trans d6⟩
    clear HC HD HF HBx HBx5 hbV1 hbV2 hbV3 hbV4 d1 d2 d3 d4 d5 d6 lB
    have o5 := HD5.out.ov.bit t ht
    have oz := HD5.out.ov.fz t
    have HD6 := hideIt (HD5.out.setOv ht)
    have HF6 := hideIt (HF5.out.trans (DFr.set (p := ⟨k.O, t, none⟩) (.inr (.inr (.inr (.inl rfl)))) (.bool true)))
    dsimp only at o5
    clear hbx5
    go_wp2_with fail
    refine wp_region_L (B := [7]) (S := (fun _ => True)) (T := (fun w' => Below V5.heap.size V5 w')) (by kernel_rfl) ⟨trivial, (Below.refl _ _).drew⟩ (fun hHeld => ?_)
    refine wpAnyL_takeS (i := 0) (v := ?_) rfl (by kernel_rfl) (by kernel_rfl) (by kernel_rfl) (by kernel_rfl) (fun _ _ _ h => h) (Or.inl ⟨by rfl, ?_⟩) (by assumption) ?_
    rotate_left 1
    · intro wz _
      go_simp
      all_goals with_reducible rfl
    simp only [Act.put, List.setIfInBounds_toArray, List.set_cons_zero, List.set_cons_succ, List.getElem_toArray, List.getElem_cons_zero]
    refine wpAnyL_takeS (i := 1) (v := ?_) rfl (by kernel_rfl) (by kernel_rfl) (by kernel_rfl) (by kernel_rfl) (fun _ _ _ h => h) (Or.inl ⟨by rfl, ?_⟩) (by assumption) ?_
    rotate_left 1
    · intro wz _
      go_simp
      all_goals with_reducible rfl
    simp only [Act.put, List.setIfInBounds_toArray, List.set_cons_zero, List.set_cons_succ, List.getElem_toArray, List.getElem_cons_zero, List.getElem_cons_succ]
    refine wpAnyL_takeS (i := 2) (v := ?_) rfl (by kernel_rfl) (by kernel_rfl) (by kernel_rfl) (by kernel_rfl) (fun _ _ _ h => h) (Or.inl ⟨by rfl, ?_⟩) (by assumption) ?_
    rotate_left 1
    · intro wz _
      go_simp
      all_goals with_reducible rfl
    simp only [Act.put, List.setIfInBounds_toArray, List.set_cons_zero, List.set_cons_succ, List.getElem_toArray, List.getElem_cons_zero, List.getElem_cons_succ]
    refine wpAnyL_take [6, 7] (i := 3) (v := ?_) rfl (by kernel_rfl) (by kernel_rfl) (by kernel_rfl) (by kernel_rfl) (fun _ _ _ h => h) (Or.inl ⟨by rfl, ?_⟩) (by assumption) ?_
    rotate_left 1
    · intro wz sb
      obtain ⟨⟨y0,y2⟩, y3, y4, y5⟩ := HX.out wz sb.2
      go_simp
      all_goals with_reducible rfl
    simp only [Act.put, List.setIfInBounds_toArray, List.set_cons_zero, List.set_cons_succ, List.getElem_toArray, List.getElem_cons_zero, List.getElem_cons_succ]
    refine wpAnyL_takeS (i := 4) (v := ?_) rfl (by kernel_rfl) (by kernel_rfl) (by kernel_rfl) (by kernel_rfl) (fun _ _ _ h => h) (Or.inl ⟨by rfl, ?_⟩) (by assumption) ?_
    rotate_left 1
    · intro wz _
      go_simp
      all_goals with_reducible rfl
    simp only [Act.put, List.setIfInBounds_toArray, List.set_cons_zero, List.set_cons_succ, List.getElem_toArray, List.getElem_cons_zero, List.getElem_cons_succ]
    refine wpAnyL_take [6, 7] (i := 5) (v := ?_) rfl (by kernel_rfl) (by kernel_rfl) (by kernel_rfl) (by kernel_rfl) (fun _ _ _ h => h) (Or.inl ⟨by rfl, ?_⟩) (by assumption) ?_
    rotate_left 1
    · intro wz sb
      obtain ⟨⟨y0,y2⟩, y3, y4, y5⟩ := HX.out wz sb.2
      go_simp
      all_goals with_reducible rfl
    simp only [Act.put, List.setIfInBounds_toArray, List.set_cons_zero, List.set_cons_succ, List.getElem_toArray, List.getElem_cons_zero, List.getElem_cons_succ]
    refine wpAnyL_takeS (i := 6) (v := ?_) rfl (by kernel_rfl) (by kernel_rfl) (by kernel_rfl) (by kernel_rfl) (fun _ _ _ h => h) (Or.inl ⟨by rfl, ?_⟩) (by assumption) ?_
    rotate_left 1
    · intro wz _
      go_simp
      all_goals with_reducible rfl
    simp only [Act.put, List.setIfInBounds_toArray, List.set_cons_zero, List.set_cons_succ, List.getElem_toArray, List.getElem_cons_zero, List.getElem_cons_succ]
    have e1 : V5.drew.cell? ⟨k.O, t, none⟩ = some (.bool (st.ov t)) := o5
    have e2 : V5.drew.frozen? ⟨k.O, t, none⟩ = false := oz
    have HD7 : Hid (DocB w0 (V5.setCell ⟨k.O, t, none⟩ (.bool true)).drew k c n (aboM st t)) := (HD5.out.setOv ht).below (Below.refl _ _).drew
    have HF7 : Hid (DFr k n W (V5.setCell ⟨k.O, t, none⟩ (.bool true)).drew k) := (HF5.out.trans (DFr.set (p := ⟨k.O, t, none⟩) (.inr (.inr (.inr (.inl rfl)))) (.bool true))).trans (DFr.below (Below.refl _ _).drew)
    have hxO : W.heap.size ≠ k.O := by
      have := HW.out k.O (.inr (.inr (.inr (.inl rfl))))
      omega
    have x0s : (V5.setCell ⟨k.O, t, none⟩ (.bool true)).drew.cell? ⟨W.heap.size, 0, none⟩ = some (.int .i64 (t : Int)) := (World.cell?_of_block (a := ⟨W.heap.size, 0, none⟩) (Below.heap_setCell V5.drew ⟨k.O, t, none⟩ _ _ hxO)).trans x0
    refine wpAnyL_ready (rs := [7]) (by kernel_rfl) (by simp) (AllReadyL.last rfl (by kernel_rfl) (fun K hK => ?_) AllReadyL.nil)
    go_simp
    refine hK.out _ _ trivial (fun hHeld => ?_)
    clear hK K
    refine wpAnyL_done (by kernel_rfl) ?_ _
    generalize (V5.setCell ⟨k.O, t, none⟩ (.bool true)).drew = V6 at *
    clear HD6 HF6 o5 oz e1 e2 HX x0 x1 x2
    go_wp2
    go_ret
    exact ⟨k, rfl, HD7.out, HF7.out⟩
  · go_wp2_with fail
    clear z0 z1 z2 z3 z4 z5 z6 z7 z8 z9 z10 z11 zf
    generalize V4.setCell ⟨k.B, 6, none⟩ (.int .i64 (st.tm + 1)) = V5 at *
    have hbx5 := HBx5.out.trans HBx.out
    have x0 : V5.cell? ⟨W.heap.size, 0, none⟩ = some (.int .i64 (t : Int)) := by rw [cell_of_row _ _ _ _ 36 _ hbx5]; rfl
    have x1 : V5.cell? ⟨W.heap.size, 1, none⟩ = some (.int .i64 5) := by rw [cell_of_row _ _ _ _ 36 _ hbx5]; rfl
    have x2 : V5.cell? ⟨W.heap.size, 2, none⟩ = some (.int .i64 0) := by rw [cell_of_row _ _ _ _ 36 _ hbx5]; rfl
    have lx := lt_of_heap hbx5
    obtain ⟨_, d1, d2, d3, d4, d5, d6⟩ := HD5.out.cells
    dsimp only at d6
    have lB := HD5.out.lt
    have HX : Hid (∀ Y, Below V5.heap.size V5 Y → (Y.cell? ⟨W.heap.size, 0, none⟩ = some (.int .i64 (t : Int)) ∧ Y.cell? ⟨W.heap.size, 2, none⟩ = some (.int .i64 0)) ∧ Y.cell? ⟨k.B, 3, none⟩ = some k.vb ∧ Y.cell? ⟨k.B, 5, none⟩ = some (.slice (some ⟨k.O, 0, none⟩) n n) ∧ Y.cell? ⟨k.B, 6, none⟩ = some (.int .i64 (st.tm + 1))) := fun Y hY => ⟨⟨(hY.cell (p := ⟨W.heap.size, 0, none⟩) lx).trans x0, (hY.cell (p := ⟨W.heap.size, 2, none⟩) lx).trans x2⟩, (hY.cell (p := ⟨k.B, 3, none⟩) lB).trans d3, (hY.cell (p := ⟨k.B, 5, none⟩) lB).trans d5, (hY.cell (p := ⟨k.B, 6, none⟩) lB).trans d6⟩
    clear HC HD HF HBx HBx5 hbV1 hbV2 hbV3 hbV4 d1 d2 d3 d4 d5 d6 lB
    have o5 := HD5.out.ov.bit t ht
    have oz := HD5.out.ov.fz t
    have HD6 := hideIt (HD5.out.setOv ht)
    have HF6 := hideIt (HF5.out.trans (DFr.set (p := ⟨k.O, t, none⟩) (.inr (.inr (.inr (.inl rfl)))) (.bool true)))
    dsimp only at o5
    clear hbx5
    go_wp2_with fail
    refine wp_region_L (B := [7]) (S := (fun _ => True)) (T := (fun w' => Below V5.heap.size V5 w')) (by kernel_rfl) ⟨trivial, (Below.refl _ _).drew⟩ (fun hHeld => ?_)
    refine wpAnyL_takeS (i := 0) (v := ?_) rfl (by kernel_rfl) (by kernel_rfl) (by kernel_rfl) (by kernel_rfl) (fun _ _ _ h => h) (Or.inl ⟨by rfl, ?_⟩) (by assumption) ?_
    rotate_left 1
    · intro wz _
      go_simp
      all_goals with_reducible rfl
    simp only [Act.put, List.setIfInBounds_toArray, List.set_cons_zero, List.set_cons_succ, List.getElem_toArray, List.getElem_cons_zero]
    refine wpAnyL_takeS (i := 1) (v := ?_) rfl (by kernel_rfl) (by kernel_rfl) (by kernel_rfl) (by kernel_rfl) (fun _ _ _ h => h) (Or.inl ⟨by rfl, ?_⟩) (by assumption) ?_
    rotate_left 1
    · intro wz _
      go_simp
      all_goals with_reducible rfl
    simp only [Act.put, List.setIfInBounds_toArray, List.set_cons_zero, List.set_cons_succ, List.getElem_toArray, List.getElem_cons_zero, List.getElem_cons_succ]
    refine wpAnyL_takeS (i := 2) (v := ?_) rfl (by kernel_rfl) (by kernel_rfl) (by kernel_rfl) (by kernel_rfl) (fun _ _ _ h => h) (Or.inl ⟨by rfl, ?_⟩) (by assumption) ?_
    rotate_left 1
    · intro wz _
      go_simp
      all_goals with_reducible rfl
    simp only [Act.put, List.setIfInBounds_toArray, List.set_cons_zero, List.set_cons_succ, List.getElem_toArray, List.getElem_cons_zero, List.getElem_cons_succ]
    refine wpAnyL_take [6, 7] (i := 3) (v := ?_) rfl (by kernel_rfl) (by kernel_rfl) (by kernel_rfl) (by kernel_rfl) (fun _ _ _ h => h) (Or.inl ⟨by rfl, ?_⟩) (by assumption) ?_
    rotate_left 1
    · intro wz sb
      obtain ⟨⟨y0,y2⟩, y3, y4, y5⟩ := HX.out wz sb.2
      go_simp
      all_goals with_reducible rfl
    simp only [Act.put, List.setIfInBounds_toArray, List.set_cons_zero, List.set_cons_succ, List.getElem_toArray, List.getElem_cons_zero, List.getElem_cons_succ]
    refine wpAnyL_takeS (i := 4) (v := ?_) rfl (by kernel_rfl) (by kernel_rfl) (by kernel_rfl) (by kernel_rfl) (fun _ _ _ h => h) (Or.inl ⟨by rfl, ?_⟩) (by assumption) ?_
    rotate_left 1
    · intro wz _
      go_simp
      all_goals with_reducible rfl
    simp only [Act.put, List.setIfInBounds_toArray, List.set_cons_zero, List.set_cons_succ, List.getElem_toArray, List.getElem_cons_zero, List.getElem_cons_succ]
    refine wpAnyL_take [6, 7] (i := 5) (v := ?_) rfl (by kernel_rfl) (by kernel_rfl) (by kernel_rfl) (by kernel_rfl) (fun _ _ _ h => h) (Or.inl ⟨by rfl, ?_⟩) (by assumption) ?_
    rotate_left 1
    · intro wz sb
      obtain ⟨⟨y0,y2⟩, y3, y4, y5⟩ := HX.out wz sb.2
      go_simp
      all_goals with_reducible rfl
    simp only [Act.put, List.setIfInBounds_toArray, List.set_cons_zero, List.set_cons_succ, List.getElem_toArray, List.getElem_cons_zero, List.getElem_cons_succ]
    refine wpAnyL_takeS (i := 6) (v := ?_) rfl (by kernel_rfl) (by kernel_rfl) (by kernel_rfl) (by kernel_rfl) (fun _ _ _ h => h) (Or.inl ⟨by rfl, ?_⟩) (by assumption) ?_
    rotate_left 1
    · intro wz _
      go_simp
      all_goals with_reducible rfl
    simp only [Act.put, List.setIfInBounds_toArray, List.set_cons_zero, List.set_cons_succ, List.getElem_toArray, List.getElem_cons_zero, List.getElem_cons_succ]
    have e1 : V5.drew.cell? ⟨k.O, t, none⟩ = some (.bool (st.ov t)) := o5
    have e2 : V5.drew.frozen? ⟨k.O, t, none⟩ = false := oz
    have HD7 : Hid (DocB w0 (V5.setCell ⟨k.O, t, none⟩ (.bool true)).drew k c n (aboM st t)) := (HD5.out.setOv ht).below (Below.refl _ _).drew
    have HF7 : Hid (DFr k n W (V5.setCell ⟨k.O, t, none⟩ (.bool true)).drew k) := (HF5.out.trans (DFr.set (p := ⟨k.O, t, none⟩) (.inr (.inr (.inr (.inl rfl)))) (.bool true))).trans (DFr.below (Below.refl _ _).drew)
    have hxO : W.heap.size ≠ k.O := by
      have := HW.out k.O (.inr (.inr (.inr (.inl rfl))))
      omega
    have x0s : (V5.setCell ⟨k.O, t, none⟩ (.bool true)).drew.cell? ⟨W.heap.size, 0, none⟩ = some (.int .i64 (t : Int)) := (World.cell?_of_block (a := ⟨W.heap.size, 0, none⟩) (Below.heap_setCell V5.drew ⟨k.O, t, none⟩ _ _ hxO)).trans x0
    refine wpAnyL_ready (rs := [7]) (by kernel_rfl) (by simp) (AllReadyL.last rfl (by kernel_rfl) (fun K hK => ?_) AllReadyL.nil)
    go_simp
    refine hK.out _ _ trivial (fun hHeld => ?_)
    clear hK K
    refine wpAnyL_done (by kernel_rfl) ?_ _
    generalize (V5.setCell ⟨k.O, t, none⟩ (.bool true)).drew = V6 at *
    clear HD6 HF6 o5 oz e1 e2 HX x0 x1 x2
    go_wp2
    go_ret
    exact ⟨k, rfl, HD7.out, HF7.out⟩
end
end Go.Proofs.YtaopigjhdkdklaaDoor
