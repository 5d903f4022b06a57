/-
  The statement MergeLast, walked.
-/
import Derived.Test.YthphoiadhddggaaLaL
namespace Go.Proofs.Ythphoiadhddggaa
open Go.RowKit

theorem fields23 : Try.prog.underlying 23 = some (.struct (Try.prog.fieldsOf 23)) := by kernel_rfl
theorem fl23 : (Try.prog.fieldsOf 23).toList.map (fun f => (f.name, f.type, f.offset)) = [("Time", 3, 0), ("Place", 3, 1), ("Value", 3, 2)] := by kernel_rfl
theorem eqLst (a b : Lst) (w : World) : (Op.equalIn 10000 23 (lA a) (lA b)).run Try.prog w = .ok (decide (a = b)) w := by
  have hst : Try.prog.stoodInHeld 23 = false := by kernel_rfl
  have he : Try.prog.plainKey 3 = true := by kernel_rfl
  have hp : ∀ (c : Lst) (W : World), (part 3 #[.int .i64 c.t, .int .i64 c.p, .int .i64 c.v] 0).run Try.prog W = .ok (.int .i64 c.t) W ∧ (part 3 #[.int .i64 c.t, .int .i64 c.p, .int .i64 c.v] 1).run Try.prog W = .ok (.int .i64 c.p) W ∧ (part 3 #[.int .i64 c.t, .int .i64 c.p, .int .i64 c.v] 2).run Try.prog W = .ok (.int .i64 c.v) W := fun c W =>
    ⟨run_part_plain W he rfl, run_part_plain W he rfl, run_part_plain W he rfl⟩
  have hi : ∀ (x y : Int) (W : World), (Op.equalIn 9999 3 (.int .i64 x) (.int .i64 y)).run Try.prog W = .ok (x == y) W := fun x y W => run_equalIn_int W 9998 3 .i64 .i64 x y Try.underlying3
  have e : decide (a = b) = (a.t == b.t && (a.p == b.p && a.v == b.v)) := by
    rw [Bool.eq_iff_iff]
    simp only [decide_eq_true_eq, Bool.and_eq_true, beq_iff_eq]
    exact ⟨fun h => by rw [h]; exact ⟨rfl, rfl, rfl⟩, fun ⟨h1, h2, h3⟩ => lst_ext h1 h2 h3⟩
  have hfl := fl23
  unfold lA
  rw [show (10000 : Nat) = 9999 + 1 from rfl, run_equalIn_struct w 9999 23 _ _ fields23 hst]
  match hL : (Try.prog.fieldsOf 23).toList with
  | [f1, f2, f3] =>
    rw [hL] at hfl
    simp only [List.map_cons, List.map_nil, List.cons.injEq, Prod.mk.injEq, and_true] at hfl
    obtain ⟨⟨n1, t1, o1⟩, ⟨n2, t2, o2⟩, n3, t3, o3⟩ := hfl
    simp only [Op.eqFields, n1, n2, n3, t1, t2, t3, o1, o2, o3, ne_eq, Sem.run_bind, (hp a _).1, (hp a _).2.1, (hp a _).2.2, (hp b _).1, (hp b _).2.1, (hp b _).2.2, Result.andThen_ok, hi, Sem.run_ite]
    rw [e]
    cases a.t == b.t <;> cases a.p == b.p <;> cases a.v == b.v <;> simp
  | [] => rw [hL] at hfl; simp at hfl
  | [_] => rw [hL] at hfl; simp at hfl
  | [_, _] => rw [hL] at hfl; simp at hfl
  | _ :: _ :: _ :: _ :: _ => rw [hL] at hfl; simp at hfl
theorem repLS2 (x y : Lst) (w : World) : RepLS [x, y] (.slice (some ⟨w.heap.size, 0, none⟩) 2 2) (w.alloc (.cells #[.int .i64 x.t, .int .i64 x.p, .int .i64 x.v, .int .i64 y.t, .int .i64 y.p, .int .i64 y.v] 23)) := by
  refine ⟨w.heap.size, rfl, by simp, by simp, fun i hi => ?_⟩
  match i, hi with
  | 0, _ => exact ⟨by rw [cell_of_row _ _ _ _ 23 _ (heap_alloc_new w _)]; rfl, by rw [cell_of_row _ _ _ _ 23 _ (heap_alloc_new w _)]; rfl, by rw [cell_of_row _ _ _ _ 23 _ (heap_alloc_new w _)]; rfl⟩
  | 1, _ => exact ⟨by rw [cell_of_row _ _ _ _ 23 _ (heap_alloc_new w _)]; rfl, by rw [cell_of_row _ _ _ _ 23 _ (heap_alloc_new w _)]; rfl, by rw [cell_of_row _ _ _ _ 23 _ (heap_alloc_new w _)]; rfl⟩
/-- All of three. -/
theorem all_three (a b : Lst) : [b, a].foldl joinL a = joinL a b := by
  simp only [List.foldl_cons, List.foldl_nil]
  rw [joinL_comm (joinL a b) a, ← joinL_assoc, joinL_self]

set_option maxRecDepth 100000 in
set_option maxHeartbeats 8000000 in
theorem last_walk (at_ ap av bt bp bv : Int) (w : World) :
    Calls Try.prog 3 #[.agg #[.int .i64 at_, .int .i64 ap, .int .i64 av], .agg #[.int .i64 bt, .int .i64 bp, .int .i64 bv]] w fun e w' => e = .returned (.bool true) ∧ Below w.heap.size w w' := by
  obtain ⟨⟨jt, jp, jv⟩, hJ⟩ : ∃ J, joinL ⟨at_, ap, av⟩ ⟨bt, bp, bv⟩ = J := ⟨_, rfl⟩
  have HJ := hideIt hJ
  have hlx := lexB_iff ⟨at_, ap, av⟩ ⟨bt, bp, bv⟩
  have HIn : Hid ((lexB ⟨at_, ap, av⟩ ⟨bt, bp, bv⟩ = true → jt = bt ∧ jp = bp ∧ jv = bv) ∧ (lexB ⟨at_, ap, av⟩ ⟨bt, bp, bv⟩ = false → jt = at_ ∧ jp = ap ∧ jv = av)) := by
    unfold joinL at hJ
    refine ⟨fun h => ?_, fun h => ?_⟩
    · rw [h] at hJ
      simp only [if_true] at hJ
      injection hJ with e1 e2 e3
      exact ⟨e1.symm, e2.symm, e3.symm⟩
    · rw [h] at hJ
      simp only [Bool.false_eq_true, if_false] at hJ
      injection hJ with e1 e2 e3
      exact ⟨e1.symm, e2.symm, e3.symm⟩
  have HLx := hideIt hlx
  clear hJ hlx
  have HB0 : Hid (Below w.heap.size w ((w.alloc (lO ⟨at_, ap, av⟩)).alloc (lO ⟨bt, bp, bv⟩))) := belA (belA (Below.refl _ _) _) _
  have HC0 : Hid (((w.alloc (lO ⟨at_, ap, av⟩)).alloc (lO ⟨bt, bp, bv⟩)).heap[w.heap.size]? = some (lO ⟨at_, ap, av⟩)) := blkA (heap_alloc_new w _)
  have HC1 : Hid (((w.alloc (lO ⟨at_, ap, av⟩)).alloc (lO ⟨bt, bp, bv⟩)).heap[w.heap.size + 1]? = some (lO ⟨bt, bp, bv⟩)) := by
    have := heap_alloc_new (w.alloc (lO ⟨at_, ap, av⟩)) (lO ⟨bt, bp, bv⟩)
    simp only [World.size_alloc] at this
    exact this
  have hz0 : ((w.alloc (lO ⟨at_, ap, av⟩)).alloc (lO ⟨bt, bp, bv⟩)).heap.size = w.heap.size + 1 + 1 := by simp
  unfold lO at HB0 HC0 HC1 hz0
  dsimp only at HB0 HC0 HC1 hz0
  go_enter Try.func3, Try.ntmps3
  go_upto_region 2 with fail
  rename_i K1 hK1 K2 hK2
  have eqJJ : ∀ W : World, (Op.equalIn 10000 23 (.agg #[.int .i64 jt, .int .i64 jp, .int .i64 jv]) (.agg #[.int .i64 jt, .int .i64 jp, .int .i64 jv])).run Try.prog W = .ok true W := fun W => by
    have := eqLst ⟨jt, jp, jv⟩ ⟨jt, jp, jv⟩ W
    rw [decide_eq_true rfl] at this
    exact this
  obtain ⟨dq, hdq⟩ : ∃ dq, decide ((⟨at_, ap, av⟩ : Lst) = ⟨bt, bp, bv⟩) = dq := ⟨_, rfl⟩
  have eqAB : ∀ W : World, (Op.equalIn 10000 23 (.agg #[.int .i64 at_, .int .i64 ap, .int .i64 av]) (.agg #[.int .i64 bt, .int .i64 bp, .int .i64 bv])).run Try.prog W = .ok dq W := fun W => by
    have := eqLst ⟨at_, ap, av⟩ ⟨bt, bp, bv⟩ W
    rw [hdq] at this
    exact this
  have eqDD : ∀ W : World, (binOp .eql 4 (.bool dq) (.bool dq)).run Try.prog W = .ok (.bool true) W := fun W => by cases dq <;> rfl
  have HDq := hideIt hdq
  clear hdq
  have HR : Hid (∀ (u6 u7 u8 u9 u10 u11 u12 u13 u14 u15 u16 u17 u18 u19 u20 u21 u22 u23 u24 u25 u26 u27 u28 u29 u30 u31 u32 u33 u34 u35 u36 u37 : Value) (wr : World), Below w.heap.size w wr → wr.heap[w.heap.size]? = some (.cells #[.int .i64 at_, .int .i64 ap, .int .i64 av] 23) → wr.heap[w.heap.size + 1]? = some (.cells #[.int .i64 bt, .int .i64 bp, .int .i64 bv] 23) → wr.heap[w.heap.size + 1 + 1]? = some (.cells #[.int .i64 jt, .int .i64 jp, .int .i64 jv] 23) → K1 { tmps := #[.agg #[.int .i64 at_, .int .i64 ap, .int .i64 av], .agg #[.int .i64 bt, .int .i64 bp, .int .i64 bv], .pointer (some ⟨w.heap.size, 0, none⟩), .pointer (some ⟨w.heap.size + 1, 0, none⟩), .bool false, .pointer (some ⟨w.heap.size + 1 + 1, 0, none⟩), u6, u7, u8, u9, u10, u11, u12, u13, u14, u15, u16, u17, u18, u19, u20, u21, u22, u23, u24, u25, u26, u27, u28, u29, u30, u31, u32, u33, u34, u35, u36, u37, undef, undef, undef, undef, undef, undef, undef, undef, undef, undef, undef, undef, undef, undef, undef, undef, undef, undef, undef, undef, undef, undef, undef], defers := [] } wr) := by
    intro u6 u7 u8 u9 u10 u11 u12 u13 u14 u15 u16 u17 u18 u19 u20 u21 u22 u23 u24 u25 u26 u27 u28 u29 u30 u31 u32 u33 u34 u35 u36 u37 wr hBw h0 h1 h2
    refine hK1 _ _ ?_
    clear hK1 hK2
    have HX : Hid (∀ Z, Below wr.heap.size wr Z → Z.cell? ⟨w.heap.size, 0, none⟩ = some (.int .i64 at_) ∧ Z.cell? ⟨w.heap.size, 1, none⟩ = some (.int .i64 ap) ∧ Z.cell? ⟨w.heap.size, 2, none⟩ = some (.int .i64 av) ∧ Z.cell? ⟨w.heap.size + 1, 0, none⟩ = some (.int .i64 bt) ∧ Z.cell? ⟨w.heap.size + 1, 1, none⟩ = some (.int .i64 bp) ∧ Z.cell? ⟨w.heap.size + 1, 2, none⟩ = some (.int .i64 bv) ∧ Z.cell? ⟨w.heap.size + 1 + 1, 0, none⟩ = some (.int .i64 jt) ∧ Z.cell? ⟨w.heap.size + 1 + 1, 1, none⟩ = some (.int .i64 jp) ∧ Z.cell? ⟨w.heap.size + 1 + 1, 2, none⟩ = some (.int .i64 jv)) := fun Z hZ => by
      obtain ⟨x0, x1, x2, _⟩ := blk3 (blkB h0 hZ (Array.getElem?_eq_some_iff.1 h0).1)
      obtain ⟨y0, y1, y2, _⟩ := blk3 (blkB h1 hZ (Array.getElem?_eq_some_iff.1 h1).1)
      obtain ⟨z0, z1, z2, _⟩ := blk3 (blkB h2 hZ (Array.getElem?_eq_some_iff.1 h2).1)
      exact ⟨x0, x1, x2, y0, y1, y2, z0, z1, z2⟩
    clear h0 h1 h2
    go_upto_region 10 with fail
    refine wp_region_held_drew (S := (fun Z => Below wr.heap.size wr Z)) (by kernel_rfl) (Below.refl _ _).drew (fun hHeld => ?_)
    refine wpAnyH_take (i := 0) (v := ?_) rfl (by kernel_rfl) (by kernel_rfl) (by kernel_rfl) (fun _ _ _ h => h) (Or.inl ⟨by rfl, ?_⟩) (by assumption) ?_
    rotate_left 1
    · intro wz sb
      obtain ⟨y0, y1, y2, y3, y4, y5, y6, y7, y8⟩ := HX.out wz sb
      go_simp
      all_goals with_reducible rfl
    simp only [Act.put, List.setIfInBounds_toArray, List.set_cons_zero, List.set_cons_succ, List.getElem_toArray, List.getElem_cons_zero]
    refine wpAnyH_take (i := 1) (v := ?_) rfl (by kernel_rfl) (by kernel_rfl) (by kernel_rfl) (fun _ _ _ h => h) (Or.inl ⟨by rfl, ?_⟩) (by assumption) ?_
    rotate_left 1
    · intro wz sb
      obtain ⟨y0, y1, y2, y3, y4, y5, y6, y7, y8⟩ := HX.out wz sb
      go_simp
      all_goals with_reducible rfl
    simp only [Act.put, List.setIfInBounds_toArray, List.set_cons_zero, List.set_cons_succ, List.getElem_toArray, List.getElem_cons_zero, List.getElem_cons_succ]
    refine wpAnyH_take (i := 3) (v := ?_) rfl (by kernel_rfl) (by kernel_rfl) (by kernel_rfl) (fun _ _ _ h => h) (Or.inl ⟨by rfl, ?_⟩) (by assumption) ?_
    rotate_left 1
    · intro wz sb
      obtain ⟨y0, y1, y2, y3, y4, y5, y6, y7, y8⟩ := HX.out wz sb
      go_simp
      all_goals with_reducible rfl
    simp only [Act.put, List.setIfInBounds_toArray, List.set_cons_zero, List.set_cons_succ, List.getElem_toArray, List.getElem_cons_zero, List.getElem_cons_succ]
    generalize wr.drew = Y at hHeld ⊢
    refine wpAnyH_ready (rs := [2]) (by kernel_rfl) (by simp) (AllReadyH.cons rfl (fun K hK => ?_) AllReadyH.nil)
    go_simp
    refine (joinL_any ⟨at_, ap, av⟩ ⟨bt, bp, bv⟩ Y).mono fun e Y2 ⟨he, hb2⟩ => ?_
    subst he
    rw [HJ.out]
    unfold lA
    refine hK.out _ _ (belJ hHeld hb2) (fun hHeld => ?_)
    clear hK K
    refine wpAnyH_take (i := 4) (v := .bool true) rfl (by kernel_rfl) (by kernel_rfl) (by kernel_rfl) (fun _ _ _ h => h) (Or.inl ⟨by rfl, fun wz _ => ?_⟩) (by assumption) ?_
    · have := eqJJ wz
      go_simp
    simp only [Act.put, List.setIfInBounds_toArray, List.set_cons_zero, List.set_cons_succ, List.getElem_toArray, List.getElem_cons_zero, List.getElem_cons_succ]
    refine wpAnyH_take (i := 5) (v := ?_) rfl (by kernel_rfl) (by kernel_rfl) (by kernel_rfl) (fun _ _ _ h => h) (Or.inl ⟨by rfl, ?_⟩) (by assumption) ?_
    rotate_left 1
    · intro wz _
      go_simp
      all_goals with_reducible rfl
    simp only [Act.put, List.setIfInBounds_toArray, List.set_cons_zero, List.set_cons_succ, List.getElem_toArray, List.getElem_cons_zero, List.getElem_cons_succ]
    refine wpAnyH_take (i := 6) (v := ?_) rfl (by kernel_rfl) (by kernel_rfl) (by kernel_rfl) (fun _ _ _ h => h) (Or.inl ⟨by rfl, ?_⟩) (by assumption) ?_
    rotate_left 1
    · intro wz sb
      obtain ⟨y0, y1, y2, y3, y4, y5, y6, y7, y8⟩ := HX.out wz sb
      go_simp
      all_goals with_reducible rfl
    simp only [Act.put, List.setIfInBounds_toArray, List.set_cons_zero, List.set_cons_succ, List.getElem_toArray, List.getElem_cons_zero, List.getElem_cons_succ]
    refine wpAnyH_take (i := 7) (v := ?_) rfl (by kernel_rfl) (by kernel_rfl) (by kernel_rfl) (fun _ _ _ h => h) (Or.inl ⟨by rfl, ?_⟩) (by assumption) ?_
    rotate_left 1
    · intro wz sb
      obtain ⟨y0, y1, y2, y3, y4, y5, y6, y7, y8⟩ := HX.out wz sb
      go_simp
      all_goals with_reducible rfl
    simp only [Act.put, List.setIfInBounds_toArray, List.set_cons_zero, List.set_cons_succ, List.getElem_toArray, List.getElem_cons_zero, List.getElem_cons_succ]
    refine wpAnyH_take (i := 9) (v := ?_) rfl (by kernel_rfl) (by kernel_rfl) (by kernel_rfl) (fun _ _ _ h => h) (Or.inl ⟨by rfl, ?_⟩) (by assumption) ?_
    rotate_left 1
    · intro wz sb
      obtain ⟨y0, y1, y2, y3, y4, y5, y6, y7, y8⟩ := HX.out wz sb
      go_simp
      all_goals with_reducible rfl
    simp only [Act.put, List.setIfInBounds_toArray, List.set_cons_zero, List.set_cons_succ, List.getElem_toArray, List.getElem_cons_zero, List.getElem_cons_succ]
    refine wpAnyH_take (i := 10) (v := ?_) rfl (by kernel_rfl) (by kernel_rfl) (by kernel_rfl) (fun _ _ _ h => h) (Or.inl ⟨by rfl, ?_⟩) (by assumption) ?_
    rotate_left 1
    · intro wz sb
      obtain ⟨y0, y1, y2, y3, y4, y5, y6, y7, y8⟩ := HX.out wz sb
      go_simp
      all_goals with_reducible rfl
    simp only [Act.put, List.setIfInBounds_toArray, List.set_cons_zero, List.set_cons_succ, List.getElem_toArray, List.getElem_cons_zero, List.getElem_cons_succ]
    refine wpAnyH_take (i := 11) (v := .bool dq) rfl (by kernel_rfl) (by kernel_rfl) (by kernel_rfl) (fun _ _ _ h => h) (Or.inl ⟨by rfl, fun wz _ => ?_⟩) (by assumption) ?_
    · have := eqAB wz
      go_simp
    simp only [Act.put, List.setIfInBounds_toArray, List.set_cons_zero, List.set_cons_succ, List.getElem_toArray, List.getElem_cons_zero, List.getElem_cons_succ]
    refine wpAnyH_ready (rs := [8]) (by kernel_rfl) (by simp) (AllReadyH.cons rfl (fun K hK => ?_) AllReadyH.nil)
    go_simp
    refine (sameL_any ⟨at_, ap, av⟩ ⟨bt, bp, bv⟩ Y2).mono fun e Y3 ⟨he, hb3⟩ => ?_
    subst he
    rw [HDq.out]
    refine hK.out _ _ (belJ hHeld hb3) (fun hHeld => ?_)
    clear hK K
    refine wpAnyH_take (i := 12) (v := .bool true) rfl (by kernel_rfl) (by kernel_rfl) (by kernel_rfl) (fun _ _ _ h => h) (Or.inl ⟨by rfl, fun wz _ => ?_⟩) (by assumption) ?_
    · have := eqDD wz
      go_simp
    simp only [Act.put, List.setIfInBounds_toArray, List.set_cons_zero, List.set_cons_succ, List.getElem_toArray, List.getElem_cons_zero, List.getElem_cons_succ]
    refine wpAnyH_take (i := 13) (v := ?_) rfl (by kernel_rfl) (by kernel_rfl) (by kernel_rfl) (fun _ _ _ h => h) (Or.inl ⟨by rfl, ?_⟩) (by assumption) ?_
    rotate_left 1
    · intro wz _
      go_simp
      all_goals with_reducible rfl
    simp only [Act.put, List.setIfInBounds_toArray, List.set_cons_zero, List.set_cons_succ, List.getElem_toArray, List.getElem_cons_zero, List.getElem_cons_succ]
    refine wpAnyH_take (i := 14) (v := ?_) rfl (by kernel_rfl) (by kernel_rfl) (by kernel_rfl) (fun _ _ _ h => h) (Or.inl ⟨by rfl, ?_⟩) (by assumption) ?_
    rotate_left 1
    · intro wz _
      go_simp
      all_goals with_reducible rfl
    simp only [Act.put, List.setIfInBounds_toArray, List.set_cons_zero, List.set_cons_succ, List.getElem_toArray, List.getElem_cons_zero, List.getElem_cons_succ]
    refine wpAnyH_take (i := 15) (v := ?_) rfl (by kernel_rfl) (by kernel_rfl) (by kernel_rfl) (fun _ _ _ h => h) (Or.inl ⟨by rfl, ?_⟩) (by assumption) ?_
    rotate_left 1
    · intro wz sb
      obtain ⟨y0, y1, y2, y3, y4, y5, y6, y7, y8⟩ := HX.out wz sb
      go_simp
      all_goals with_reducible rfl
    simp only [Act.put, List.setIfInBounds_toArray, List.set_cons_zero, List.set_cons_succ, List.getElem_toArray, List.getElem_cons_zero, List.getElem_cons_succ]
    refine wpAnyH_take (i := 16) (v := ?_) rfl (by kernel_rfl) (by kernel_rfl) (by kernel_rfl) (fun _ _ _ h => h) (Or.inl ⟨by rfl, ?_⟩) (by assumption) ?_
    rotate_left 1
    · intro wz sb
      obtain ⟨y0, y1, y2, y3, y4, y5, y6, y7, y8⟩ := HX.out wz sb
      go_simp
      all_goals with_reducible rfl
    simp only [Act.put, List.setIfInBounds_toArray, List.set_cons_zero, List.set_cons_succ, List.getElem_toArray, List.getElem_cons_zero, List.getElem_cons_succ]
    refine wpAnyH_take (i := 17) (v := ?_) rfl (by kernel_rfl) (by kernel_rfl) (by kernel_rfl) (fun _ _ _ h => h) (Or.inl ⟨by rfl, ?_⟩) (by assumption) ?_
    rotate_left 1
    · intro wz sb
      obtain ⟨y0, y1, y2, y3, y4, y5, y6, y7, y8⟩ := HX.out wz sb
      go_simp
      all_goals with_reducible rfl
    simp only [Act.put, List.setIfInBounds_toArray, List.set_cons_zero, List.set_cons_succ, List.getElem_toArray, List.getElem_cons_zero, List.getElem_cons_succ]
    refine wpAnyH_take (i := 20) (v := ?_) rfl (by kernel_rfl) (by kernel_rfl) (by kernel_rfl) (fun _ _ _ h => h) (Or.inl ⟨by rfl, ?_⟩) (by assumption) ?_
    rotate_left 1
    · intro wz sb
      obtain ⟨y0, y1, y2, y3, y4, y5, y6, y7, y8⟩ := HX.out wz sb
      go_simp
      all_goals with_reducible rfl
    simp only [Act.put, List.setIfInBounds_toArray, List.set_cons_zero, List.set_cons_succ, List.getElem_toArray, List.getElem_cons_zero, List.getElem_cons_succ]
    refine wpAnyH_ready (rs := [18]) (by kernel_rfl) (by simp) (AllReadyH.cons rfl (fun K hK => ?_) AllReadyH.nil)
    go_simp
    have hr7 := repLS2 ⟨bt, bp, bv⟩ ⟨at_, ap, av⟩ Y3
    dsimp only at hr7
    have hb7 : Below Y3.heap.size Y3 (Y3.alloc (.cells #[.int .i64 bt, .int .i64 bp, .int .i64 bv, .int .i64 at_, .int .i64 ap, .int .i64 av] 23)) := belA (Below.refl _ _) _
    refine hK.out _ _ (belJ hHeld hb7) (fun hHeld => ?_)
    clear hK K
    generalize Y3.alloc (.cells #[.int .i64 bt, .int .i64 bp, .int .i64 bv, .int .i64 at_, .int .i64 ap, .int .i64 av] 23) = Y7 at hr7 hHeld ⊢
    clear hb7
    refine wpAnyH_ready (rs := [19]) (by kernel_rfl) (by simp) (AllReadyH.cons rfl (fun K hK => ?_) AllReadyH.nil)
    go_simp
    refine (allL_any ⟨at_, ap, av⟩ [⟨bt, bp, bv⟩, ⟨at_, ap, av⟩] (.agg #[.int .i64 at_, .int .i64 ap, .int .i64 av]) _ Y7 rfl hr7).mono fun e Y4 ⟨r, he, hr, hb4⟩ => ?_
    subst he
    obtain rfl : r = lA _ := hr
    rw [all_three, HJ.out]
    unfold lA
    refine hK.out _ _ (belJ hHeld hb4) (fun hHeld => ?_)
    clear hK K
    refine wpAnyH_take (i := 21) (v := .bool true) rfl (by kernel_rfl) (by kernel_rfl) (by kernel_rfl) (fun _ _ _ h => h) (Or.inl ⟨by rfl, fun wz _ => ?_⟩) (by assumption) ?_
    · have := eqJJ wz
      go_simp
    simp only [Act.put, List.setIfInBounds_toArray, List.set_cons_zero, List.set_cons_succ, List.getElem_toArray, List.getElem_cons_zero, List.getElem_cons_succ]
    refine wpAnyH_take (i := 22) (v := ?_) rfl (by kernel_rfl) (by kernel_rfl) (by kernel_rfl) (fun _ _ _ h => h) (Or.inl ⟨by rfl, ?_⟩) (by assumption) ?_
    rotate_left 1
    · intro wz _
      go_simp
      all_goals with_reducible rfl
    simp only [Act.put, List.setIfInBounds_toArray, List.set_cons_zero, List.set_cons_succ, List.getElem_toArray, List.getElem_cons_zero, List.getElem_cons_succ]
    refine wpAnyH_ready (rs := [23]) (by kernel_rfl) (by simp) (AllReadyH.cons rfl (fun K hK => ?_) AllReadyH.nil)
    go_simp
    refine hK.out _ _ hHeld (fun hHeld => ?_)
    clear hK K
    refine wpAnyH_done (by kernel_rfl) ?_ _
    go_wp2
    go_ret
    exact ⟨rfl, belJ hBw hHeld⟩
  clear hK1 eqJJ eqAB eqDD HDq
  have HW : Hid (Below w.heap.size w (((w.alloc (.cells #[.int .i64 at_, .int .i64 ap, .int .i64 av] 23)).alloc (.cells #[.int .i64 bt, .int .i64 bp, .int .i64 bv] 23)).alloc (.cells #[.int .i64 at_, .int .i64 ap, .int .i64 av] 23))) := belA HB0.out _
  have HD0 := hideIt (blkA (o := .cells #[.int .i64 at_, .int .i64 ap, .int .i64 av] 23) HC0.out)
  have HD1 := hideIt (blkA (o := .cells #[.int .i64 at_, .int .i64 ap, .int .i64 av] 23) HC1.out)
  have HD2 := hideIt (heap_alloc_new ((w.alloc (.cells #[.int .i64 at_, .int .i64 ap, .int .i64 av] 23)).alloc (.cells #[.int .i64 bt, .int .i64 bp, .int .i64 bv] 23)) (.cells #[.int .i64 at_, .int .i64 ap, .int .i64 av] 23))
  simp only [World.size_alloc] at HD2
  clear HB0 HC0 HC1 hz0
  generalize ((w.alloc _).alloc _).alloc _ = W at HW HD0 HD1 HD2 ⊢
  obtain ⟨x0, x1, x2, _, _, _⟩ := blk3 HD0.out
  obtain ⟨y0, y1, y2, _, _, _⟩ := blk3 HD1.out
  obtain ⟨z0, z1, z2, f0, f1, f2⟩ := blk3 HD2.out
  have HRa : Hid (lexB ⟨at_, ap, av⟩ ⟨bt, bp, bv⟩ = false → ∀ (u6 u7 u8 u9 u10 u11 u12 u13 u14 u15 u16 u17 u18 u19 u20 u21 u22 u23 u24 u25 u26 u27 u28 u29 u30 u31 u32 u33 u34 u35 u36 u37 : Value), K1 { tmps := #[.agg #[.int .i64 at_, .int .i64 ap, .int .i64 av], .agg #[.int .i64 bt, .int .i64 bp, .int .i64 bv], .pointer (some ⟨w.heap.size, 0, none⟩), .pointer (some ⟨w.heap.size + 1, 0, none⟩), .bool false, .pointer (some ⟨w.heap.size + 1 + 1, 0, none⟩), u6, u7, u8, u9, u10, u11, u12, u13, u14, u15, u16, u17, u18, u19, u20, u21, u22, u23, u24, u25, u26, u27, u28, u29, u30, u31, u32, u33, u34, u35, u36, u37, undef, undef, undef, undef, undef, undef, undef, undef, undef, undef, undef, undef, undef, undef, undef, undef, undef, undef, undef, undef, undef, undef, undef], defers := [] } W) := by
    intro hx
    obtain ⟨rfl, rfl, rfl⟩ := HIn.out.2 hx
    intro u6 u7 u8 u9 u10 u11 u12 u13 u14 u15 u16 u17 u18 u19 u20 u21 u22 u23 u24 u25 u26 u27 u28 u29 u30 u31 u32 u33 u34 u35 u36 u37
    exact HR.out u6 u7 u8 u9 u10 u11 u12 u13 u14 u15 u16 u17 u18 u19 u20 u21 u22 u23 u24 u25 u26 u27 u28 u29 u30 u31 u32 u33 u34 u35 u36 u37 W HW.out HD0.out HD1.out HD2.out
  have HRb : Hid (lexB ⟨at_, ap, av⟩ ⟨bt, bp, bv⟩ = true → ∀ (u6 u7 u8 u9 u10 u11 u12 u13 u14 u15 u16 u17 u18 u19 u20 u21 u22 u23 u24 u25 u26 u27 u28 u29 u30 u31 u32 u33 u34 u35 u36 u37 : Value), K1 { tmps := #[.agg #[.int .i64 at_, .int .i64 ap, .int .i64 av], .agg #[.int .i64 bt, .int .i64 bp, .int .i64 bv], .pointer (some ⟨w.heap.size, 0, none⟩), .pointer (some ⟨w.heap.size + 1, 0, none⟩), .bool false, .pointer (some ⟨w.heap.size + 1 + 1, 0, none⟩), u6, u7, u8, u9, u10, u11, u12, u13, u14, u15, u16, u17, u18, u19, u20, u21, u22, u23, u24, u25, u26, u27, u28, u29, u30, u31, u32, u33, u34, u35, u36, u37, undef, undef, undef, undef, undef, undef, undef, undef, undef, undef, undef, undef, undef, undef, undef, undef, undef, undef, undef, undef, undef, undef, undef], defers := [] } (((W.setCell ⟨w.heap.size + 1 + 1, 0, none⟩ (.int .i64 bt)).setCell ⟨w.heap.size + 1 + 1, 1, none⟩ (.int .i64 bp)).setCell ⟨w.heap.size + 1 + 1, 2, none⟩ (.int .i64 bv))) := by
    intro hx
    obtain ⟨rfl, rfl, rfl⟩ := HIn.out.1 hx
    intro u6 u7 u8 u9 u10 u11 u12 u13 u14 u15 u16 u17 u18 u19 u20 u21 u22 u23 u24 u25 u26 u27 u28 u29 u30 u31 u32 u33 u34 u35 u36 u37
    refine HR.out u6 u7 u8 u9 u10 u11 u12 u13 u14 u15 u16 u17 u18 u19 u20 u21 u22 u23 u24 u25 u26 u27 u28 u29 u30 u31 u32 u33 u34 u35 u36 u37 _ (((HW.out.setCell (by simp; omega) _).setCell (by simp; omega) _).setCell (by simp; omega) _) ?_ ?_ ?_
    · exact (Below.heap_setCell _ _ _ _ (by simp; omega)).trans ((Below.heap_setCell _ _ _ _ (by simp; omega)).trans ((Below.heap_setCell _ _ _ _ (by simp; omega)).trans HD0.out))
    · exact (Below.heap_setCell _ _ _ _ (by simp)).trans ((Below.heap_setCell _ _ _ _ (by simp)).trans ((Below.heap_setCell _ _ _ _ (by simp)).trans HD1.out))
    · exact heap_setCell_same _ _ 2 _ 23 _ (heap_setCell_same _ _ 1 _ 23 _ (heap_setCell_same W _ 0 _ 23 _ HD2.out))
  clear HR HIn HJ
  by_cases ht : bt = at_
  · by_cases hp : bp = ap
    · by_cases hv : bv > av
      · have hx := HRb.out (HLx.out.2 (.inr ⟨ht.symm, .inr ⟨hp.symm, hv⟩⟩))
        have HX := hideIt hx
        clear hx HRa HRb HLx
        subst ht hp
        have hv' : av < bv := hv
        go_wp2
        exact HX.out _ _ _ _ _ _ _ _ _ _ _ _ _ _ _ _ _ _ _ _ _ _ _ _ _ _ _ _ _ _ _ _
      · have hx := HRa.out (by
          cases e : lexB ⟨at_, ap, av⟩ ⟨bt, bp, bv⟩ with
          | false => rfl
          | true => have := HLx.out.1 e; dsimp only at this; omega)
        have HX := hideIt hx
        clear hx HRa HRb HLx
        subst ht hp
        have hv' : ¬ av < bv := hv
        go_wp2
        exact HX.out _ _ _ _ _ _ _ _ _ _ _ _ _ _ _ _ _ _ _ _ _ _ _ _ _ _ _ _ _ _ _ _
    · by_cases hv : bp > ap
      · have hx := HRb.out (HLx.out.2 (.inr ⟨ht.symm, .inl hv⟩))
        have HX := hideIt hx
        clear hx HRa HRb HLx
        subst ht
        have hv' : ap < bp := hv
        have hp' : (bp != ap) = true := by simp [hp]
        go_wp2
        exact HX.out _ _ _ _ _ _ _ _ _ _ _ _ _ _ _ _ _ _ _ _ _ _ _ _ _ _ _ _ _ _ _ _
      · have hx := HRa.out (by
          cases e : lexB ⟨at_, ap, av⟩ ⟨bt, bp, bv⟩ with
          | false => rfl
          | true => have := HLx.out.1 e; dsimp only at this; omega)
        have HX := hideIt hx
        clear hx HRa HRb HLx
        subst ht
        have hv' : ¬ ap < bp := hv
        have hp' : (bp != ap) = true := by simp [hp]
        go_wp2
        exact HX.out _ _ _ _ _ _ _ _ _ _ _ _ _ _ _ _ _ _ _ _ _ _ _ _ _ _ _ _ _ _ _ _
  · by_cases hv : bt > at_
    · have hx := HRb.out (HLx.out.2 (.inl hv))
      have HX := hideIt hx
      clear hx HRa HRb HLx
      have hv' : at_ < bt := hv
      have ht' : (bt != at_) = true := by simp [ht]
      go_wp2
      exact HX.out _ _ _ _ _ _ _ _ _ _ _ _ _ _ _ _ _ _ _ _ _ _ _ _ _ _ _ _ _ _ _ _
    · have hx := HRa.out (by
        cases e : lexB ⟨at_, ap, av⟩ ⟨bt, bp, bv⟩ with
        | false => rfl
        | true => have := HLx.out.1 e; dsimp only at this; omega)
      have HX := hideIt hx
      clear hx HRa HRb HLx
      have hv' : ¬ at_ < bt := hv
      have ht' : (bt != at_) = true := by simp [ht]
      go_wp2
      exact HX.out _ _ _ _ _ _ _ _ _ _ _ _ _ _ _ _ _ _ _ _ _ _ _ _ _ _ _ _ _ _ _ _
end Go.Proofs.Ythphoiadhddggaa
