/-
  Chapter 15.1: what was written last: Compare, Or; Join and Same of a Last, walked.
-/
import Derived.Test.YthphoiadhddggaaThZ
namespace Go.Proofs.Ythphoiadhddggaa
open Go.RowKit

structure Lst where
  t : Int
  p : Int
  v : Int
  deriving DecidableEq
def lA (a : Lst) : Value := .agg #[.int .i64 a.t, .int .i64 a.p, .int .i64 a.v]
def cmpI (x y : Int) : Int := if x < y then -1 else if x > y then 1 else 0
def orI (x y z : Int) : Int := if x ≠ 0 then x else if y ≠ 0 then y else z
/-- Is the first one written ahead? -/
def lexB (a b : Lst) : Bool := decide (orI (cmpI a.t b.t) (cmpI a.p b.p) (cmpI a.v b.v) < 0)
def joinL (a b : Lst) : Lst := if lexB a b then b else a
theorem lexB_iff (a b : Lst) : lexB a b = true ↔ a.t < b.t ∨ (a.t = b.t ∧ (a.p < b.p ∨ (a.p = b.p ∧ a.v < b.v))) := by
  have h : ∀ x y, (cmpI x y < 0 ↔ x < y) ∧ (cmpI x y = 0 ↔ x = y) := fun x y => by
    unfold cmpI
    constructor
    · split
      · simp; assumption
      · split <;> simp <;> omega
    · split
      · simp; omega
      · split <;> simp <;> omega
  obtain ⟨h1, h2⟩ := h a.t b.t
  obtain ⟨h3, h4⟩ := h a.p b.p
  obtain ⟨h5, h6⟩ := h a.v b.v
  unfold lexB orI
  rw [decide_eq_true_eq]
  generalize cmpI a.t b.t = x at *
  generalize cmpI a.p b.p = y at *
  generalize cmpI a.v b.v = z at *
  by_cases e1 : x = 0
  · by_cases e2 : y = 0
    · simp only [e1, e2, ne_eq, not_true_eq_false, if_false]
      rw [h5]
      constructor
      · intro h7; exact .inr ⟨h2.1 e1, .inr ⟨h4.1 e2, h7⟩⟩
      · rintro (h7 | ⟨_, h7 | ⟨_, h7⟩⟩)
        · have := h2.1 e1; omega
        · have := h4.1 e2; omega
        · exact h7
    · simp only [e1, e2, ne_eq, not_true_eq_false, not_false_eq_true, if_false, if_true]
      rw [h3]
      constructor
      · intro h7; exact .inr ⟨h2.1 e1, .inl h7⟩
      · rintro (h7 | ⟨_, h7 | ⟨h7, _⟩⟩)
        · have := h2.1 e1; omega
        · exact h7
        · exact absurd (h4.2 h7) e2
  · simp only [e1, ne_eq, not_false_eq_true, if_true]
    rw [h1]
    constructor
    · exact .inl
    · rintro (h7 | ⟨h7, _⟩)
      · exact h7
      · exact absurd (h2.2 h7) e1

set_option maxRecDepth 100000 in
theorem isNaN_any (x : Int) (w : World) : Calls Try.prog 34 #[.int .i64 x] w fun e w' => e = .returned (.bool false) ∧ w' = w := by
  have h : (x != x) = false := by simp
  go_enter Try.func34, Try.ntmps34
  go_wp2
  go_ret
  exact ⟨rfl, rfl⟩
set_option maxRecDepth 100000 in
theorem compare_any (x y : Int) (w : World) : Calls Try.prog 23 #[.int .i64 x, .int .i64 y] w fun e w' => e = .returned (.int .i64 (cmpI x y)) ∧ w' = w := by
  have HC : Hid (cmpI x y = if x < y then -1 else if x > y then 1 else 0) := rfl
  go_enter Try.func23, Try.ntmps23
  go_wp2_with fail
  refine (isNaN_any x w).mono fun e w1 ⟨he, hw⟩ => ?_
  subst he w1
  go_wp2_with fail
  refine (isNaN_any y w).mono fun e w1 ⟨he, hw⟩ => ?_
  subst he w1
  by_cases h1 : x < y
  · go_wp2
    go_ret
    exact ⟨ret_int (by rw [HC.out, if_pos (by omega)]), rfl⟩
  · by_cases h2 : x > y
    · have h2' : y < x := h2
      go_wp2
      go_ret
      exact ⟨ret_int (by rw [HC.out, if_neg (by omega), if_pos (by omega)]), rfl⟩
    · have h2' : ¬ y < x := h2
      go_wp2
      go_ret
      exact ⟨ret_int (by rw [HC.out, if_neg (by omega), if_neg (by omega)]), rfl⟩
set_option maxRecDepth 100000 in
set_option maxHeartbeats 4000000 in
theorem or_any (x y z : Int) (b : Nat) (w : World) (h0 : w.cell? ⟨b, 0, none⟩ = some (.int .i64 x)) (h1 : w.cell? ⟨b, 1, none⟩ = some (.int .i64 y)) (h2 : w.cell? ⟨b, 2, none⟩ = some (.int .i64 z)) :
    Calls Try.prog 22 #[.slice (some ⟨b, 0, none⟩) 3 3] w fun e w' => e = .returned (.int .i64 (orI x y z)) ∧ w' = w := by
  have hc : ∀ k : Nat, k < 3 → w.cell? ⟨b, k, none⟩ = some (.int .i64 ([x, y, z].getD k 0)) := fun k hk => by
    match k, hk with
    | 0, _ => exact h0
    | 1, _ => exact h1
    | 2, _ => exact h2
  have HC := hideIt hc
  clear h0 h1 h2 hc
  go_enter Try.func22, Try.ntmps22
  go_wp2
  go_loopw [8] (fun v wr => ∃ k : Nat, k ≤ 3 ∧ v = .int .i64 k ∧ (∀ j, j < k → [x, y, z].getD j 0 = 0) ∧ wr = w) (fun v _ => 3 - (intOf v).toNat)
  case atStart => exact ⟨0, by omega, rfl, fun j h => (by omega), rfl⟩
  case round =>
    obtain ⟨k, hk, rfl, hz, hw⟩ := hrel
    have HZ := hideIt hz
    clear hz
    subst wr
    by_cases hk3 : k < 3
    · have hk3' : (k : Int) < 3 := by omega
      have hck := HC.out k hk3
      by_cases he : [x, y, z].getD k 0 = 0
      · rw [he] at hck
        have HE := hideIt he
        clear he
        go_wp2
        go_roundw
        case rel => exact ⟨k + 1, by omega, by go_num, fun j hj => (by
          by_cases e : j = k
          · rw [e]; exact HE.out
          · exact HZ.out j (by omega)), trivial⟩
        case measure => simp [intOf]; omega
      · have HR : Hid ([x, y, z].getD k 0 = orI x y z) := by
          show _ = _
          unfold orI
          match k, hk3 with
          | 0, _ =>
            have e : x ≠ 0 := he
            rw [if_pos e]; rfl
          | 1, _ =>
            have e0 : x = 0 := HZ.out 0 (by omega)
            have e : y ≠ 0 := he
            rw [if_neg (fun h => h e0), if_pos e]; rfl
          | 2, _ =>
            have e0 : x = 0 := HZ.out 0 (by omega)
            have e1 : y = 0 := HZ.out 1 (by omega)
            rw [if_neg (fun h => h e0), if_neg (fun h => h e1)]; rfl
        generalize [x, y, z].getD k 0 = u at *
        have hu : (u != 0) = true := by simp [he]
        go_wp2
        go_ret
        exact ⟨ret_int HR.out, rfl⟩
    · have hk3' : ¬ (k : Int) < 3 := by omega
      have HR : Hid (orI x y z = 0) := by
        show _ = _
        have a0 : x = 0 := HZ.out 0 (by omega)
        have a1 : y = 0 := HZ.out 1 (by omega)
        have a2 : z = 0 := HZ.out 2 (by omega)
        subst a0 a1 a2
        rfl
      go_wp2
      go_ret
      exact ⟨ret_int HR.out.symm, rfl⟩

theorem blk3 {w : World} {b : Nat} {x y z : Value} {t : TypeId} (h : w.heap[b]? = some (.cells #[x, y, z] t)) : w.cell? ⟨b, 0, none⟩ = some x ∧ w.cell? ⟨b, 1, none⟩ = some y ∧ w.cell? ⟨b, 2, none⟩ = some z ∧ w.frozen? ⟨b, 0, none⟩ = false ∧ w.frozen? ⟨b, 1, none⟩ = false ∧ w.frozen? ⟨b, 2, none⟩ = false :=
  ⟨by rw [cell_of_row _ _ _ _ t _ h]; rfl, by rw [cell_of_row _ _ _ _ t _ h]; rfl, by rw [cell_of_row _ _ _ _ t _ h]; rfl, frozen_of_row _ _ _ _ t h, frozen_of_row _ _ _ _ t h, frozen_of_row _ _ _ _ t h⟩
theorem size23L : (Try.prog.info? 23).map (·.size) = some 3 := by kernel_rfl
theorem loadL {w : World} {g : Nat} {a : Lst} (h0 : w.cell? ⟨g, 0, none⟩ = some (.int .i64 a.t)) (h1 : w.cell? ⟨g, 1, none⟩ = some (.int .i64 a.p)) (h2 : w.cell? ⟨g, 2, none⟩ = some (.int .i64 a.v)) : (loadVar 23 ⟨g, 0, none⟩).run Try.prog w = .ok (lA a) w :=
  run_loadVar_mid w g 0 23 [.int .i64 a.t, .int .i64 a.p, .int .i64 a.v] _ (fun j x hx => by
    match j with
    | 0 => simp at hx; subst hx; exact h0
    | 1 => simp at hx; subst hx; exact h1
    | 2 => simp at hx; subst hx; exact h2
    | j + 3 => simp at hx) Try.underlying23 rfl size23L

set_option maxRecDepth 100000 in
set_option maxHeartbeats 4000000 in
theorem joinL_any (a b : Lst) (w : World) : Calls Try.prog 7 #[lA a, lA b] w fun e w' => e = .returned (lA (joinL a b)) ∧ Below w.heap.size w w' := by
  obtain ⟨at_, ap, av⟩ := a
  obtain ⟨bt, bp, bv⟩ := b
  unfold lA
  have HLx : Hid (lexB ⟨at_, ap, av⟩ ⟨bt, bp, bv⟩ = decide (orI (cmpI at_ bt) (cmpI ap bp) (cmpI av bv) < 0)) := rfl
  have HB0 : Hid (Below w.heap.size w (((w.alloc (.cells #[.int .i64 at_, .int .i64 ap, .int .i64 av] 23)).alloc (.cells #[.int .i64 bt, .int .i64 bp, .int .i64 bv] 23)).alloc (.cells #[.int .i64 0, .int .i64 0, .int .i64 0] 23))) := belA (belA (belA (Below.refl _ _) _) _) _
  have HC0 : Hid ((((w.alloc (.cells #[.int .i64 at_, .int .i64 ap, .int .i64 av] 23)).alloc (.cells #[.int .i64 bt, .int .i64 bp, .int .i64 bv] 23)).alloc (.cells #[.int .i64 0, .int .i64 0, .int .i64 0] 23)).heap[w.heap.size]? = some (.cells #[.int .i64 at_, .int .i64 ap, .int .i64 av] 23)) := blkA (blkA (heap_alloc_new w _))
  have HC1 : Hid ((((w.alloc (.cells #[.int .i64 at_, .int .i64 ap, .int .i64 av] 23)).alloc (.cells #[.int .i64 bt, .int .i64 bp, .int .i64 bv] 23)).alloc (.cells #[.int .i64 0, .int .i64 0, .int .i64 0] 23)).heap[w.heap.size + 1]? = some (.cells #[.int .i64 bt, .int .i64 bp, .int .i64 bv] 23)) := blkA (by simpa using heap_alloc_new (w.alloc (.cells #[.int .i64 at_, .int .i64 ap, .int .i64 av] 23)) (.cells #[.int .i64 bt, .int .i64 bp, .int .i64 bv] 23))
  have HC2 : Hid ((((w.alloc (.cells #[.int .i64 at_, .int .i64 ap, .int .i64 av] 23)).alloc (.cells #[.int .i64 bt, .int .i64 bp, .int .i64 bv] 23)).alloc (.cells #[.int .i64 0, .int .i64 0, .int .i64 0] 23)).heap[w.heap.size + 1 + 1]? = some (.cells #[.int .i64 0, .int .i64 0, .int .i64 0] 23)) := by
    have := heap_alloc_new ((w.alloc (.cells #[.int .i64 at_, .int .i64 ap, .int .i64 av] 23)).alloc (.cells #[.int .i64 bt, .int .i64 bp, .int .i64 bv] 23)) (.cells #[.int .i64 0, .int .i64 0, .int .i64 0] 23)
    simp only [World.size_alloc] at this
    exact this
  go_enter Try.func7, Try.ntmps7
  go_upto_region 1 with fail
  generalize ((w.alloc _).alloc _).alloc _ = wr at HB0 HC0 HC1 HC2 ⊢
  have hl0 := (Array.getElem?_eq_some_iff.1 HC0.out).1
  have hl1 := (Array.getElem?_eq_some_iff.1 HC1.out).1
  have hl2 := (Array.getElem?_eq_some_iff.1 HC2.out).1
  have HX : Hid (∀ Z, Below wr.heap.size wr Z → Z.cell? ⟨w.heap.size, 0, none⟩ = some (.int .i64 at_) ∧ Z.cell? ⟨w.heap.size, 1, none⟩ = some (.int .i64 ap) ∧ Z.cell? ⟨w.heap.size, 2, none⟩ = some (.int .i64 av) ∧ Z.cell? ⟨w.heap.size + 1, 0, none⟩ = some (.int .i64 bt) ∧ Z.cell? ⟨w.heap.size + 1, 1, none⟩ = some (.int .i64 bp) ∧ Z.cell? ⟨w.heap.size + 1, 2, none⟩ = some (.int .i64 bv)) := fun Z hZ => by
    obtain ⟨x0, x1, x2, _⟩ := blk3 (blkB HC0.out hZ hl0)
    obtain ⟨y0, y1, y2, _⟩ := blk3 (blkB HC1.out hZ hl1)
    exact ⟨x0, x1, x2, y0, y1, y2⟩
  go_cut [22] from 5 to 21 (fun x wx => x = .bool (lexB ⟨at_, ap, av⟩ ⟨bt, bp, bv⟩) ∧ Below wr.heap.size wr wx)
  case rest =>
    rename World => w5
    obtain ⟨rfl, hb5⟩ := hcut
    obtain ⟨x0, x1, x2, y0, y1, y2⟩ := HX.out w5 hb5
    obtain ⟨z0, z1, z2, f0, f1, f2⟩ := blk3 (blkB HC2.out hb5 hl2)
    have HBw := hideIt (belJ HB0.out hb5)
    clear hb5 HX
    cases hlx : lexB ⟨at_, ap, av⟩ ⟨bt, bp, bv⟩ with
    | true =>
      have HJ : Hid (joinL ⟨at_, ap, av⟩ ⟨bt, bp, bv⟩ = ⟨bt, bp, bv⟩) := by show _ = _; unfold joinL; rw [hlx]; rfl
      go_wp2
      rw [HJ.out]
      refine bodyPost_ret (results_one rfl _ _ _ _ rfl (loadL (a := ⟨bt, bp, bv⟩) ?_ ?_ ?_)) rfl ⟨rfl, ((HBw.out.setCell (by simp; omega) _).setCell (by simp; omega) _).setCell (by simp; omega) _⟩
      · rw [World.cell?_setCell_other _ _ _ _ (offN (by omega)), World.cell?_setCell_other _ _ _ _ (offN (by omega))]
        exact World.cell?_setCell_same _ _ _ z0
      · rw [World.cell?_setCell_other _ _ _ _ (offN (by omega))]
        refine World.cell?_setCell_same _ _ _ (u := .int .i64 0) ?_
        rw [World.cell?_setCell_other _ _ _ _ (offN (by omega))]
        exact z1
      · refine World.cell?_setCell_same _ _ _ (u := .int .i64 0) ?_
        rw [World.cell?_setCell_other _ _ _ _ (offN (by omega)), World.cell?_setCell_other _ _ _ _ (offN (by omega))]
        exact z2
    | false =>
      have HJ : Hid (joinL ⟨at_, ap, av⟩ ⟨bt, bp, bv⟩ = ⟨at_, ap, av⟩) := by show _ = _; unfold joinL; rw [hlx]; rfl
      go_wp2
      rw [HJ.out]
      refine bodyPost_ret (results_one rfl _ _ _ _ rfl (loadL (a := ⟨at_, ap, av⟩) ?_ ?_ ?_)) rfl ⟨rfl, ((HBw.out.setCell (by simp; omega) _).setCell (by simp; omega) _).setCell (by simp; omega) _⟩
      · rw [World.cell?_setCell_other _ _ _ _ (offN (by omega)), World.cell?_setCell_other _ _ _ _ (offN (by omega))]
        exact World.cell?_setCell_same _ _ _ z0
      · rw [World.cell?_setCell_other _ _ _ _ (offN (by omega))]
        refine World.cell?_setCell_same _ _ _ (u := .int .i64 0) ?_
        rw [World.cell?_setCell_other _ _ _ _ (offN (by omega))]
        exact z1
      · refine World.cell?_setCell_same _ _ _ (u := .int .i64 0) ?_
        rw [World.cell?_setCell_other _ _ _ _ (offN (by omega)), World.cell?_setCell_other _ _ _ _ (offN (by omega))]
        exact z2
  refine wp_region_held_drew (S := (fun Z => Below wr.heap.size wr Z)) (by kernel_rfl) (Below.refl _ _).drew (fun hHeld => ?_)
  refine wpAnyH_take (i := 0) (v := ?_) rfl (by kernel_rfl) (by kernel_rfl) (by kernel_rfl) (fun _ _ _ h => h) (Or.inl ⟨by rfl, ?_⟩) (by assumption) ?_
  rotate_left 1
  · intro wz sb
    obtain ⟨y0, y1, y2, y3, y4, y5⟩ := HX.out wz sb
    go_simp
    all_goals with_reducible rfl
  simp only [Act.put, List.setIfInBounds_toArray, List.set_cons_zero, List.set_cons_succ, List.getElem_toArray, List.getElem_cons_zero]
  refine wpAnyH_take (i := 1) (v := ?_) rfl (by kernel_rfl) (by kernel_rfl) (by kernel_rfl) (fun _ _ _ h => h) (Or.inl ⟨by rfl, ?_⟩) (by assumption) ?_
  rotate_left 1
  · intro wz sb
    obtain ⟨y0, y1, y2, y3, y4, y5⟩ := HX.out wz sb
    go_simp
    all_goals with_reducible rfl
  simp only [Act.put, List.setIfInBounds_toArray, List.set_cons_zero, List.set_cons_succ, List.getElem_toArray, List.getElem_cons_zero, List.getElem_cons_succ]
  refine wpAnyH_take (i := 2) (v := ?_) rfl (by kernel_rfl) (by kernel_rfl) (by kernel_rfl) (fun _ _ _ h => h) (Or.inl ⟨by rfl, ?_⟩) (by assumption) ?_
  rotate_left 1
  · intro wz sb
    obtain ⟨y0, y1, y2, y3, y4, y5⟩ := HX.out wz sb
    go_simp
    all_goals with_reducible rfl
  simp only [Act.put, List.setIfInBounds_toArray, List.set_cons_zero, List.set_cons_succ, List.getElem_toArray, List.getElem_cons_zero, List.getElem_cons_succ]
  refine wpAnyH_take (i := 3) (v := ?_) rfl (by kernel_rfl) (by kernel_rfl) (by kernel_rfl) (fun _ _ _ h => h) (Or.inl ⟨by rfl, ?_⟩) (by assumption) ?_
  rotate_left 1
  · intro wz sb
    obtain ⟨y0, y1, y2, y3, y4, y5⟩ := HX.out wz sb
    go_simp
    all_goals with_reducible rfl
  simp only [Act.put, List.setIfInBounds_toArray, List.set_cons_zero, List.set_cons_succ, List.getElem_toArray, List.getElem_cons_zero, List.getElem_cons_succ]
  refine wpAnyH_take (i := 5) (v := ?_) rfl (by kernel_rfl) (by kernel_rfl) (by kernel_rfl) (fun _ _ _ h => h) (Or.inl ⟨by rfl, ?_⟩) (by assumption) ?_
  rotate_left 1
  · intro wz sb
    obtain ⟨y0, y1, y2, y3, y4, y5⟩ := HX.out wz sb
    go_simp
    all_goals with_reducible rfl
  simp only [Act.put, List.setIfInBounds_toArray, List.set_cons_zero, List.set_cons_succ, List.getElem_toArray, List.getElem_cons_zero, List.getElem_cons_succ]
  refine wpAnyH_take (i := 6) (v := ?_) rfl (by kernel_rfl) (by kernel_rfl) (by kernel_rfl) (fun _ _ _ h => h) (Or.inl ⟨by rfl, ?_⟩) (by assumption) ?_
  rotate_left 1
  · intro wz sb
    obtain ⟨y0, y1, y2, y3, y4, y5⟩ := HX.out wz sb
    go_simp
    all_goals with_reducible rfl
  simp only [Act.put, List.setIfInBounds_toArray, List.set_cons_zero, List.set_cons_succ, List.getElem_toArray, List.getElem_cons_zero, List.getElem_cons_succ]
  refine wpAnyH_take (i := 7) (v := ?_) rfl (by kernel_rfl) (by kernel_rfl) (by kernel_rfl) (fun _ _ _ h => h) (Or.inl ⟨by rfl, ?_⟩) (by assumption) ?_
  rotate_left 1
  · intro wz sb
    obtain ⟨y0, y1, y2, y3, y4, y5⟩ := HX.out wz sb
    go_simp
    all_goals with_reducible rfl
  simp only [Act.put, List.setIfInBounds_toArray, List.set_cons_zero, List.set_cons_succ, List.getElem_toArray, List.getElem_cons_zero, List.getElem_cons_succ]
  refine wpAnyH_take (i := 8) (v := ?_) rfl (by kernel_rfl) (by kernel_rfl) (by kernel_rfl) (fun _ _ _ h => h) (Or.inl ⟨by rfl, ?_⟩) (by assumption) ?_
  rotate_left 1
  · intro wz sb
    obtain ⟨y0, y1, y2, y3, y4, y5⟩ := HX.out wz sb
    go_simp
    all_goals with_reducible rfl
  simp only [Act.put, List.setIfInBounds_toArray, List.set_cons_zero, List.set_cons_succ, List.getElem_toArray, List.getElem_cons_zero, List.getElem_cons_succ]
  refine wpAnyH_take (i := 10) (v := ?_) rfl (by kernel_rfl) (by kernel_rfl) (by kernel_rfl) (fun _ _ _ h => h) (Or.inl ⟨by rfl, ?_⟩) (by assumption) ?_
  rotate_left 1
  · intro wz sb
    obtain ⟨y0, y1, y2, y3, y4, y5⟩ := HX.out wz sb
    go_simp
    all_goals with_reducible rfl
  simp only [Act.put, List.setIfInBounds_toArray, List.set_cons_zero, List.set_cons_succ, List.getElem_toArray, List.getElem_cons_zero, List.getElem_cons_succ]
  refine wpAnyH_take (i := 11) (v := ?_) rfl (by kernel_rfl) (by kernel_rfl) (by kernel_rfl) (fun _ _ _ h => h) (Or.inl ⟨by rfl, ?_⟩) (by assumption) ?_
  rotate_left 1
  · intro wz sb
    obtain ⟨y0, y1, y2, y3, y4, y5⟩ := HX.out wz sb
    go_simp
    all_goals with_reducible rfl
  simp only [Act.put, List.setIfInBounds_toArray, List.set_cons_zero, List.set_cons_succ, List.getElem_toArray, List.getElem_cons_zero, List.getElem_cons_succ]
  refine wpAnyH_take (i := 12) (v := ?_) rfl (by kernel_rfl) (by kernel_rfl) (by kernel_rfl) (fun _ _ _ h => h) (Or.inl ⟨by rfl, ?_⟩) (by assumption) ?_
  rotate_left 1
  · intro wz sb
    obtain ⟨y0, y1, y2, y3, y4, y5⟩ := HX.out wz sb
    go_simp
    all_goals with_reducible rfl
  simp only [Act.put, List.setIfInBounds_toArray, List.set_cons_zero, List.set_cons_succ, List.getElem_toArray, List.getElem_cons_zero, List.getElem_cons_succ]
  refine wpAnyH_take (i := 13) (v := ?_) rfl (by kernel_rfl) (by kernel_rfl) (by kernel_rfl) (fun _ _ _ h => h) (Or.inl ⟨by rfl, ?_⟩) (by assumption) ?_
  rotate_left 1
  · intro wz sb
    obtain ⟨y0, y1, y2, y3, y4, y5⟩ := HX.out wz sb
    go_simp
    all_goals with_reducible rfl
  simp only [Act.put, List.setIfInBounds_toArray, List.set_cons_zero, List.set_cons_succ, List.getElem_toArray, List.getElem_cons_zero, List.getElem_cons_succ]
  generalize wr.drew = Y at hHeld ⊢
  refine wpAnyH_ready (rs := [4]) (by kernel_rfl) (by simp) (AllReadyH.cons rfl (fun K hK => ?_) AllReadyH.nil)
  go_simp
  refine (compare_any at_ bt Y).mono fun e w1 ⟨he, hw⟩ => ?_
  subst he w1
  refine hK.out _ _ hHeld (fun hHeld => ?_)
  clear hK K
  refine wpAnyH_ready (rs := [9]) (by kernel_rfl) (by simp) (AllReadyH.cons rfl (fun K hK => ?_) AllReadyH.nil)
  go_simp
  refine (compare_any ap bp Y).mono fun e w1 ⟨he, hw⟩ => ?_
  subst he w1
  refine hK.out _ _ hHeld (fun hHeld => ?_)
  clear hK K
  refine wpAnyH_ready (rs := [14]) (by kernel_rfl) (by simp) (AllReadyH.cons rfl (fun K hK => ?_) AllReadyH.nil)
  go_simp
  refine (compare_any av bv Y).mono fun e w1 ⟨he, hw⟩ => ?_
  subst he w1
  refine hK.out _ _ hHeld (fun hHeld => ?_)
  clear hK K
  refine wpAnyH_ready (rs := [15]) (by kernel_rfl) (by simp) (AllReadyH.cons rfl (fun K hK => ?_) AllReadyH.nil)
  go_simp
  have hA7 := heap_alloc_new Y (.cells #[.int .i64 (cmpI at_ bt), .int .i64 (cmpI ap bp), .int .i64 (cmpI av bv)] 3)
  have hK7 : Below wr.heap.size wr (Y.alloc (.cells #[.int .i64 (cmpI at_ bt), .int .i64 (cmpI ap bp), .int .i64 (cmpI av bv)] 3)) := belA hHeld _
  refine hK.out _ _ hK7 (fun hHeld => ?_)
  clear hK K
  generalize hY7 : Y.alloc (.cells #[.int .i64 (cmpI at_ bt), .int .i64 (cmpI ap bp), .int .i64 (cmpI av bv)] 3) = Y7 at *
  obtain ⟨c0, c1, c2, _⟩ := blk3 hA7
  refine wpAnyH_ready (rs := [16]) (by kernel_rfl) (by simp) (AllReadyH.cons rfl (fun K hK => ?_) AllReadyH.nil)
  go_simp
  refine (or_any _ _ _ Y.heap.size Y7 c0 c1 c2).mono fun e w1 ⟨he, hw⟩ => ?_
  subst he w1
  refine hK.out _ _ hHeld (fun hHeld => ?_)
  clear hK K
  refine wpAnyH_take (i := 17) (v := ?_) rfl (by kernel_rfl) (by kernel_rfl) (by kernel_rfl) (fun _ _ _ h => h) (Or.inl ⟨by rfl, ?_⟩) (by assumption) ?_
  rotate_left 1
  · intro wz _
    go_simp
    all_goals with_reducible rfl
  simp only [Act.put, List.setIfInBounds_toArray, List.set_cons_zero, List.set_cons_succ, List.getElem_toArray, List.getElem_cons_zero, List.getElem_cons_succ]
  refine wpAnyH_done (by kernel_rfl) ?_ _
  go_wp2
  go_meet
  exact ⟨by rw [HLx.out], hHeld⟩

set_option maxRecDepth 100000 in
set_option maxHeartbeats 4000000 in
theorem sameL_any (a b : Lst) (w : World) : Calls Try.prog 8 #[lA a, lA b] w fun e w' => e = .returned (.bool (decide (a = b))) ∧ Below w.heap.size w w' := by
  obtain ⟨at_, ap, av⟩ := a
  obtain ⟨bt, bp, bv⟩ := b
  unfold lA
  have HB0 : Hid (Below w.heap.size w ((w.alloc (.cells #[.int .i64 at_, .int .i64 ap, .int .i64 av] 23)).alloc (.cells #[.int .i64 bt, .int .i64 bp, .int .i64 bv] 23))) := belA (belA (Below.refl _ _) _) _
  by_cases h : at_ = bt ∧ ap = bp ∧ av = bv
  · obtain ⟨rfl, rfl, rfl⟩ := h
    go_enter Try.func8, Try.ntmps8
    go_wp2
    go_ret
    exact ⟨ret_bool (by simp), HB0.out⟩
  · have HN : Hid (decide ((⟨at_, ap, av⟩ : Lst) = ⟨bt, bp, bv⟩) = false) := by
      show _ = _
      rw [decide_eq_false_iff_not]
      intro e
      injection e with e1 e2 e3
      exact h ⟨e1, e2, e3⟩
    go_enter Try.func8, Try.ntmps8
    go_wp2
    all_goals go_ret
    all_goals exact ⟨ret_bool HN.out.symm, belA (belA (Below.refl _ w) _) _⟩
end Go.Proofs.Ythphoiadhddggaa
