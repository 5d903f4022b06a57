/-
  The program's store: a client's parts; done, asked, GiveUp, Begin, walked.
-/
import Derived.Test.YtncnojgemmcplaaSwC
namespace Go.Proofs.Ytncnojgemmcplaa
open Go.RowKit

section
variable {w0 W W' : World} {K : StK} {P : Pst}
theorem cell_set_ne {g a b : Nat} (h : b ≠ a) (u : Value) : (W.setCell ⟨g, a, none⟩ u).cell? ⟨g, b, none⟩ = W.cell? ⟨g, b, none⟩ := World.cell?_setCell_other _ _ _ _ (offNe (Ne.symm h))
theorem cell_set_eq {g a : Nat} {v : Value} (h : W.cell? ⟨g, a, none⟩ = some v) (u : Value) : (W.setCell ⟨g, a, none⟩ u).cell? ⟨g, a, none⟩ = some u := World.cell?_setCell_same' _ _ _ (by rw [h]; rfl)
theorem StoP.setAt (h : StoP w0 W K P) {i : Nat} (hi : i < P.k) (a : Int) : StoP w0 (W.setCell ⟨K.C, i * 13, none⟩ (.int .i64 a)) { K with cv := updP K.cv i (K.cv i) } { P with cl := updP P.cl i { P.cl i with at_ := a } } ∧ SFr K P.k W (W.setCell ⟨K.C, i * 13, none⟩ (.int .i64 a)) { K with cv := updP K.cv i (K.cv i) } := by
  have hx := h.cx i hi
  have hn : ∀ j, j ≠ i * 13 → (W.setCell ⟨K.C, i * 13, none⟩ (.int .i64 a)).cell? ⟨K.C, j, none⟩ = W.cell? ⟨K.C, j, none⟩ := fun j hj => cell_set_ne hj _
  exact h.setC hi ((OnlyC.refl h.cb).set (by omega) _) (x := { P.cl i with at_ := a }) ⟨cell_set_eq hx.at_ _, hx.call.cells fun j h1 h2 => hn j (by omega), (hn _ (by omega)).trans hx.rd, (hn _ (by omega)).trans hx.cv, hx.kept.cells fun j h1 h2 => hn j (by omega)⟩ (.inl ⟨rfl, rfl⟩)
theorem StoP.setKept (h : StoP w0 W K P) {i : Nat} (hi : i < P.k) (y : Hd) : StoP w0 ((((W).setCell ⟨K.C, i * 13 + 10, none⟩ (.int .i64 y.s.t)).setCell ⟨K.C, i * 13 + 10 + 1, none⟩ (.int .i64 y.s.c)).setCell ⟨K.C, i * 13 + 10 + 2, none⟩ (.int .i64 y.v)) { K with cv := updP K.cv i (K.cv i) } { P with cl := updP P.cl i { P.cl i with kept := y } } ∧ SFr K P.k W ((((W).setCell ⟨K.C, i * 13 + 10, none⟩ (.int .i64 y.s.t)).setCell ⟨K.C, i * 13 + 10 + 1, none⟩ (.int .i64 y.s.c)).setCell ⟨K.C, i * 13 + 10 + 2, none⟩ (.int .i64 y.v)) { K with cv := updP K.cv i (K.cv i) } := by
  have hx := h.cx i hi
  have hn : ∀ j, j ≠ i * 13 + 10 → j ≠ i * 13 + 10 + 1 → j ≠ i * 13 + 10 + 2 → ((((W).setCell ⟨K.C, i * 13 + 10, none⟩ (.int .i64 y.s.t)).setCell ⟨K.C, i * 13 + 10 + 1, none⟩ (.int .i64 y.s.c)).setCell ⟨K.C, i * 13 + 10 + 2, none⟩ (.int .i64 y.v)).cell? ⟨K.C, j, none⟩ = W.cell? ⟨K.C, j, none⟩ := fun j h1 h2 h3 => by rw [cell_set_ne h3, cell_set_ne h2, cell_set_ne h1]
  refine h.setC hi ((((OnlyC.refl h.cb).set (by omega) _).set (by omega) _).set (by omega) _) (x := { P.cl i with kept := y }) ⟨(hn _ (by omega) (by omega) (by omega)).trans hx.at_, hx.call.cells fun j h1 h2 => hn j (by omega) (by omega) (by omega), (hn _ (by omega) (by omega) (by omega)).trans hx.rd, (hn _ (by omega) (by omega) (by omega)).trans hx.cv, ⟨?_, ?_, ?_⟩⟩ (.inl ⟨rfl, rfl⟩)
  · rw [cell_set_ne (by omega), cell_set_ne (by omega)]; exact cell_set_eq hx.kept.1 _
  · rw [cell_set_ne (by omega)]; exact cell_set_eq ((cell_set_ne (by omega) _).trans hx.kept.2.1) _
  · exact cell_set_eq ((cell_set_ne (by omega) _).trans ((cell_set_ne (by omega) _).trans hx.kept.2.2)) _
theorem StoP.setCall (h : StoP w0 W K P) {i : Nat} (hi : i < P.k) (e : Evp) : StoP w0 ((((((((W).setCell ⟨K.C, i * 13 + 1, none⟩ (.int .i64 e.p)).setCell ⟨K.C, i * 13 + 1 + 1, none⟩ (.int .i64 e.t)).setCell ⟨K.C, i * 13 + 1 + 2, none⟩ (.int .i64 e.k)).setCell ⟨K.C, i * 13 + 1 + 3, none⟩ (.int .i64 e.d)).setCell ⟨K.C, i * 13 + 1 + 4, none⟩ (.int .i64 e.a)).setCell ⟨K.C, i * 13 + 1 + 5, none⟩ (.int .i64 e.b)).setCell ⟨K.C, i * 13 + 1 + 6, none⟩ (.int .i64 e.r)) { K with cv := updP K.cv i (K.cv i) } { P with cl := updP P.cl i { P.cl i with call := e } } ∧ SFr K P.k W ((((((((W).setCell ⟨K.C, i * 13 + 1, none⟩ (.int .i64 e.p)).setCell ⟨K.C, i * 13 + 1 + 1, none⟩ (.int .i64 e.t)).setCell ⟨K.C, i * 13 + 1 + 2, none⟩ (.int .i64 e.k)).setCell ⟨K.C, i * 13 + 1 + 3, none⟩ (.int .i64 e.d)).setCell ⟨K.C, i * 13 + 1 + 4, none⟩ (.int .i64 e.a)).setCell ⟨K.C, i * 13 + 1 + 5, none⟩ (.int .i64 e.b)).setCell ⟨K.C, i * 13 + 1 + 6, none⟩ (.int .i64 e.r)) { K with cv := updP K.cv i (K.cv i) } := by
  have hx := h.cx i hi
  have hn : ∀ j, (j < i * 13 + 1 ∨ i * 13 + 8 ≤ j) → ((((((((W).setCell ⟨K.C, i * 13 + 1, none⟩ (.int .i64 e.p)).setCell ⟨K.C, i * 13 + 1 + 1, none⟩ (.int .i64 e.t)).setCell ⟨K.C, i * 13 + 1 + 2, none⟩ (.int .i64 e.k)).setCell ⟨K.C, i * 13 + 1 + 3, none⟩ (.int .i64 e.d)).setCell ⟨K.C, i * 13 + 1 + 4, none⟩ (.int .i64 e.a)).setCell ⟨K.C, i * 13 + 1 + 5, none⟩ (.int .i64 e.b)).setCell ⟨K.C, i * 13 + 1 + 6, none⟩ (.int .i64 e.r)).cell? ⟨K.C, j, none⟩ = W.cell? ⟨K.C, j, none⟩ := fun j h1 => by rw [cell_set_ne (by omega), cell_set_ne (by omega), cell_set_ne (by omega), cell_set_ne (by omega), cell_set_ne (by omega), cell_set_ne (by omega), cell_set_ne (by omega)]
  obtain ⟨q0, q1, q2, q3, q4, q5, q6⟩ := hx.call
  refine h.setC hi ((((((((OnlyC.refl h.cb).set (by omega) _).set (by omega) _).set (by omega) _).set (by omega) _).set (by omega) _).set (by omega) _).set (by omega) _) (x := { P.cl i with call := e }) ⟨(hn _ (by omega)).trans hx.at_, ⟨?_, ?_, ?_, ?_, ?_, ?_, ?_⟩, (hn _ (by omega)).trans hx.rd, (hn _ (by omega)).trans hx.cv, hx.kept.cells fun j h1 h2 => hn j (by omega)⟩ (.inl ⟨rfl, rfl⟩)
  · rw [cell_set_ne (by omega), cell_set_ne (by omega), cell_set_ne (by omega), cell_set_ne (by omega), cell_set_ne (by omega), cell_set_ne (by omega)]; exact cell_set_eq q0 _
  · rw [cell_set_ne (by omega), cell_set_ne (by omega), cell_set_ne (by omega), cell_set_ne (by omega), cell_set_ne (by omega)]; exact cell_set_eq (by rw [cell_set_ne (by omega)]; exact q1) _
  · rw [cell_set_ne (by omega), cell_set_ne (by omega), cell_set_ne (by omega), cell_set_ne (by omega)]; exact cell_set_eq (by rw [cell_set_ne (by omega), cell_set_ne (by omega)]; exact q2) _
  · rw [cell_set_ne (by omega), cell_set_ne (by omega), cell_set_ne (by omega)]; exact cell_set_eq (by rw [cell_set_ne (by omega), cell_set_ne (by omega), cell_set_ne (by omega)]; exact q3) _
  · rw [cell_set_ne (by omega), cell_set_ne (by omega)]; exact cell_set_eq (by rw [cell_set_ne (by omega), cell_set_ne (by omega), cell_set_ne (by omega), cell_set_ne (by omega)]; exact q4) _
  · rw [cell_set_ne (by omega)]; exact cell_set_eq (by rw [cell_set_ne (by omega), cell_set_ne (by omega), cell_set_ne (by omega), cell_set_ne (by omega), cell_set_ne (by omega)]; exact q5) _
  · exact cell_set_eq (by rw [cell_set_ne (by omega), cell_set_ne (by omega), cell_set_ne (by omega), cell_set_ne (by omega), cell_set_ne (by omega), cell_set_ne (by omega)]; exact q6) _
theorem StTold.trans {P1 P2 : Pst} {W1 W2 : World} (h : StTold w0 K P W P1 W1) (hk : P1.k = P.k) (h2 : ∀ K1, StoP w0 W1 K1 P1 → K1.B = K.B ∧ K1.N = K.N ∧ K1.C = K.C → StTold w0 K1 P1 W1 P2 W2) : StTold w0 K P W P2 W2 := by
  obtain ⟨K1, h3, h4⟩ := h
  obtain ⟨K2, h5, h6⟩ := h2 K1 h3 h4.B
  exact ⟨K2, h5, h4.trans (h6.cast hk)⟩

set_option maxRecDepth 100000 in
set_option maxHeartbeats 4000000 in
theorem done_any (h : StoP w0 W K P) (hev : P.evs.length ≤ 1000) (hst : P.sts.length ≤ 1000) {i : Nat} (hi : i < P.k) :
    Calls Try.prog 40 #[.pointer (some ⟨K.B, 0, none⟩), .int .i64 (i : Int)] W fun en W' => en = .returned (.tuple #[]) ∧ StTold w0 K P W (doneP P i) W' := by
  have c8 := h.cells.2.2.2.2.1
  have hii : (i : Int) < (P.k : Int) := by omega
  have hx := h.cx i hi
  obtain ⟨q0, q1, q2, q3, q4, q5, q6⟩ := hx.call
  have HP := hideIt h
  have hCl := h.ltC
  have HDn : Hid (doneP P i = { P with evs := P.evs ++ [endP (P.cl i)], sts := P.sts ++ [(P.cl i).kept.s], cl := updP P.cl i { P.cl i with at_ := 0 } }) := rfl
  have HKt : Hid (∀ Z, Below W.heap.size W Z → Z.cell? ⟨K.C, i * 13 + 10, none⟩ = some (.int .i64 (P.cl i).kept.s.t) ∧ Z.cell? ⟨K.C, i * 13 + 10 + 1, none⟩ = some (.int .i64 (P.cl i).kept.s.c) ∧ Z.cell? ⟨K.C, i * 13 + 10 + 2, none⟩ = some (.int .i64 (P.cl i).kept.v)) := fun Z hZ => ((HP.out.below hZ).cx i hi).kept
  have HSee : Hid (∀ Z, Below W.heap.size W Z → ∀ e : Evp, e = endP (P.cl i) → Calls Try.prog 20 #[.pointer (some ⟨K.B, 0, none⟩), .agg #[.int .i64 e.p, .int .i64 e.t, .int .i64 e.k, .int .i64 e.d, .int .i64 e.a, .int .i64 e.b, .int .i64 e.r], .agg #[.int .i64 (P.cl i).kept.s.t, .int .i64 (P.cl i).kept.s.c]] Z fun en W' => en = .returned (.tuple #[]) ∧ (∃ a0 : Value, W'.cell? ⟨K.C, i * 13, none⟩ = some a0 ∧ W'.frozen? ⟨K.C, i * 13, none⟩ = false) ∧ StTold w0 K P W (doneP P i) (W'.setCell ⟨K.C, i * 13, none⟩ (.int .i64 0))) := fun Z hZ e he => by
    refine (see_any (HP.out.below hZ) hev hst e (P.cl i).kept.s).mono fun en W' ⟨h1, K1, h2, h3⟩ => ⟨h1, ?_, ?_⟩
    · have hx1 := h2.cx i hi
      rw [h3.B.2.2] at hx1
      exact ⟨_, hx1.at_, by rw [← h3.B.2.2]; exact h2.fzC _⟩
    · obtain ⟨h4, h5⟩ := h2.setAt hi 0
      rw [h3.B.2.2] at h4 h5
      refine ⟨_, ?_, (SFr.below hZ).trans (h3.trans h5)⟩
      rw [HDn.out, ← he]
      exact h4
  clear h hx
  generalize hcl : P.cl i = x at *
  have HEn : Hid (endP x = if x.call.d = 1 then { x.call with t := 2, r := x.kept.v } else { x.call with t := 2 }) := rfl
  clear hcl
  go_enter Try.func40, Try.ntmps40
  go_upto_region 3 with fail
  have HKb := hideIt (HKt.out _ (belA (Below.refl _ W) (.cells #[.int .i64 x.call.p, .int .i64 2, .int .i64 x.call.k, .int .i64 x.call.d, .int .i64 x.call.a, .int .i64 x.call.b, .int .i64 x.call.r] 37)))
  by_cases hd : x.call.d = 1
  · have g1 : (x.call.d == 1) = true := by simp [hd]
    have HEq : Hid ({ x.call with t := 2, r := x.kept.v } = endP x) := (HEn.out.trans (if_pos hd)).symm
    clear hd
    obtain ⟨_, _, k2⟩ := HKb.out
    go_upto_region 5 with fail
    clear k2 HKb
    have hb0 : Below W.heap.size W (W.alloc (.cells #[.int .i64 x.call.p, .int .i64 2, .int .i64 x.call.k, .int .i64 x.call.d, .int .i64 x.call.a, .int .i64 x.call.b, .int .i64 x.kept.v] 37)) := belA (Below.refl _ _) _
    have hn0 := heap_alloc_new W (.cells #[.int .i64 x.call.p, .int .i64 2, .int .i64 x.call.k, .int .i64 x.call.d, .int .i64 x.call.a, .int .i64 x.call.b, .int .i64 x.kept.v] 37)
    have HB0 := hideIt hb0
    have HN0 := hideIt hn0
    clear hb0 hn0
    generalize W.alloc (.cells #[.int .i64 x.call.p, .int .i64 2, .int .i64 x.call.k, .int .i64 x.call.d, .int .i64 x.call.a, .int .i64 x.call.b, .int .i64 x.kept.v] 37) = W1 at *
    have HU : Hid (∀ Z, Below W1.heap.size W1 Z → Z.cell? ⟨W.heap.size, 0, none⟩ = some (.int .i64 x.call.p) ∧ Z.cell? ⟨W.heap.size, 1, none⟩ = some (.int .i64 2) ∧ Z.cell? ⟨W.heap.size, 2, none⟩ = some (.int .i64 x.call.k) ∧ Z.cell? ⟨W.heap.size, 3, none⟩ = some (.int .i64 x.call.d) ∧ Z.cell? ⟨W.heap.size, 4, none⟩ = some (.int .i64 x.call.a) ∧ Z.cell? ⟨W.heap.size, 5, none⟩ = some (.int .i64 x.call.b) ∧ Z.cell? ⟨W.heap.size, 6, none⟩ = some (.int .i64 x.kept.v)) := fun Z hZ => blkEv (e := { x.call with t := 2, r := x.kept.v }) ((hZ.block _ (lt_of_heap HN0.out)).trans HN0.out)
    have HV : Hid (∀ Z, Below W1.heap.size W1 Z → Z.cell? ⟨K.C, i * 13 + 10, none⟩ = some (.int .i64 x.kept.s.t) ∧ Z.cell? ⟨K.C, i * 13 + 10 + 1, none⟩ = some (.int .i64 x.kept.s.c)) := fun Z hZ => ⟨(HKt.out Z (belJ HB0.out hZ)).1, (HKt.out Z (belJ HB0.out hZ)).2.1⟩
    have HSe : Hid (∀ Z, Below W1.heap.size W1 Z → Calls Try.prog 20 #[.pointer (some ⟨K.B, 0, none⟩), .agg #[.int .i64 x.call.p, .int .i64 2, .int .i64 x.call.k, .int .i64 x.call.d, .int .i64 x.call.a, .int .i64 x.call.b, .int .i64 x.kept.v], .agg #[.int .i64 x.kept.s.t, .int .i64 x.kept.s.c]] Z fun en W' => en = .returned (.tuple #[]) ∧ (∃ a0 : Value, W'.cell? ⟨K.C, i * 13, none⟩ = some a0 ∧ W'.frozen? ⟨K.C, i * 13, none⟩ = false) ∧ StTold w0 K P W (doneP P i) (W'.setCell ⟨K.C, i * 13, none⟩ (.int .i64 0))) := fun Z hZ => HSee.out Z (belJ HB0.out hZ) { x.call with t := 2, r := x.kept.v } HEq.out
    clear HSee
    refine wp_region_L (B := [7]) (S := fun _ => True) (T := fun Z => Below W1.heap.size W1 Z) (by kernel_rfl) ⟨trivial, (Below.refl _ _).drew⟩ (fun hHeld => ?_)
    refine wpAnyL_takeS (i := 0) (v := ?_) rfl (by kernel_rfl) (by kernel_rfl) (by kernel_rfl) (by kernel_rfl) (fun _ _ _ h => h) (Or.inl ⟨by rfl, ?_⟩) (by assumption) ?_
    rotate_left 1
    · intro wz _
      go_simp
      all_goals with_reducible rfl
    simp only [Act.put, List.setIfInBounds_toArray, List.set_cons_zero, List.set_cons_succ, List.getElem_toArray, List.getElem_cons_zero]
    refine wpAnyL_take [7] (i := 1) (v := ?_) rfl (by kernel_rfl) (by kernel_rfl) (by kernel_rfl) (by kernel_rfl) (fun _ _ _ h => h) (Or.inl ⟨by rfl, ?_⟩) (by assumption) ?_
    rotate_left 1
    · intro wz sb
      obtain ⟨y0, y1, y2, y3, y4, y5, y6⟩ := HU.out wz sb.2
      go_simp
      all_goals with_reducible rfl
    simp only [Act.put, List.setIfInBounds_toArray, List.set_cons_zero, List.set_cons_succ, List.getElem_toArray, List.getElem_cons_zero, List.getElem_cons_succ]
    refine wpAnyL_takeS (i := 2) (v := ?_) rfl (by kernel_rfl) (by kernel_rfl) (by kernel_rfl) (by kernel_rfl) (fun _ _ _ h => h) (Or.inl ⟨by rfl, ?_⟩) (by assumption) ?_
    rotate_left 1
    · intro wz _
      go_simp
      all_goals with_reducible rfl
    simp only [Act.put, List.setIfInBounds_toArray, List.set_cons_zero, List.set_cons_succ, List.getElem_toArray, List.getElem_cons_zero, List.getElem_cons_succ]
    refine wpAnyL_takeS (i := 3) (v := ?_) rfl (by kernel_rfl) (by kernel_rfl) (by kernel_rfl) (by kernel_rfl) (fun _ _ _ h => h) (Or.inl ⟨by rfl, ?_⟩) (by assumption) ?_
    rotate_left 1
    · intro wz _
      go_simp
      all_goals with_reducible rfl
    simp only [Act.put, List.setIfInBounds_toArray, List.set_cons_zero, List.set_cons_succ, List.getElem_toArray, List.getElem_cons_zero, List.getElem_cons_succ]
    refine wpAnyL_takeS (i := 4) (v := ?_) rfl (by kernel_rfl) (by kernel_rfl) (by kernel_rfl) (by kernel_rfl) (fun _ _ _ h => h) (Or.inl ⟨by rfl, ?_⟩) (by assumption) ?_
    rotate_left 1
    · intro wz _
      go_simp
      all_goals with_reducible rfl
    simp only [Act.put, List.setIfInBounds_toArray, List.set_cons_zero, List.set_cons_succ, List.getElem_toArray, List.getElem_cons_zero, List.getElem_cons_succ]
    refine wpAnyL_takeS (i := 5) (v := ?_) rfl (by kernel_rfl) (by kernel_rfl) (by kernel_rfl) (by kernel_rfl) (fun _ _ _ h => h) (Or.inl ⟨by rfl, ?_⟩) (by assumption) ?_
    rotate_left 1
    · intro wz _
      go_simp
      all_goals with_reducible rfl
    simp only [Act.put, List.setIfInBounds_toArray, List.set_cons_zero, List.set_cons_succ, List.getElem_toArray, List.getElem_cons_zero, List.getElem_cons_succ]
    refine wpAnyL_take [7] (i := 6) (v := ?_) rfl (by kernel_rfl) (by kernel_rfl) (by kernel_rfl) (by kernel_rfl) (fun _ _ _ h => h) (Or.inl ⟨by rfl, ?_⟩) (by assumption) ?_
    rotate_left 1
    · intro wz sb
      obtain ⟨y0, y1⟩ := HV.out wz sb.2
      go_simp
      all_goals with_reducible rfl
    simp only [Act.put, List.setIfInBounds_toArray, List.set_cons_zero, List.set_cons_succ, List.getElem_toArray, List.getElem_cons_zero, List.getElem_cons_succ]
    refine wpAnyL_ready (rs := [7]) (by kernel_rfl) (by simp) (AllReadyL.last rfl (by kernel_rfl) (fun Q hQ => ?_) AllReadyL.nil)
    go_simp
    refine (HSe.out _ hHeld.2).mono ?_
    rintro e W2 ⟨rfl, ⟨a0, ha0, hf0⟩, hT⟩
    have HT := hideIt hT
    refine hQ.out _ _ trivial (fun _ => ?_)
    clear hQ Q hHeld hT HU HV HSe
    refine wpAnyL_done (by kernel_rfl) ?_ _
    go_wp2
    go_end0
    exact ⟨rfl, HT.out⟩
  · have g1 : (x.call.d == 1) = false := by simp [hd]
    have HEq : Hid ({ x.call with t := 2 } = endP x) := (HEn.out.trans (if_neg hd)).symm
    clear hd
    go_upto_region 5 with fail
    clear HKb
    have hb0 : Below W.heap.size W (W.alloc (.cells #[.int .i64 x.call.p, .int .i64 2, .int .i64 x.call.k, .int .i64 x.call.d, .int .i64 x.call.a, .int .i64 x.call.b, .int .i64 x.call.r] 37)) := belA (Below.refl _ _) _
    have hn0 := heap_alloc_new W (.cells #[.int .i64 x.call.p, .int .i64 2, .int .i64 x.call.k, .int .i64 x.call.d, .int .i64 x.call.a, .int .i64 x.call.b, .int .i64 x.call.r] 37)
    have HB0 := hideIt hb0
    have HN0 := hideIt hn0
    clear hb0 hn0
    generalize W.alloc (.cells #[.int .i64 x.call.p, .int .i64 2, .int .i64 x.call.k, .int .i64 x.call.d, .int .i64 x.call.a, .int .i64 x.call.b, .int .i64 x.call.r] 37) = W1 at *
    have HU : Hid (∀ Z, Below W1.heap.size W1 Z → Z.cell? ⟨W.heap.size, 0, none⟩ = some (.int .i64 x.call.p) ∧ Z.cell? ⟨W.heap.size, 1, none⟩ = some (.int .i64 2) ∧ Z.cell? ⟨W.heap.size, 2, none⟩ = some (.int .i64 x.call.k) ∧ Z.cell? ⟨W.heap.size, 3, none⟩ = some (.int .i64 x.call.d) ∧ Z.cell? ⟨W.heap.size, 4, none⟩ = some (.int .i64 x.call.a) ∧ Z.cell? ⟨W.heap.size, 5, none⟩ = some (.int .i64 x.call.b) ∧ Z.cell? ⟨W.heap.size, 6, none⟩ = some (.int .i64 x.call.r)) := fun Z hZ => blkEv (e := { x.call with t := 2 }) ((hZ.block _ (lt_of_heap HN0.out)).trans HN0.out)
    have HV : Hid (∀ Z, Below W1.heap.size W1 Z → Z.cell? ⟨K.C, i * 13 + 10, none⟩ = some (.int .i64 x.kept.s.t) ∧ Z.cell? ⟨K.C, i * 13 + 10 + 1, none⟩ = some (.int .i64 x.kept.s.c)) := fun Z hZ => ⟨(HKt.out Z (belJ HB0.out hZ)).1, (HKt.out Z (belJ HB0.out hZ)).2.1⟩
    have HSe : Hid (∀ Z, Below W1.heap.size W1 Z → Calls Try.prog 20 #[.pointer (some ⟨K.B, 0, none⟩), .agg #[.int .i64 x.call.p, .int .i64 2, .int .i64 x.call.k, .int .i64 x.call.d, .int .i64 x.call.a, .int .i64 x.call.b, .int .i64 x.call.r], .agg #[.int .i64 x.kept.s.t, .int .i64 x.kept.s.c]] Z fun en W' => en = .returned (.tuple #[]) ∧ (∃ a0 : Value, W'.cell? ⟨K.C, i * 13, none⟩ = some a0 ∧ W'.frozen? ⟨K.C, i * 13, none⟩ = false) ∧ StTold w0 K P W (doneP P i) (W'.setCell ⟨K.C, i * 13, none⟩ (.int .i64 0))) := fun Z hZ => HSee.out Z (belJ HB0.out hZ) { x.call with t := 2 } HEq.out
    clear HSee
    refine wp_region_L (B := [7]) (S := fun _ => True) (T := fun Z => Below W1.heap.size W1 Z) (by kernel_rfl) ⟨trivial, (Below.refl _ _).drew⟩ (fun hHeld => ?_)
    refine wpAnyL_takeS (i := 0) (v := ?_) rfl (by kernel_rfl) (by kernel_rfl) (by kernel_rfl) (by kernel_rfl) (fun _ _ _ h => h) (Or.inl ⟨by rfl, ?_⟩) (by assumption) ?_
    rotate_left 1
    · intro wz _
      go_simp
      all_goals with_reducible rfl
    simp only [Act.put, List.setIfInBounds_toArray, List.set_cons_zero, List.set_cons_succ, List.getElem_toArray, List.getElem_cons_zero]
    refine wpAnyL_take [7] (i := 1) (v := ?_) rfl (by kernel_rfl) (by kernel_rfl) (by kernel_rfl) (by kernel_rfl) (fun _ _ _ h => h) (Or.inl ⟨by rfl, ?_⟩) (by assumption) ?_
    rotate_left 1
    · intro wz sb
      obtain ⟨y0, y1, y2, y3, y4, y5, y6⟩ := HU.out wz sb.2
      go_simp
      all_goals with_reducible rfl
    simp only [Act.put, List.setIfInBounds_toArray, List.set_cons_zero, List.set_cons_succ, List.getElem_toArray, List.getElem_cons_zero, List.getElem_cons_succ]
    refine wpAnyL_takeS (i := 2) (v := ?_) rfl (by kernel_rfl) (by kernel_rfl) (by kernel_rfl) (by kernel_rfl) (fun _ _ _ h => h) (Or.inl ⟨by rfl, ?_⟩) (by assumption) ?_
    rotate_left 1
    · intro wz _
      go_simp
      all_goals with_reducible rfl
    simp only [Act.put, List.setIfInBounds_toArray, List.set_cons_zero, List.set_cons_succ, List.getElem_toArray, List.getElem_cons_zero, List.getElem_cons_succ]
    refine wpAnyL_takeS (i := 3) (v := ?_) rfl (by kernel_rfl) (by kernel_rfl) (by kernel_rfl) (by kernel_rfl) (fun _ _ _ h => h) (Or.inl ⟨by rfl, ?_⟩) (by assumption) ?_
    rotate_left 1
    · intro wz _
      go_simp
      all_goals with_reducible rfl
    simp only [Act.put, List.setIfInBounds_toArray, List.set_cons_zero, List.set_cons_succ, List.getElem_toArray, List.getElem_cons_zero, List.getElem_cons_succ]
    refine wpAnyL_takeS (i := 4) (v := ?_) rfl (by kernel_rfl) (by kernel_rfl) (by kernel_rfl) (by kernel_rfl) (fun _ _ _ h => h) (Or.inl ⟨by rfl, ?_⟩) (by assumption) ?_
    rotate_left 1
    · intro wz _
      go_simp
      all_goals with_reducible rfl
    simp only [Act.put, List.setIfInBounds_toArray, List.set_cons_zero, List.set_cons_succ, List.getElem_toArray, List.getElem_cons_zero, List.getElem_cons_succ]
    refine wpAnyL_takeS (i := 5) (v := ?_) rfl (by kernel_rfl) (by kernel_rfl) (by kernel_rfl) (by kernel_rfl) (fun _ _ _ h => h) (Or.inl ⟨by rfl, ?_⟩) (by assumption) ?_
    rotate_left 1
    · intro wz _
      go_simp
      all_goals with_reducible rfl
    simp only [Act.put, List.setIfInBounds_toArray, List.set_cons_zero, List.set_cons_succ, List.getElem_toArray, List.getElem_cons_zero, List.getElem_cons_succ]
    refine wpAnyL_take [7] (i := 6) (v := ?_) rfl (by kernel_rfl) (by kernel_rfl) (by kernel_rfl) (by kernel_rfl) (fun _ _ _ h => h) (Or.inl ⟨by rfl, ?_⟩) (by assumption) ?_
    rotate_left 1
    · intro wz sb
      obtain ⟨y0, y1⟩ := HV.out wz sb.2
      go_simp
      all_goals with_reducible rfl
    simp only [Act.put, List.setIfInBounds_toArray, List.set_cons_zero, List.set_cons_succ, List.getElem_toArray, List.getElem_cons_zero, List.getElem_cons_succ]
    refine wpAnyL_ready (rs := [7]) (by kernel_rfl) (by simp) (AllReadyL.last rfl (by kernel_rfl) (fun Q hQ => ?_) AllReadyL.nil)
    go_simp
    refine (HSe.out _ hHeld.2).mono ?_
    rintro e W2 ⟨rfl, ⟨a0, ha0, hf0⟩, hT⟩
    have HT := hideIt hT
    refine hQ.out _ _ trivial (fun _ => ?_)
    clear hQ Q hHeld hT HU HV HSe
    refine wpAnyL_done (by kernel_rfl) ?_ _
    go_wp2
    go_end0
    exact ⟨rfl, HT.out⟩
end
end Go.Proofs.Ytncnojgemmcplaa
