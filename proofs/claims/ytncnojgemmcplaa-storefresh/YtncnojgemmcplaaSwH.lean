/-
  The program's store, walked: answer.
-/
import Derived.Test.YtncnojgemmcplaaSwG
namespace Go.Proofs.Ytncnojgemmcplaa
open Go.RowKit

theorem upd2_self {α : Type} (f : Nat → Nat → α) (i q : Nat) : upd2 f i q (f i q) = f := by
  funext j s
  unfold upd2
  split
  · next h => rw [h.1, h.2]
  · rfl
section
variable {w0 W W' : World} {K : StK} {P : Pst}
theorem StoP.setHas (h : StoP w0 W K P) {i q : Nat} (hi : i < P.n) (hq : q < 8) (y : Hd) : StoP w0 (((W.setCell ⟨K.N, i * 24 + q * 3, none⟩ (.int .i64 y.s.t)).setCell ⟨K.N, i * 24 + q * 3 + 1, none⟩ (.int .i64 y.s.c)).setCell ⟨K.N, i * 24 + q * 3 + 2, none⟩ (.int .i64 y.v)) K { P with has := upd2 P.has i q y } ∧ SFr K P.k W (((W.setCell ⟨K.N, i * 24 + q * 3, none⟩ (.int .i64 y.s.t)).setCell ⟨K.N, i * 24 + q * 3 + 1, none⟩ (.int .i64 y.s.c)).setCell ⟨K.N, i * 24 + q * 3 + 2, none⟩ (.int .i64 y.v)) K := by
  have hx := h.nx i q hi hq
  refine h.setN hi hq ((((OnlyC.refl h.nb).set (by omega) _).set (by omega) _).set (by omega) _) ⟨?_, ?_, ?_⟩
  · rw [cell_set_ne (by omega), cell_set_ne (by omega)]; exact cell_set_eq hx.1 _
  · rw [cell_set_ne (by omega)]; exact cell_set_eq ((cell_set_ne (by omega) _).trans hx.2.1) _
  · exact cell_set_eq ((cell_set_ne (by omega) _).trans ((cell_set_ne (by omega) _).trans hx.2.2)) _
set_option maxRecDepth 100000 in
set_option maxHeartbeats 8000000 in
theorem answer_any (h : StoP w0 W K P) {i q : Nat} (hi : i < P.n) (hq : q < 8) (fr rd t c v : Int) (tells : Bool) :
    Calls Try.prog 23 #[.pointer (some ⟨K.B, 0, none⟩), .agg #[.int .i64 fr, .int .i64 (i : Int), .int .i64 (q : Int), .int .i64 rd, .bool tells, .int .i64 t, .int .i64 c, .int .i64 v]] W fun en W' => en = .returned (.tuple #[]) ∧ StTold w0 K P W (answerP P ⟨fr, (i : Int), (q : Int), rd, tells, t, c, v⟩) W' := by
  have hb0 : Below W.heap.size W (W.alloc (.cells #[.int .i64 fr, .int .i64 (i : Int), .int .i64 (q : Int), .int .i64 rd, .bool tells, .int .i64 t, .int .i64 c, .int .i64 v] 73)) := belA (Below.refl _ _) _
  have hm0 := heap_alloc_new W (.cells #[.int .i64 fr, .int .i64 (i : Int), .int .i64 (q : Int), .int .i64 rd, .bool tells, .int .i64 t, .int .i64 c, .int .i64 v] 73)
  have hans : answerP P ⟨fr, (i : Int), (q : Int), rd, tells, t, c, v⟩ = sendP { P with has := upd2 P.has i q (if tells = true then newerH (P.has i q) ⟨⟨t, c⟩, v⟩ else P.has i q) } ⟨(i : Int), fr, (q : Int), rd, false, (if tells = true then newerH (P.has i q) ⟨⟨t, c⟩, v⟩ else P.has i q).s.t, (if tells = true then newerH (P.has i q) ⟨⟨t, c⟩, v⟩ else P.has i q).s.c, (if tells = true then newerH (P.has i q) ⟨⟨t, c⟩, v⟩ else P.has i q).v⟩ := by
    unfold answerP
    simp only [Int.toNat_natCast]
    rfl
  have HCo := hideIt hans
  have HP1 := hideIt (h.below hb0)
  have HF1 : Hid (SFr K P.k W _ K) := SFr.below hb0
  have HM := hideIt hm0
  have hii : (i : Int) < (P.n : Int) := by omega
  have hqq : (q : Int) < 8 := by omega
  have hCB : K.N < W.heap.size := by obtain ⟨_, e⟩ := h.nb; exact lt_of_heap e
  clear h hb0 hm0 hans
  generalize answerP P ⟨fr, (i : Int), (q : Int), rd, tells, t, c, v⟩ = Pend at *
  go_enter Try.func23, Try.ntmps23
  go_upto_region 1 with fail
  generalize W.alloc _ = W1 at *
  have HMb : Hid (∀ Z : World, Z.heap[W.heap.size]? = some (.cells #[.int .i64 fr, .int .i64 (i : Int), .int .i64 (q : Int), .int .i64 rd, .bool tells, .int .i64 t, .int .i64 c, .int .i64 v] 73) → Z.cell? ⟨W.heap.size, 0, none⟩ = some (.int .i64 fr) ∧ Z.cell? ⟨W.heap.size, 1, none⟩ = some (.int .i64 (i : Int)) ∧ Z.cell? ⟨W.heap.size, 2, none⟩ = some (.int .i64 (q : Int)) ∧ Z.cell? ⟨W.heap.size, 3, none⟩ = some (.int .i64 rd) ∧ Z.cell? ⟨W.heap.size, 4, none⟩ = some (.bool tells) ∧ Z.cell? ⟨W.heap.size, 5, none⟩ = some (.int .i64 t) ∧ Z.cell? ⟨W.heap.size, 6, none⟩ = some (.int .i64 c) ∧ Z.cell? ⟨W.heap.size, 7, none⟩ = some (.int .i64 v)) := fun Z hZ => blkMq (m := ⟨fr, (i : Int), (q : Int), rd, tells, t, c, v⟩) hZ
  obtain ⟨m0, m1, m2, m3, m4, m5, m6, m7⟩ := HMb.out W1 HM.out
  have c0 := HP1.out.cells.2.2.2.1
  go_quiet (fail)
  generalize hV2 : W1.drewN _ = V2
  have HP2 : Hid (StoP w0 V2 K P) := by rw [← hV2]; exact HP1.out.below (below_drewN (Below.refl _ _) _)
  have HF2 : Hid (SFr K P.k W V2 K) := by rw [← hV2]; exact HF1.out.trans (SFr.below (below_drewN (Below.refl _ _) _))
  have HM2 : Hid (V2.heap[W.heap.size]? = some (.cells #[.int .i64 fr, .int .i64 (i : Int), .int .i64 (q : Int), .int .i64 rd, .bool tells, .int .i64 t, .int .i64 c, .int .i64 v] 73)) := by rw [← hV2]; exact HM.out
  clear hV2 m0 m1 m2 m3 m4 m5 m6 m7 c0 HP1 HF1 HM
  obtain ⟨m0, m1, m2, m3, m4, m5, m6, m7⟩ := HMb.out V2 HM2.out
  cases tells with
  | false =>
    generalize hy : P.has i q = y
    have HE : Hid (Pend = sendP { P with has := upd2 P.has i q y } ⟨(i : Int), fr, (q : Int), rd, false, y.s.t, y.s.c, y.v⟩) := by
      rw [← hy]; exact HCo.out
    have HP4 : Hid (StoP w0 V2 K { P with has := upd2 P.has i q y }) := by rw [← hy, upd2_self]; exact HP2.out
    have HF4 := HF2
    have HM4 := HM2
    clear hy HCo HP2 HF2 HM2
    go_wp2_with fail
    clear m0 m1 m2 m3 m4 m5 m6 m7
    have HU : Hid (∀ Z, Below V2.heap.size V2 Z → Z.cell? ⟨W.heap.size, 0, none⟩ = some (.int .i64 fr) ∧ Z.cell? ⟨W.heap.size, 1, none⟩ = some (.int .i64 (i : Int)) ∧ Z.cell? ⟨W.heap.size, 2, none⟩ = some (.int .i64 (q : Int)) ∧ Z.cell? ⟨W.heap.size, 3, none⟩ = some (.int .i64 rd) ∧ Z.cell? ⟨W.heap.size, 4, none⟩ = some (.bool false) ∧ Z.cell? ⟨W.heap.size, 5, none⟩ = some (.int .i64 t) ∧ Z.cell? ⟨W.heap.size, 6, none⟩ = some (.int .i64 c) ∧ Z.cell? ⟨W.heap.size, 7, none⟩ = some (.int .i64 v)) := fun Z hZ => HMb.out Z ((hZ.block _ (lt_of_heap HM4.out)).trans HM4.out)
    have HT : Hid (∀ Z, Below V2.heap.size V2 Z → Z.cell? ⟨K.N, i * 24 + q * 3, none⟩ = some (.int .i64 y.s.t) ∧ Z.cell? ⟨K.N, i * 24 + q * 3 + 1, none⟩ = some (.int .i64 y.s.c) ∧ Z.cell? ⟨K.N, i * 24 + q * 3 + 2, none⟩ = some (.int .i64 y.v)) := fun Z hZ => by
      have := (HP4.out.below hZ).nx i q hi hq
      simp only [upd2, and_self, if_true] at this
      exact this
    have HSe : Hid (∀ Z, Below V2.heap.size V2 Z → Calls Try.prog 32 #[.pointer (some ⟨K.B, 0, none⟩), .int .i64 (i : Int), .int .i64 fr, .agg #[.int .i64 (q : Int), .int .i64 rd, .bool false, .int .i64 y.s.t, .int .i64 y.s.c, .int .i64 y.v]] Z fun en W' => en = .returned (.tuple #[]) ∧ StTold w0 K P W Pend W') := fun Z hZ => by
      refine (sendS_any (HP4.out.below hZ) ⟨(i : Int), fr, (q : Int), rd, false, y.s.t, y.s.c, y.v⟩).mono fun en W' ⟨h1, K1, h2, h3⟩ => ⟨h1, K1, ?_, HF4.out.trans ((SFr.below hZ).trans h3)⟩
      rw [HE.out]
      exact h2
    clear HP4 HF4 HE HM4 HMb
    refine wp_region_L (B := [15]) (S := fun _ => True) (T := fun Z => Below V2.heap.size V2 Z) (by kernel_rfl) ⟨trivial, (Below.refl _ _).drew⟩ (fun hHeld => ?_)
    refine wpAnyL_takeS (i := 0) (v := ?_) rfl (by kernel_rfl) (by kernel_rfl) (by kernel_rfl) (by kernel_rfl) (fun _ _ _ h => h) (Or.inl ⟨by rfl, ?_⟩) (by assumption) ?_
    rotate_left 1
    · intro wz _
      go_simp
      all_goals with_reducible rfl
    simp only [Act.put, List.setIfInBounds_toArray, List.set_cons_zero, List.set_cons_succ, List.getElem_toArray, List.getElem_cons_zero]
    refine wpAnyL_takeS (i := 1) (v := ?_) rfl (by kernel_rfl) (by kernel_rfl) (by kernel_rfl) (by kernel_rfl) (fun _ _ _ h => h) (Or.inl ⟨by rfl, ?_⟩) (by assumption) ?_
    rotate_left 1
    · intro wz _
      go_simp
      all_goals with_reducible rfl
    simp only [Act.put, List.setIfInBounds_toArray, List.set_cons_zero, List.set_cons_succ, List.getElem_toArray, List.getElem_cons_zero, List.getElem_cons_succ]
    refine wpAnyL_take [15] (i := 2) (v := ?_) rfl (by kernel_rfl) (by kernel_rfl) (by kernel_rfl) (by kernel_rfl) (fun _ _ _ h => h) (Or.inl ⟨by rfl, ?_⟩) (by assumption) ?_
    rotate_left 1
    · intro wz sb
      obtain ⟨y0, y1, y2, y3, y4, y5, y6, y7⟩ := HU.out wz sb.2
      go_simp
      all_goals with_reducible rfl
    simp only [Act.put, List.setIfInBounds_toArray, List.set_cons_zero, List.set_cons_succ, List.getElem_toArray, List.getElem_cons_zero, List.getElem_cons_succ]
    refine wpAnyL_takeS (i := 3) (v := ?_) rfl (by kernel_rfl) (by kernel_rfl) (by kernel_rfl) (by kernel_rfl) (fun _ _ _ h => h) (Or.inl ⟨by rfl, ?_⟩) (by assumption) ?_
    rotate_left 1
    · intro wz _
      go_simp
      all_goals with_reducible rfl
    simp only [Act.put, List.setIfInBounds_toArray, List.set_cons_zero, List.set_cons_succ, List.getElem_toArray, List.getElem_cons_zero, List.getElem_cons_succ]
    refine wpAnyL_take [15] (i := 4) (v := ?_) rfl (by kernel_rfl) (by kernel_rfl) (by kernel_rfl) (by kernel_rfl) (fun _ _ _ h => h) (Or.inl ⟨by rfl, ?_⟩) (by assumption) ?_
    rotate_left 1
    · intro wz sb
      obtain ⟨y0, y1, y2, y3, y4, y5, y6, y7⟩ := HU.out wz sb.2
      go_simp
      all_goals with_reducible rfl
    simp only [Act.put, List.setIfInBounds_toArray, List.set_cons_zero, List.set_cons_succ, List.getElem_toArray, List.getElem_cons_zero, List.getElem_cons_succ]
    refine wpAnyL_takeS (i := 5) (v := ?_) rfl (by kernel_rfl) (by kernel_rfl) (by kernel_rfl) (by kernel_rfl) (fun _ _ _ h => h) (Or.inl ⟨by rfl, ?_⟩) (by assumption) ?_
    rotate_left 1
    · intro wz _
      go_simp
      all_goals with_reducible rfl
    simp only [Act.put, List.setIfInBounds_toArray, List.set_cons_zero, List.set_cons_succ, List.getElem_toArray, List.getElem_cons_zero, List.getElem_cons_succ]
    refine wpAnyL_takeS (i := 6) (v := ?_) rfl (by kernel_rfl) (by kernel_rfl) (by kernel_rfl) (by kernel_rfl) (fun _ _ _ h => h) (Or.inl ⟨by rfl, ?_⟩) (by assumption) ?_
    rotate_left 1
    · intro wz _
      go_simp
      all_goals with_reducible rfl
    simp only [Act.put, List.setIfInBounds_toArray, List.set_cons_zero, List.set_cons_succ, List.getElem_toArray, List.getElem_cons_zero, List.getElem_cons_succ]
    refine wpAnyL_take [14, 15] (i := 7) (v := ?_) rfl (by kernel_rfl) (by kernel_rfl) (by kernel_rfl) (by kernel_rfl) (fun _ _ _ h => h) (Or.inl ⟨by rfl, ?_⟩) (by assumption) ?_
    rotate_left 1
    · intro wz sb
      obtain ⟨y0, y1, y2, y3, y4, y5, y6, y7⟩ := HU.out wz sb.2
      go_simp
      all_goals with_reducible rfl
    simp only [Act.put, List.setIfInBounds_toArray, List.set_cons_zero, List.set_cons_succ, List.getElem_toArray, List.getElem_cons_zero, List.getElem_cons_succ]
    refine wpAnyL_takeS (i := 8) (v := ?_) rfl (by kernel_rfl) (by kernel_rfl) (by kernel_rfl) (by kernel_rfl) (fun _ _ _ h => h) (Or.inl ⟨by rfl, ?_⟩) (by assumption) ?_
    rotate_left 1
    · intro wz _
      go_simp
      all_goals with_reducible rfl
    simp only [Act.put, List.setIfInBounds_toArray, List.set_cons_zero, List.set_cons_succ, List.getElem_toArray, List.getElem_cons_zero, List.getElem_cons_succ]
    refine wpAnyL_takeS (i := 9) (v := ?_) rfl (by kernel_rfl) (by kernel_rfl) (by kernel_rfl) (by kernel_rfl) (fun _ _ _ h => h) (Or.inl ⟨by rfl, ?_⟩) (by assumption) ?_
    rotate_left 1
    · intro wz _
      go_simp
      all_goals with_reducible rfl
    simp only [Act.put, List.setIfInBounds_toArray, List.set_cons_zero, List.set_cons_succ, List.getElem_toArray, List.getElem_cons_zero, List.getElem_cons_succ]
    refine wpAnyL_take [14, 15] (i := 10) (v := ?_) rfl (by kernel_rfl) (by kernel_rfl) (by kernel_rfl) (by kernel_rfl) (fun _ _ _ h => h) (Or.inl ⟨by rfl, ?_⟩) (by assumption) ?_
    rotate_left 1
    · intro wz sb
      obtain ⟨y0, y1, y2, y3, y4, y5, y6, y7⟩ := HU.out wz sb.2
      go_simp
      all_goals with_reducible rfl
    simp only [Act.put, List.setIfInBounds_toArray, List.set_cons_zero, List.set_cons_succ, List.getElem_toArray, List.getElem_cons_zero, List.getElem_cons_succ]
    refine wpAnyL_takeS (i := 11) (v := ?_) rfl (by kernel_rfl) (by kernel_rfl) (by kernel_rfl) (by kernel_rfl) (fun _ _ _ h => h) (Or.inl ⟨by rfl, ?_⟩) (by assumption) ?_
    rotate_left 1
    · intro wz _
      go_simp
      all_goals with_reducible rfl
    simp only [Act.put, List.setIfInBounds_toArray, List.set_cons_zero, List.set_cons_succ, List.getElem_toArray, List.getElem_cons_zero, List.getElem_cons_succ]
    refine wpAnyL_takeS (i := 12) (v := ?_) rfl (by kernel_rfl) (by kernel_rfl) (by kernel_rfl) (by kernel_rfl) (fun _ _ _ h => h) (Or.inl ⟨by rfl, ?_⟩) (by assumption) ?_
    rotate_left 1
    · intro wz _
      go_simp
      all_goals with_reducible rfl
    simp only [Act.put, List.setIfInBounds_toArray, List.set_cons_zero, List.set_cons_succ, List.getElem_toArray, List.getElem_cons_zero, List.getElem_cons_succ]
    refine wpAnyL_take [14, 15] (i := 13) (v := ?_) rfl (by kernel_rfl) (by kernel_rfl) (by kernel_rfl) (by kernel_rfl) (fun _ _ _ h => h) (Or.inl ⟨by rfl, ?_⟩) (by assumption) ?_
    rotate_left 1
    · intro wz sb
      obtain ⟨y0, y1, y2⟩ := HT.out wz sb.2
      go_simp
      all_goals with_reducible rfl
    simp only [Act.put, List.setIfInBounds_toArray, List.set_cons_zero, List.set_cons_succ, List.getElem_toArray, List.getElem_cons_zero, List.getElem_cons_succ]
    refine wpAnyL_takeS (i := 14) (v := ?_) rfl (by kernel_rfl) (by kernel_rfl) (by kernel_rfl) (by kernel_rfl) (fun _ _ _ h => h) (Or.inl ⟨by rfl, ?_⟩) (by assumption) ?_
    rotate_left 1
    · intro wz _
      go_simp
      all_goals with_reducible rfl
    simp only [Act.put, List.setIfInBounds_toArray, List.set_cons_zero, List.set_cons_succ, List.getElem_toArray, List.getElem_cons_zero, List.getElem_cons_succ]
    refine wpAnyL_ready (rs := [15]) (by kernel_rfl) (by simp) (AllReadyL.last rfl (by kernel_rfl) (fun Q hQ => ?_) AllReadyL.nil)
    go_simp
    refine (HSe.out _ hHeld.2).mono ?_
    rintro e W5 ⟨rfl, hT⟩
    have HTd := hideIt hT
    refine hQ.out _ _ trivial (fun _ => ?_)
    clear hQ Q hHeld hT HU HT HSe
    refine wpAnyL_done (by kernel_rfl) ?_ _
    go_wp2
    go_end0
    exact ⟨rfl, HTd.out⟩
  | true =>
    have HNw : Hid (∀ Z, Calls Try.prog 36 #[.agg #[.int .i64 (P.has i q).s.t, .int .i64 (P.has i q).s.c, .int .i64 (P.has i q).v], .agg #[.int .i64 t, .int .i64 c, .int .i64 v]] Z fun e w' => e = .returned (.agg #[.int .i64 (newerH (P.has i q) ⟨⟨t, c⟩, v⟩).s.t, .int .i64 (newerH (P.has i q) ⟨⟨t, c⟩, v⟩).s.c, .int .i64 (newerH (P.has i q) ⟨⟨t, c⟩, v⟩).v]) ∧ Below Z.heap.size Z w') := fun Z => newer_any (P.has i q) ⟨⟨t, c⟩, v⟩ Z
    have HT : Hid (∀ Z, Below V2.heap.size V2 Z → Z.cell? ⟨K.N, i * 24 + q * 3, none⟩ = some (.int .i64 (P.has i q).s.t) ∧ Z.cell? ⟨K.N, i * 24 + q * 3 + 1, none⟩ = some (.int .i64 (P.has i q).s.c) ∧ Z.cell? ⟨K.N, i * 24 + q * 3 + 2, none⟩ = some (.int .i64 (P.has i q).v)) := fun Z hZ => (HP2.out.below hZ).nx i q hi hq
    have HFz : Hid (∀ Z, Below V2.heap.size V2 Z → ∀ j, Z.frozen? ⟨K.N, j, none⟩ = false) := fun Z hZ j => by
      obtain ⟨_, e⟩ := (HP2.out.below hZ).nb
      exact frozen_of_row _ _ _ _ 63 e
    have HU : Hid (∀ Z, Below V2.heap.size V2 Z → Z.cell? ⟨W.heap.size, 5, none⟩ = some (.int .i64 t) ∧ Z.cell? ⟨W.heap.size, 6, none⟩ = some (.int .i64 c) ∧ Z.cell? ⟨W.heap.size, 7, none⟩ = some (.int .i64 v)) := fun Z hZ => by
      obtain ⟨_, _, _, _, _, h5, h6, h7⟩ := HMb.out Z ((hZ.block _ (lt_of_heap HM2.out)).trans HM2.out)
      exact ⟨h5, h6, h7⟩
    generalize newerH (P.has i q) ⟨⟨t, c⟩, v⟩ = y at *
    have HE : Hid (Pend = sendP { P with has := upd2 P.has i q y } ⟨(i : Int), fr, (q : Int), rd, false, y.s.t, y.s.c, y.v⟩) := HCo.out
    have HEnd : Hid (∀ Z, Below V2.heap.size V2 Z → StoP w0 (((Z.setCell ⟨K.N, i * 24 + q * 3, none⟩ (.int .i64 y.s.t)).setCell ⟨K.N, i * 24 + q * 3 + 1, none⟩ (.int .i64 y.s.c)).setCell ⟨K.N, i * 24 + q * 3 + 2, none⟩ (.int .i64 y.v)) K { P with has := upd2 P.has i q y } ∧ SFr K P.k W (((Z.setCell ⟨K.N, i * 24 + q * 3, none⟩ (.int .i64 y.s.t)).setCell ⟨K.N, i * 24 + q * 3 + 1, none⟩ (.int .i64 y.s.c)).setCell ⟨K.N, i * 24 + q * 3 + 2, none⟩ (.int .i64 y.v)) K ∧ (((Z.setCell ⟨K.N, i * 24 + q * 3, none⟩ (.int .i64 y.s.t)).setCell ⟨K.N, i * 24 + q * 3 + 1, none⟩ (.int .i64 y.s.c)).setCell ⟨K.N, i * 24 + q * 3 + 2, none⟩ (.int .i64 y.v)).heap[W.heap.size]? = some (.cells #[.int .i64 fr, .int .i64 (i : Int), .int .i64 (q : Int), .int .i64 rd, .bool true, .int .i64 t, .int .i64 c, .int .i64 v] 73)) := fun Z hZ => by
      obtain ⟨h1, h2⟩ := (HP2.out.below hZ).setHas hi hq y
      refine ⟨h1, HF2.out.trans ((SFr.below hZ).trans h2), ?_⟩
      rw [Below.heap_setCell _ ⟨K.N, _, none⟩ _ _ (show W.heap.size ≠ K.N by omega), Below.heap_setCell _ ⟨K.N, _, none⟩ _ _ (show W.heap.size ≠ K.N by omega), Below.heap_setCell _ ⟨K.N, _, none⟩ _ _ (show W.heap.size ≠ K.N by omega)]
      exact (hZ.block _ (lt_of_heap HM2.out)).trans HM2.out
    clear HCo HP2 HF2 HM2
    go_wp2_with fail
    clear m0 m1 m2 m3 m4 m5 m6 m7
    refine wp_region_L (B := [7, 9]) (S := fun _ => True) (T := fun Z => Below V2.heap.size V2 Z) (by kernel_rfl) ⟨trivial, (Below.refl _ _).drew⟩ (fun hHeld => ?_)
    refine wpAnyL_takeS (i := 0) (v := ?_) rfl (by kernel_rfl) (by kernel_rfl) (by kernel_rfl) (by kernel_rfl) (fun _ _ _ h => h) (Or.inl ⟨by rfl, ?_⟩) (by assumption) ?_
    rotate_left 1
    · intro wz _
      go_simp
      all_goals with_reducible rfl
    simp only [Act.put, List.setIfInBounds_toArray, List.set_cons_zero, List.set_cons_succ, List.getElem_toArray, List.getElem_cons_zero]
    refine wpAnyL_takeS (i := 1) (v := ?_) rfl (by kernel_rfl) (by kernel_rfl) (by kernel_rfl) (by kernel_rfl) (fun _ _ _ h => h) (Or.inl ⟨by rfl, ?_⟩) (by assumption) ?_
    rotate_left 1
    · intro wz _
      go_simp
      all_goals with_reducible rfl
    simp only [Act.put, List.setIfInBounds_toArray, List.set_cons_zero, List.set_cons_succ, List.getElem_toArray, List.getElem_cons_zero, List.getElem_cons_succ]
    refine wpAnyL_takeS (i := 2) (v := ?_) rfl (by kernel_rfl) (by kernel_rfl) (by kernel_rfl) (by kernel_rfl) (fun _ _ _ h => h) (Or.inl ⟨by rfl, ?_⟩) (by assumption) ?_
    rotate_left 1
    · intro wz _
      go_simp
      all_goals with_reducible rfl
    simp only [Act.put, List.setIfInBounds_toArray, List.set_cons_zero, List.set_cons_succ, List.getElem_toArray, List.getElem_cons_zero, List.getElem_cons_succ]
    refine wpAnyL_take [7, 8, 9] (i := 3) (v := ?_) rfl (by kernel_rfl) (by kernel_rfl) (by kernel_rfl) (by kernel_rfl) (fun _ _ _ h => h) (Or.inl ⟨by rfl, ?_⟩) (by assumption) ?_
    rotate_left 1
    · intro wz sb
      obtain ⟨y0, y1, y2⟩ := HT.out wz sb.2
      go_simp
      all_goals with_reducible rfl
    simp only [Act.put, List.setIfInBounds_toArray, List.set_cons_zero, List.set_cons_succ, List.getElem_toArray, List.getElem_cons_zero, List.getElem_cons_succ]
    refine wpAnyL_takeS (i := 4) (v := ?_) rfl (by kernel_rfl) (by kernel_rfl) (by kernel_rfl) (by kernel_rfl) (fun _ _ _ h => h) (Or.inl ⟨by rfl, ?_⟩) (by assumption) ?_
    rotate_left 1
    · intro wz _
      go_simp
      all_goals with_reducible rfl
    simp only [Act.put, List.setIfInBounds_toArray, List.set_cons_zero, List.set_cons_succ, List.getElem_toArray, List.getElem_cons_zero, List.getElem_cons_succ]
    refine wpAnyL_takeS (i := 5) (v := ?_) rfl (by kernel_rfl) (by kernel_rfl) (by kernel_rfl) (by kernel_rfl) (fun _ _ _ h => h) (Or.inl ⟨by rfl, ?_⟩) (by assumption) ?_
    rotate_left 1
    · intro wz _
      go_simp
      all_goals with_reducible rfl
    simp only [Act.put, List.setIfInBounds_toArray, List.set_cons_zero, List.set_cons_succ, List.getElem_toArray, List.getElem_cons_zero, List.getElem_cons_succ]
    refine wpAnyL_take [7, 8, 9] (i := 6) (v := ?_) rfl (by kernel_rfl) (by kernel_rfl) (by kernel_rfl) (by kernel_rfl) (fun _ _ _ h => h) (Or.inl ⟨by rfl, ?_⟩) (by assumption) ?_
    rotate_left 1
    · intro wz sb
      obtain ⟨y0, y1, y2⟩ := HU.out wz sb.2
      go_simp
      all_goals with_reducible rfl
    simp only [Act.put, List.setIfInBounds_toArray, List.set_cons_zero, List.set_cons_succ, List.getElem_toArray, List.getElem_cons_zero, List.getElem_cons_succ]
    generalize V2.drew = Y0 at hHeld ⊢
    refine wpAnyL_ready (rs := [7]) (by kernel_rfl) (by simp) (AllReadyL.last rfl (by kernel_rfl) (fun Q hQ => ?_) AllReadyL.nil)
    go_simp
    refine (HNw.out _).mono ?_
    rintro e Y1 ⟨rfl, hb1⟩
    have hb2 := belJ hHeld.2 hb1
    obtain ⟨k0, k1, k2⟩ := HT.out _ hb2
    have fz := HFz.out _ hb2
    obtain ⟨hP4, hF4, hM4⟩ := HEnd.out _ hb2
    have HP4 := hideIt hP4
    have HF4 := hideIt hF4
    have HM4 := hideIt hM4
    refine hQ.out _ _ trivial (fun _ => ?_)
    clear hQ Q hHeld hb1 hb2 hP4 hF4 hM4 HEnd HFz HU HT HNw
    refine wpAnyL_takeE (i := 8) (v := ?_) rfl (by kernel_rfl) (by kernel_rfl) (by kernel_rfl) (by kernel_rfl) (by kernel_rfl) (fun _ _ _ h => h) (Or.inl ⟨by rfl, ?_⟩) (by assumption) ?_
    rotate_left 1
    · intro wz _
      go_simp
      all_goals with_reducible rfl
    simp only [Act.put, List.setIfInBounds_toArray, List.set_cons_zero, List.set_cons_succ, List.getElem_toArray, List.getElem_cons_zero, List.getElem_cons_succ]
    refine wpAnyL_ready (rs := [9]) (by kernel_rfl) (by simp) (AllReadyL.last rfl (by kernel_rfl) (fun Q hQ => ?_) AllReadyL.nil)
    go_simp
    refine hQ.out _ _ trivial (fun _ => ?_)
    clear hQ Q k0 k1 k2 fz
    refine wpAnyL_done (by kernel_rfl) ?_ _
    generalize World.setCell _ _ _ = W4 at *
    go_wp2_with fail
    have HU : Hid (∀ Z, Below W4.heap.size W4 Z → Z.cell? ⟨W.heap.size, 0, none⟩ = some (.int .i64 fr) ∧ Z.cell? ⟨W.heap.size, 1, none⟩ = some (.int .i64 (i : Int)) ∧ Z.cell? ⟨W.heap.size, 2, none⟩ = some (.int .i64 (q : Int)) ∧ Z.cell? ⟨W.heap.size, 3, none⟩ = some (.int .i64 rd) ∧ Z.cell? ⟨W.heap.size, 4, none⟩ = some (.bool true) ∧ Z.cell? ⟨W.heap.size, 5, none⟩ = some (.int .i64 t) ∧ Z.cell? ⟨W.heap.size, 6, none⟩ = some (.int .i64 c) ∧ Z.cell? ⟨W.heap.size, 7, none⟩ = some (.int .i64 v)) := fun Z hZ => HMb.out Z ((hZ.block _ (lt_of_heap HM4.out)).trans HM4.out)
    have HT : Hid (∀ Z, Below W4.heap.size W4 Z → Z.cell? ⟨K.N, i * 24 + q * 3, none⟩ = some (.int .i64 y.s.t) ∧ Z.cell? ⟨K.N, i * 24 + q * 3 + 1, none⟩ = some (.int .i64 y.s.c) ∧ Z.cell? ⟨K.N, i * 24 + q * 3 + 2, none⟩ = some (.int .i64 y.v)) := fun Z hZ => by
      have := (HP4.out.below hZ).nx i q hi hq
      simp only [upd2, and_self, if_true] at this
      exact this
    have HSe : Hid (∀ Z, Below W4.heap.size W4 Z → Calls Try.prog 32 #[.pointer (some ⟨K.B, 0, none⟩), .int .i64 (i : Int), .int .i64 fr, .agg #[.int .i64 (q : Int), .int .i64 rd, .bool false, .int .i64 y.s.t, .int .i64 y.s.c, .int .i64 y.v]] Z fun en W' => en = .returned (.tuple #[]) ∧ StTold w0 K P W Pend W') := fun Z hZ => by
      refine (sendS_any (HP4.out.below hZ) ⟨(i : Int), fr, (q : Int), rd, false, y.s.t, y.s.c, y.v⟩).mono fun en W' ⟨h1, K1, h2, h3⟩ => ⟨h1, K1, ?_, HF4.out.trans ((SFr.below hZ).trans h3)⟩
      rw [HE.out]
      exact h2
    clear HP4 HF4 HE HM4 HMb
    refine wp_region_L (B := [15]) (S := fun _ => True) (T := fun Z => Below W4.heap.size W4 Z) (by kernel_rfl) ⟨trivial, (Below.refl _ _).drew⟩ (fun hHeld => ?_)
    refine wpAnyL_takeS (i := 0) (v := ?_) rfl (by kernel_rfl) (by kernel_rfl) (by kernel_rfl) (by kernel_rfl) (fun _ _ _ h => h) (Or.inl ⟨by rfl, ?_⟩) (by assumption) ?_
    rotate_left 1
    · intro wz _
      go_simp
      all_goals with_reducible rfl
    simp only [Act.put, List.setIfInBounds_toArray, List.set_cons_zero, List.set_cons_succ, List.getElem_toArray, List.getElem_cons_zero]
    refine wpAnyL_takeS (i := 1) (v := ?_) rfl (by kernel_rfl) (by kernel_rfl) (by kernel_rfl) (by kernel_rfl) (fun _ _ _ h => h) (Or.inl ⟨by rfl, ?_⟩) (by assumption) ?_
    rotate_left 1
    · intro wz _
      go_simp
      all_goals with_reducible rfl
    simp only [Act.put, List.setIfInBounds_toArray, List.set_cons_zero, List.set_cons_succ, List.getElem_toArray, List.getElem_cons_zero, List.getElem_cons_succ]
    refine wpAnyL_take [15] (i := 2) (v := ?_) rfl (by kernel_rfl) (by kernel_rfl) (by kernel_rfl) (by kernel_rfl) (fun _ _ _ h => h) (Or.inl ⟨by rfl, ?_⟩) (by assumption) ?_
    rotate_left 1
    · intro wz sb
      obtain ⟨y0, y1, y2, y3, y4, y5, y6, y7⟩ := HU.out wz sb.2
      go_simp
      all_goals with_reducible rfl
    simp only [Act.put, List.setIfInBounds_toArray, List.set_cons_zero, List.set_cons_succ, List.getElem_toArray, List.getElem_cons_zero, List.getElem_cons_succ]
    refine wpAnyL_takeS (i := 3) (v := ?_) rfl (by kernel_rfl) (by kernel_rfl) (by kernel_rfl) (by kernel_rfl) (fun _ _ _ h => h) (Or.inl ⟨by rfl, ?_⟩) (by assumption) ?_
    rotate_left 1
    · intro wz _
      go_simp
      all_goals with_reducible rfl
    simp only [Act.put, List.setIfInBounds_toArray, List.set_cons_zero, List.set_cons_succ, List.getElem_toArray, List.getElem_cons_zero, List.getElem_cons_succ]
    refine wpAnyL_take [15] (i := 4) (v := ?_) rfl (by kernel_rfl) (by kernel_rfl) (by kernel_rfl) (by kernel_rfl) (fun _ _ _ h => h) (Or.inl ⟨by rfl, ?_⟩) (by assumption) ?_
    rotate_left 1
    · intro wz sb
      obtain ⟨y0, y1, y2, y3, y4, y5, y6, y7⟩ := HU.out wz sb.2
      go_simp
      all_goals with_reducible rfl
    simp only [Act.put, List.setIfInBounds_toArray, List.set_cons_zero, List.set_cons_succ, List.getElem_toArray, List.getElem_cons_zero, List.getElem_cons_succ]
    refine wpAnyL_takeS (i := 5) (v := ?_) rfl (by kernel_rfl) (by kernel_rfl) (by kernel_rfl) (by kernel_rfl) (fun _ _ _ h => h) (Or.inl ⟨by rfl, ?_⟩) (by assumption) ?_
    rotate_left 1
    · intro wz _
      go_simp
      all_goals with_reducible rfl
    simp only [Act.put, List.setIfInBounds_toArray, List.set_cons_zero, List.set_cons_succ, List.getElem_toArray, List.getElem_cons_zero, List.getElem_cons_succ]
    refine wpAnyL_takeS (i := 6) (v := ?_) rfl (by kernel_rfl) (by kernel_rfl) (by kernel_rfl) (by kernel_rfl) (fun _ _ _ h => h) (Or.inl ⟨by rfl, ?_⟩) (by assumption) ?_
    rotate_left 1
    · intro wz _
      go_simp
      all_goals with_reducible rfl
    simp only [Act.put, List.setIfInBounds_toArray, List.set_cons_zero, List.set_cons_succ, List.getElem_toArray, List.getElem_cons_zero, List.getElem_cons_succ]
    refine wpAnyL_take [14, 15] (i := 7) (v := ?_) rfl (by kernel_rfl) (by kernel_rfl) (by kernel_rfl) (by kernel_rfl) (fun _ _ _ h => h) (Or.inl ⟨by rfl, ?_⟩) (by assumption) ?_
    rotate_left 1
    · intro wz sb
      obtain ⟨y0, y1, y2, y3, y4, y5, y6, y7⟩ := HU.out wz sb.2
      go_simp
      all_goals with_reducible rfl
    simp only [Act.put, List.setIfInBounds_toArray, List.set_cons_zero, List.set_cons_succ, List.getElem_toArray, List.getElem_cons_zero, List.getElem_cons_succ]
    refine wpAnyL_takeS (i := 8) (v := ?_) rfl (by kernel_rfl) (by kernel_rfl) (by kernel_rfl) (by kernel_rfl) (fun _ _ _ h => h) (Or.inl ⟨by rfl, ?_⟩) (by assumption) ?_
    rotate_left 1
    · intro wz _
      go_simp
      all_goals with_reducible rfl
    simp only [Act.put, List.setIfInBounds_toArray, List.set_cons_zero, List.set_cons_succ, List.getElem_toArray, List.getElem_cons_zero, List.getElem_cons_succ]
    refine wpAnyL_takeS (i := 9) (v := ?_) rfl (by kernel_rfl) (by kernel_rfl) (by kernel_rfl) (by kernel_rfl) (fun _ _ _ h => h) (Or.inl ⟨by rfl, ?_⟩) (by assumption) ?_
    rotate_left 1
    · intro wz _
      go_simp
      all_goals with_reducible rfl
    simp only [Act.put, List.setIfInBounds_toArray, List.set_cons_zero, List.set_cons_succ, List.getElem_toArray, List.getElem_cons_zero, List.getElem_cons_succ]
    refine wpAnyL_take [14, 15] (i := 10) (v := ?_) rfl (by kernel_rfl) (by kernel_rfl) (by kernel_rfl) (by kernel_rfl) (fun _ _ _ h => h) (Or.inl ⟨by rfl, ?_⟩) (by assumption) ?_
    rotate_left 1
    · intro wz sb
      obtain ⟨y0, y1, y2, y3, y4, y5, y6, y7⟩ := HU.out wz sb.2
      go_simp
      all_goals with_reducible rfl
    simp only [Act.put, List.setIfInBounds_toArray, List.set_cons_zero, List.set_cons_succ, List.getElem_toArray, List.getElem_cons_zero, List.getElem_cons_succ]
    refine wpAnyL_takeS (i := 11) (v := ?_) rfl (by kernel_rfl) (by kernel_rfl) (by kernel_rfl) (by kernel_rfl) (fun _ _ _ h => h) (Or.inl ⟨by rfl, ?_⟩) (by assumption) ?_
    rotate_left 1
    · intro wz _
      go_simp
      all_goals with_reducible rfl
    simp only [Act.put, List.setIfInBounds_toArray, List.set_cons_zero, List.set_cons_succ, List.getElem_toArray, List.getElem_cons_zero, List.getElem_cons_succ]
    refine wpAnyL_takeS (i := 12) (v := ?_) rfl (by kernel_rfl) (by kernel_rfl) (by kernel_rfl) (by kernel_rfl) (fun _ _ _ h => h) (Or.inl ⟨by rfl, ?_⟩) (by assumption) ?_
    rotate_left 1
    · intro wz _
      go_simp
      all_goals with_reducible rfl
    simp only [Act.put, List.setIfInBounds_toArray, List.set_cons_zero, List.set_cons_succ, List.getElem_toArray, List.getElem_cons_zero, List.getElem_cons_succ]
    refine wpAnyL_take [14, 15] (i := 13) (v := ?_) rfl (by kernel_rfl) (by kernel_rfl) (by kernel_rfl) (by kernel_rfl) (fun _ _ _ h => h) (Or.inl ⟨by rfl, ?_⟩) (by assumption) ?_
    rotate_left 1
    · intro wz sb
      obtain ⟨y0, y1, y2⟩ := HT.out wz sb.2
      go_simp
      all_goals with_reducible rfl
    simp only [Act.put, List.setIfInBounds_toArray, List.set_cons_zero, List.set_cons_succ, List.getElem_toArray, List.getElem_cons_zero, List.getElem_cons_succ]
    refine wpAnyL_takeS (i := 14) (v := ?_) rfl (by kernel_rfl) (by kernel_rfl) (by kernel_rfl) (by kernel_rfl) (fun _ _ _ h => h) (Or.inl ⟨by rfl, ?_⟩) (by assumption) ?_
    rotate_left 1
    · intro wz _
      go_simp
      all_goals with_reducible rfl
    simp only [Act.put, List.setIfInBounds_toArray, List.set_cons_zero, List.set_cons_succ, List.getElem_toArray, List.getElem_cons_zero, List.getElem_cons_succ]
    refine wpAnyL_ready (rs := [15]) (by kernel_rfl) (by simp) (AllReadyL.last rfl (by kernel_rfl) (fun Q hQ => ?_) AllReadyL.nil)
    go_simp
    refine (HSe.out _ hHeld.2).mono ?_
    rintro e W5 ⟨rfl, hT⟩
    have HTd := hideIt hT
    refine hQ.out _ _ trivial (fun _ => ?_)
    clear hQ Q hHeld hT HU HT HSe
    refine wpAnyL_done (by kernel_rfl) ?_ _
    go_wp2
    go_end0
    exact ⟨rfl, HTd.out⟩
end
end Go.Proofs.Ytncnojgemmcplaa
