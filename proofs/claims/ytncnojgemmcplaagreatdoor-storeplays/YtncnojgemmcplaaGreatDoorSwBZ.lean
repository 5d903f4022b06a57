/-
  The program's store, walked: see, send, goRound.
  The document's store, walked: Free, see.
-/
import Derived.Test.YtncnojgemmcplaaGreatDoorSwAZ
namespace Go.Proofs.YtncnojgemmcplaaGreatDoor.St
open Go.RowKit

/-- The store becomes another one. -/
def StTold (w0 : World) (K : StK) (P : Pst) (W : World) (P' : Pst) (W' : World) : Prop := ∃ K', StoP w0 W' K' P' ∧ SFr K P.k W W' K'
theorem infoEv : (Tryz.prog.info? 101).map (fun i => (i.zero, i.size, i.bytes)) = some (some (Value.agg #[.int .i64 0, .int .i64 0, .int .i64 0, .int .i64 0, .int .i64 0, .int .i64 0, .int .i64 0]), 7, 56) := by kernel_rfl
theorem infoSp : (Tryz.prog.info? 60).map (fun i => (i.zero, i.size, i.bytes)) = some (some (Value.agg #[.int .i64 0, .int .i64 0]), 2, 16) := by kernel_rfl
theorem run_appE {w : World} {base B : Nat} {v : Value} {L : List Evp} {e : Evp} (hown : w.ownsRow base 101 7 v L.length (evCs L)) (hB : w.heap[B]? = some (.cells #[.int .i64 e.p, .int .i64 e.t, .int .i64 e.k, .int .i64 e.d, .int .i64 e.a, .int .i64 e.b, .int .i64 e.r] 101)) (hb : base ≤ w.heap.size) (hL : L.length ≤ 9000) (ty : TypeId) :
    ∃ v' w', (Builtin.append_ #[46, 46] ty #[v, .slice (some ⟨B, 0, none⟩) 1 1]).run Tryz.prog w = .ok v' w' ∧ w'.ownsRow base 101 7 v' (L ++ [e]).length (evCs (L ++ [e])) ∧ w.grownBy w' v.ownBlock ∧ (v'.ownBlock = v.ownBlock ∨ v'.ownBlock = some w.heap.size) := by
  obtain ⟨i, hi, hz, hsz, hby⟩ := info_parts' infoEv
  have hnews : ∀ j u, (evC e)[j]? = some u → w.cell? ((⟨B, 0, none⟩ : Addr).add j) = some u := by
    intro j u hj
    rw [Addr.add_lit, Nat.zero_add, cell_of_row _ _ _ _ 101 _ hB]
    rw [← hj]
    simp [evC]
  obtain ⟨v', w', hr, ho, hg, _, hob⟩ := run_append_own_at (P := Tryz.prog) (w := w) base 46 ty 101 i _ 7 56 Tryz.underlying46 hi hz hsz hby rfl (by decide) v _ _ hown ⟨B, 0, none⟩ 1 1 (evC e) rfl hnews (by simp [evC, Value.oneCell']) (by unfold maxLen; omega) (by omega) hb
  refine ⟨v', w', hr, ?_, hg, hob⟩
  rw [evCs_app, List.length_append]
  exact ho
theorem run_appS {w : World} {base B : Nat} {v : Value} {L : List Smp} {s : Smp} (hown : w.ownsRow base 60 2 v L.length (spCs L)) (hB : w.heap[B]? = some (.cells #[.int .i64 s.t, .int .i64 s.c] 60)) (hb : base ≤ w.heap.size) (hL : L.length ≤ 9000) (ty : TypeId) :
    ∃ v' w', (Builtin.append_ #[43, 43] ty #[v, .slice (some ⟨B, 0, none⟩) 1 1]).run Tryz.prog w = .ok v' w' ∧ w'.ownsRow base 60 2 v' (L ++ [s]).length (spCs (L ++ [s])) ∧ w.grownBy w' v.ownBlock ∧ (v'.ownBlock = v.ownBlock ∨ v'.ownBlock = some w.heap.size) := by
  obtain ⟨i, hi, hz, hsz, hby⟩ := info_parts' infoSp
  have hnews : ∀ j u, (spC s)[j]? = some u → w.cell? ((⟨B, 0, none⟩ : Addr).add j) = some u := by
    intro j u hj
    rw [Addr.add_lit, Nat.zero_add, cell_of_row _ _ _ _ 60 _ hB]
    rw [← hj]
    simp [spC]
  obtain ⟨v', w', hr, ho, hg, _, hob⟩ := run_append_own_at (P := Tryz.prog) (w := w) base 43 ty 60 i _ 2 16 Tryz.underlying43 hi hz hsz hby rfl (by decide) v _ _ hown ⟨B, 0, none⟩ 1 1 (spC s) rfl hnews (by simp [spC, Value.oneCell']) (by unfold maxLen; omega) (by omega) hb
  refine ⟨v', w', hr, ?_, hg, hob⟩
  rw [spCs_app, List.length_append]
  exact ho
theorem blkEv {w : World} {g : Nat} {t : TypeId} {e : Evp} (hb : w.heap[g]? = some (.cells #[.int .i64 e.p, .int .i64 e.t, .int .i64 e.k, .int .i64 e.d, .int .i64 e.a, .int .i64 e.b, .int .i64 e.r] t)) : w.cell? ⟨g, 0, none⟩ = some (.int .i64 e.p) ∧ w.cell? ⟨g, 1, none⟩ = some (.int .i64 e.t) ∧ w.cell? ⟨g, 2, none⟩ = some (.int .i64 e.k) ∧ w.cell? ⟨g, 3, none⟩ = some (.int .i64 e.d) ∧ w.cell? ⟨g, 4, none⟩ = some (.int .i64 e.a) ∧ w.cell? ⟨g, 5, none⟩ = some (.int .i64 e.b) ∧ w.cell? ⟨g, 6, none⟩ = some (.int .i64 e.r) := by
  have hc := fun i => cell_of_row w g i _ t _ hb
  exact ⟨by rw [hc]; rfl, by rw [hc]; rfl, by rw [hc]; rfl, by rw [hc]; rfl, by rw [hc]; rfl, by rw [hc]; rfl, by rw [hc]; rfl⟩
theorem blkSp {w : World} {g : Nat} {t : TypeId} {s : Smp} (hb : w.heap[g]? = some (.cells #[.int .i64 s.t, .int .i64 s.c] t)) : w.cell? ⟨g, 0, none⟩ = some (.int .i64 s.t) ∧ w.cell? ⟨g, 1, none⟩ = some (.int .i64 s.c) :=
  ⟨by rw [cell_of_row _ _ _ _ t _ hb]; rfl, by rw [cell_of_row _ _ _ _ t _ hb]; rfl⟩

section
variable {w0 W : World} {K : StK} {P : Pst}
set_option maxRecDepth 100000 in
set_option maxHeartbeats 4000000 in
theorem see_any (h : StoP w0 W K P) (hev : P.evs.length ≤ 9000) (hst : P.sts.length ≤ 9000) (e : Evp) (s : Smp) :
    Calls Tryz.prog 50 #[.pointer (some ⟨K.B, 0, none⟩), .agg #[.int .i64 e.p, .int .i64 e.t, .int .i64 e.k, .int .i64 e.d, .int .i64 e.a, .int .i64 e.b, .int .i64 e.r], .agg #[.int .i64 s.t, .int .i64 s.c]] W fun en W' => en = .returned (.tuple #[]) ∧ StTold w0 K P W (seeP P e s) W' := by
  have hb0 : Below W.heap.size W ((W.alloc (.cells #[.int .i64 e.p, .int .i64 e.t, .int .i64 e.k, .int .i64 e.d, .int .i64 e.a, .int .i64 e.b, .int .i64 e.r] 101)).alloc (.cells #[.int .i64 s.t, .int .i64 s.c] 60)) := belA (belA (Below.refl _ _) _) _
  have hE : ((W.alloc (.cells #[.int .i64 e.p, .int .i64 e.t, .int .i64 e.k, .int .i64 e.d, .int .i64 e.a, .int .i64 e.b, .int .i64 e.r] 101)).alloc (.cells #[.int .i64 s.t, .int .i64 s.c] 60)).heap[W.heap.size]? = some (.cells #[.int .i64 e.p, .int .i64 e.t, .int .i64 e.k, .int .i64 e.d, .int .i64 e.a, .int .i64 e.b, .int .i64 e.r] 101) := by
    rw [Below.heap_alloc _ _ _ (by simp)]; exact heap_alloc_new W _
  have hS : ((W.alloc (.cells #[.int .i64 e.p, .int .i64 e.t, .int .i64 e.k, .int .i64 e.d, .int .i64 e.a, .int .i64 e.b, .int .i64 e.r] 101)).alloc (.cells #[.int .i64 s.t, .int .i64 s.c] 60)).heap[W.heap.size + 1]? = some (.cells #[.int .i64 s.t, .int .i64 s.c] 60) := by
    have := heap_alloc_new (W.alloc (.cells #[.int .i64 e.p, .int .i64 e.t, .int .i64 e.k, .int .i64 e.d, .int .i64 e.a, .int .i64 e.b, .int .i64 e.r] 101)) (.cells #[.int .i64 s.t, .int .i64 s.c] 60)
    simpa using this
  have HP1 := hideIt (h.below hb0)
  have HF1 : Hid (SFr K P.k W _ K) := SFr.below hb0
  have HE := hideIt hE
  have HS := hideIt hS
  have hBl := h.ltB
  have hOw : ∀ b, K.own P.k b → b < W.heap.size := fun b hb => (h.own_lt hb).2
  have HOw := hideIt hOw
  clear h hb0 hE hS hOw
  go_enter Tryz.func50, Tryz.ntmps50
  go_upto_region 1 with fail
  generalize (W.alloc _).alloc _ = W1 at *
  obtain ⟨va, vc, eve⟩ := ownsRow_slice HP1.out.ev
  have HT : Hid (∀ Z, Below W1.heap.size W1 Z → Z.cell? ⟨K.B, 9, none⟩ = some (.slice va P.evs.length vc)) := fun Z hZ => by
    rw [← eve]; exact (HP1.out.below hZ).cells.2.2.2.2.2.1
  have HU : Hid (∀ Z, Below W1.heap.size W1 Z → Z.cell? ⟨W.heap.size, 0, none⟩ = some (.int .i64 e.p) ∧ Z.cell? ⟨W.heap.size, 1, none⟩ = some (.int .i64 e.t) ∧ Z.cell? ⟨W.heap.size, 2, none⟩ = some (.int .i64 e.k) ∧ Z.cell? ⟨W.heap.size, 3, none⟩ = some (.int .i64 e.d) ∧ Z.cell? ⟨W.heap.size, 4, none⟩ = some (.int .i64 e.a) ∧ Z.cell? ⟨W.heap.size, 5, none⟩ = some (.int .i64 e.b) ∧ Z.cell? ⟨W.heap.size, 6, none⟩ = some (.int .i64 e.r)) := fun Z hZ => blkEv ((hZ.block _ (lt_of_heap HE.out)).trans HE.out)
  refine wp_region_L (B := [7, 10]) (S := fun _ => True) (T := fun Z => Below W1.heap.size W1 Z) (by kernel_rfl) ⟨trivial, (Below.refl _ _).drew⟩ (fun hHeld => ?_)
  refine wpAnyL_takeS (i := 0) (v := ?_) rfl (by kernel_rfl) (by kernel_rfl) (by kernel_rfl) (by kernel_rfl) (fun _ _ _ h => h) (Or.inl ⟨by rfl, ?_⟩) (by assumption) ?_
  rotate_left 1
  · intro wz _
    go_simp
    all_goals with_reducible rfl
  simp only [Act.put, List.setIfInBounds_toArray, List.set_cons_zero, List.set_cons_succ, List.getElem_toArray, List.getElem_cons_zero]
  refine wpAnyL_takeS (i := 1) (v := ?_) rfl (by kernel_rfl) (by kernel_rfl) (by kernel_rfl) (by kernel_rfl) (fun _ _ _ h => h) (Or.inl ⟨by rfl, ?_⟩) (by assumption) ?_
  rotate_left 1
  · intro wz _
    go_simp
    all_goals with_reducible rfl
  simp only [Act.put, List.setIfInBounds_toArray, List.set_cons_zero, List.set_cons_succ, List.getElem_toArray, List.getElem_cons_zero, List.getElem_cons_succ]
  refine wpAnyL_takeS (i := 2) (v := ?_) rfl (by kernel_rfl) (by kernel_rfl) (by kernel_rfl) (by kernel_rfl) (fun _ _ _ h => h) (Or.inl ⟨by rfl, ?_⟩) (by assumption) ?_
  rotate_left 1
  · intro wz _
    go_simp
    all_goals with_reducible rfl
  simp only [Act.put, List.setIfInBounds_toArray, List.set_cons_zero, List.set_cons_succ, List.getElem_toArray, List.getElem_cons_zero, List.getElem_cons_succ]
  refine wpAnyL_takeS (i := 3) (v := ?_) rfl (by kernel_rfl) (by kernel_rfl) (by kernel_rfl) (by kernel_rfl) (fun _ _ _ h => h) (Or.inl ⟨by rfl, ?_⟩) (by assumption) ?_
  rotate_left 1
  · intro wz _
    go_simp
    all_goals with_reducible rfl
  simp only [Act.put, List.setIfInBounds_toArray, List.set_cons_zero, List.set_cons_succ, List.getElem_toArray, List.getElem_cons_zero, List.getElem_cons_succ]
  refine wpAnyL_take [7, 8, 9, 10] (i := 4) (v := ?_) rfl (by kernel_rfl) (by kernel_rfl) (by kernel_rfl) (by kernel_rfl) (fun _ _ _ h => h) (Or.inl ⟨by rfl, ?_⟩) (by assumption) ?_
  rotate_left 1
  · intro wz sb
    have y0 := HT.out wz sb.2
    go_simp
    all_goals with_reducible rfl
  simp only [Act.put, List.setIfInBounds_toArray, List.set_cons_zero, List.set_cons_succ, List.getElem_toArray, List.getElem_cons_zero, List.getElem_cons_succ]
  refine wpAnyL_take [6, 7, 8, 9, 10] (i := 5) (v := ?_) rfl (by kernel_rfl) (by kernel_rfl) (by kernel_rfl) (by kernel_rfl) (fun _ _ _ h => h) (Or.inl ⟨by rfl, ?_⟩) (by assumption) ?_
  rotate_left 1
  · intro wz sb
    obtain ⟨y0, y1, y2, y3, y4, y5, y6⟩ := HU.out wz sb.2
    go_simp
    all_goals with_reducible rfl
  simp only [Act.put, List.setIfInBounds_toArray, List.set_cons_zero, List.set_cons_succ, List.getElem_toArray, List.getElem_cons_zero, List.getElem_cons_succ]
  generalize W1.drew = Y0 at hHeld ⊢
  refine wpAnyL_ready (rs := [6]) (by kernel_rfl) (by simp) (AllReadyL.cons rfl (fun Q hQ => ?_) AllReadyL.nil)
  go_simp
  have hb1 : Below W1.heap.size W1 (Y0.alloc (.cells #[.int .i64 e.p, .int .i64 e.t, .int .i64 e.k, .int .i64 e.d, .int .i64 e.a, .int .i64 e.b, .int .i64 e.r] 101)) := hHeld.2.alloc hHeld.2.size _
  have hnew := heap_alloc_new Y0 (.cells #[.int .i64 e.p, .int .i64 e.t, .int .i64 e.k, .int .i64 e.d, .int .i64 e.a, .int .i64 e.b, .int .i64 e.r] 101)
  refine hQ.out _ _ ⟨trivial, hb1⟩ (fun hHeld2 => ?_)
  clear hQ Q hb1
  generalize Y0.alloc (.cells #[.int .i64 e.p, .int .i64 e.t, .int .i64 e.k, .int .i64 e.d, .int .i64 e.a, .int .i64 e.b, .int .i64 e.r] 101) = Y1 at *
  have hP := HP1.out.below hHeld2.2
  have hF := HF1.out.trans (SFr.below hHeld2.2)
  obtain ⟨v', w6, hr, ho, hg, hob⟩ := run_appE (e := e) hP.ev hnew hP.bel.size hev 46
  obtain ⟨hP6, hF6⟩ := hP.pushE ho hg hob
  have hs6 : w6.heap[W.heap.size + 1]? = some (.cells #[.int .i64 s.t, .int .i64 s.c] 60) := by
    refine (hg.block _ (Nat.lt_of_lt_of_le (lt_of_heap HS.out) hHeld2.2.size) fun e' => ?_).trans ((hHeld2.2.block _ (lt_of_heap HS.out)).trans HS.out)
    have := HOw.out (W.heap.size + 1) (.inr (.inr (.inr (.inr (.inl e'.symm)))))
    omega
  have eB : w6.heap[K.B]? = Y1.heap[K.B]? := hg.block K.B hP.ltB fun e' => ne_tagD hP.tB (hP.tE e'.symm) (by decide) rfl
  have c6 : w6.cell? ⟨K.B, 9, none⟩ = some (.slice va P.evs.length vc) := by
    rw [World.cell?_of_block (a := ⟨K.B, 9, none⟩) eB, ← eve]; exact hP.cells.2.2.2.2.2.1
  have f6 : w6.frozen? ⟨K.B, 9, none⟩ = false := (World.frozen?_of_block (a := ⟨K.B, 9, none⟩) eB).trans (hP.fzB 9)
  rw [eve] at hr
  refine wpAnyL_ready (rs := [7]) (by kernel_rfl) (by simp) (AllReadyL.last rfl (by kernel_rfl) (fun Q hQ => ?_) AllReadyL.nil)
  refine step_append_run (by rfl) _ _ 46 rfl _ _ v' w6 rfl rfl hr ?_
  obtain ⟨a6, cap6, ev6⟩ := ownsRow_slice ho
  rw [ev6] at hP6 hF6
  have hlen : (P.evs ++ [e]).length = P.evs.length + 1 := by simp
  rw [ev6, hlen]
  rw [hlen] at hP6 hF6
  have HP6 := hideIt hP6
  have HF6 := hideIt (hF.trans hF6)
  have hS6 : (w6.setCell ⟨K.B, 9, none⟩ (.slice a6 (P.evs.length + 1) cap6)).heap[W.heap.size + 1]? = some (.cells #[.int .i64 s.t, .int .i64 s.c] 60) := (Below.heap_setCell _ ⟨K.B, 9, none⟩ _ _ (show W.heap.size + 1 ≠ K.B by omega)).trans hs6
  have HS6 := hideIt hS6
  simp only [Act.put, List.setIfInBounds_toArray]
  refine hQ.out _ _ trivial (fun _ => ?_)
  clear hQ Q hr ho hg hob hP hF hHeld hHeld2 hnew eB HT HU hs6 hS6 hP6 hF6 HE HS HP1 HF1 ev6 hlen eve
  refine wpAnyL_takeE (i := 8) (v := ?_) rfl (by kernel_rfl) (by kernel_rfl) (by kernel_rfl) (by kernel_rfl) (by kernel_rfl) (fun _ _ _ h => h) (Or.inl ⟨by rfl, ?_⟩) (by assumption) ?_
  rotate_left 1
  · intro wz _
    go_simp
    all_goals with_reducible rfl
  simp only [Act.put, List.setIfInBounds_toArray, List.set_cons_zero, List.set_cons_succ, List.getElem_toArray, List.getElem_cons_zero, List.getElem_cons_succ]
  refine wpAnyL_takeE (i := 9) (v := ?_) rfl (by kernel_rfl) (by kernel_rfl) (by kernel_rfl) (by kernel_rfl) (by kernel_rfl) (fun _ _ _ h => h) (Or.inl ⟨by rfl, ?_⟩) (by assumption) ?_
  rotate_left 1
  · intro wz _
    go_simp
    all_goals with_reducible rfl
  simp only [Act.put, List.setIfInBounds_toArray, List.set_cons_zero, List.set_cons_succ, List.getElem_toArray, List.getElem_cons_zero, List.getElem_cons_succ]
  refine wpAnyL_ready (rs := [10]) (by kernel_rfl) (by simp) (AllReadyL.last rfl (by kernel_rfl) (fun Q hQ => ?_) AllReadyL.nil)
  go_simp
  refine hQ.out _ _ trivial (fun _ => ?_)
  clear hQ Q c6 f6
  refine wpAnyL_done (by kernel_rfl) ?_ _
  go_wp2_with fail
  generalize w6.setCell ⟨K.B, 9, none⟩ (.slice a6 (P.evs.length + 1) cap6) = W2 at *
  obtain ⟨sa, sc, esv⟩ := ownsRow_slice HP6.out.st
  replace esv : K.vs = .slice sa P.sts.length sc := esv
  have HT : Hid (∀ Z, Below W2.heap.size W2 Z → Z.cell? ⟨K.B, 10, none⟩ = some (.slice sa P.sts.length sc)) := fun Z hZ => by
    rw [← esv]; exact (HP6.out.below hZ).cells.2.2.2.2.2.2
  have HU : Hid (∀ Z, Below W2.heap.size W2 Z → Z.cell? ⟨W.heap.size + 1, 0, none⟩ = some (.int .i64 s.t) ∧ Z.cell? ⟨W.heap.size + 1, 1, none⟩ = some (.int .i64 s.c)) := fun Z hZ => blkSp ((hZ.block _ (lt_of_heap HS6.out)).trans HS6.out)
  refine wp_region_L (B := [7, 10]) (S := fun _ => True) (T := fun Z => Below W2.heap.size W2 Z) (by kernel_rfl) ⟨trivial, (Below.refl _ _).drew⟩ (fun hHeld => ?_)
  refine wpAnyL_takeS (i := 0) (v := ?_) rfl (by kernel_rfl) (by kernel_rfl) (by kernel_rfl) (by kernel_rfl) (fun _ _ _ h => h) (Or.inl ⟨by rfl, ?_⟩) (by assumption) ?_
  rotate_left 1
  · intro wz _
    go_simp
    all_goals with_reducible rfl
  simp only [Act.put, List.setIfInBounds_toArray, List.set_cons_zero, List.set_cons_succ, List.getElem_toArray, List.getElem_cons_zero]
  refine wpAnyL_takeS (i := 1) (v := ?_) rfl (by kernel_rfl) (by kernel_rfl) (by kernel_rfl) (by kernel_rfl) (fun _ _ _ h => h) (Or.inl ⟨by rfl, ?_⟩) (by assumption) ?_
  rotate_left 1
  · intro wz _
    go_simp
    all_goals with_reducible rfl
  simp only [Act.put, List.setIfInBounds_toArray, List.set_cons_zero, List.set_cons_succ, List.getElem_toArray, List.getElem_cons_zero, List.getElem_cons_succ]
  refine wpAnyL_takeS (i := 2) (v := ?_) rfl (by kernel_rfl) (by kernel_rfl) (by kernel_rfl) (by kernel_rfl) (fun _ _ _ h => h) (Or.inl ⟨by rfl, ?_⟩) (by assumption) ?_
  rotate_left 1
  · intro wz _
    go_simp
    all_goals with_reducible rfl
  simp only [Act.put, List.setIfInBounds_toArray, List.set_cons_zero, List.set_cons_succ, List.getElem_toArray, List.getElem_cons_zero, List.getElem_cons_succ]
  refine wpAnyL_takeS (i := 3) (v := ?_) rfl (by kernel_rfl) (by kernel_rfl) (by kernel_rfl) (by kernel_rfl) (fun _ _ _ h => h) (Or.inl ⟨by rfl, ?_⟩) (by assumption) ?_
  rotate_left 1
  · intro wz _
    go_simp
    all_goals with_reducible rfl
  simp only [Act.put, List.setIfInBounds_toArray, List.set_cons_zero, List.set_cons_succ, List.getElem_toArray, List.getElem_cons_zero, List.getElem_cons_succ]
  refine wpAnyL_take [7, 8, 9, 10] (i := 4) (v := ?_) rfl (by kernel_rfl) (by kernel_rfl) (by kernel_rfl) (by kernel_rfl) (fun _ _ _ h => h) (Or.inl ⟨by rfl, ?_⟩) (by assumption) ?_
  rotate_left 1
  · intro wz sb
    have y0 := HT.out wz sb.2
    go_simp
    all_goals with_reducible rfl
  simp only [Act.put, List.setIfInBounds_toArray, List.set_cons_zero, List.set_cons_succ, List.getElem_toArray, List.getElem_cons_zero, List.getElem_cons_succ]
  refine wpAnyL_take [6, 7, 8, 9, 10] (i := 5) (v := ?_) rfl (by kernel_rfl) (by kernel_rfl) (by kernel_rfl) (by kernel_rfl) (fun _ _ _ h => h) (Or.inl ⟨by rfl, ?_⟩) (by assumption) ?_
  rotate_left 1
  · intro wz sb
    obtain ⟨y0, y1⟩ := HU.out wz sb.2
    go_simp
    all_goals with_reducible rfl
  simp only [Act.put, List.setIfInBounds_toArray, List.set_cons_zero, List.set_cons_succ, List.getElem_toArray, List.getElem_cons_zero, List.getElem_cons_succ]
  generalize W2.drew = Y0 at hHeld ⊢
  refine wpAnyL_ready (rs := [6]) (by kernel_rfl) (by simp) (AllReadyL.cons rfl (fun Q hQ => ?_) AllReadyL.nil)
  go_simp
  have hb1 : Below W2.heap.size W2 (Y0.alloc (.cells #[.int .i64 s.t, .int .i64 s.c] 60)) := hHeld.2.alloc hHeld.2.size _
  have hnew := heap_alloc_new Y0 (.cells #[.int .i64 s.t, .int .i64 s.c] 60)
  refine hQ.out _ _ ⟨trivial, hb1⟩ (fun hHeld2 => ?_)
  clear hQ Q hb1
  generalize Y0.alloc (.cells #[.int .i64 s.t, .int .i64 s.c] 60) = Y1 at *
  have hP := HP6.out.below hHeld2.2
  have hF := HF6.out.trans (SFr.below hHeld2.2)
  obtain ⟨v2, w7, hr, ho, hg, hob⟩ := run_appS (s := s) hP.st hnew hP.bel.size hst 43
  obtain ⟨hP7, hF7⟩ := hP.pushS ho hg hob
  have eB : w7.heap[K.B]? = Y1.heap[K.B]? := hg.block K.B hP.ltB fun e' => ne_tagD hP.tB (hP.tS e'.symm) (by decide) rfl
  have c6 : w7.cell? ⟨K.B, 10, none⟩ = some (.slice sa P.sts.length sc) := by
    rw [World.cell?_of_block (a := ⟨K.B, 10, none⟩) eB, ← esv]; exact hP.cells.2.2.2.2.2.2
  have f6 : w7.frozen? ⟨K.B, 10, none⟩ = false := (World.frozen?_of_block (a := ⟨K.B, 10, none⟩) eB).trans (hP.fzB 10)
  replace hr : (Builtin.append_ #[43, 43] 43 #[K.vs, .slice (some ⟨Y0.heap.size, 0, none⟩) 1 1]).run Tryz.prog Y1 = .ok v2 w7 := hr
  rw [esv] at hr
  refine wpAnyL_ready (rs := [7]) (by kernel_rfl) (by simp) (AllReadyL.last rfl (by kernel_rfl) (fun Q hQ => ?_) AllReadyL.nil)
  refine step_append_run (by rfl) _ _ 43 rfl _ _ v2 w7 rfl rfl hr ?_
  have HR : Hid (StTold w0 K P W (seeP P e s) (w7.setCell ⟨K.B, 10, none⟩ v2)) := ⟨_, hP7, hF.trans hF7⟩
  obtain ⟨a7, n7, cap7, rfl⟩ : ∃ a n c, v2 = .slice a n c := by
    obtain ⟨a, c, e'⟩ := ownsRow_slice ho
    exact ⟨a, _, c, e'⟩
  simp only [Act.put, List.setIfInBounds_toArray]
  refine hQ.out _ _ trivial (fun _ => ?_)
  clear hQ Q hr ho hg hob hP hF hHeld hHeld2 hnew eB HT HU hP7 hF7 HP6 HF6 HS6 esv
  refine wpAnyL_takeE (i := 8) (v := ?_) rfl (by kernel_rfl) (by kernel_rfl) (by kernel_rfl) (by kernel_rfl) (by kernel_rfl) (fun _ _ _ h => h) (Or.inl ⟨by rfl, ?_⟩) (by assumption) ?_
  rotate_left 1
  · intro wz _
    go_simp
    all_goals with_reducible rfl
  simp only [Act.put, List.setIfInBounds_toArray, List.set_cons_zero, List.set_cons_succ, List.getElem_toArray, List.getElem_cons_zero, List.getElem_cons_succ]
  refine wpAnyL_takeE (i := 9) (v := ?_) rfl (by kernel_rfl) (by kernel_rfl) (by kernel_rfl) (by kernel_rfl) (by kernel_rfl) (fun _ _ _ h => h) (Or.inl ⟨by rfl, ?_⟩) (by assumption) ?_
  rotate_left 1
  · intro wz _
    go_simp
    all_goals with_reducible rfl
  simp only [Act.put, List.setIfInBounds_toArray, List.set_cons_zero, List.set_cons_succ, List.getElem_toArray, List.getElem_cons_zero, List.getElem_cons_succ]
  refine wpAnyL_ready (rs := [10]) (by kernel_rfl) (by simp) (AllReadyL.last rfl (by kernel_rfl) (fun Q hQ => ?_) AllReadyL.nil)
  go_simp
  refine hQ.out _ _ trivial (fun _ => ?_)
  clear hQ Q c6 f6
  refine wpAnyL_done (by kernel_rfl) ?_ _
  go_wp2
  go_end0
  exact ⟨rfl, HR.out⟩

set_option maxRecDepth 100000 in
set_option maxHeartbeats 4000000 in
theorem sendS_any (h : StoP w0 W K P) (m : Mq) :
    Calls Tryz.prog 85 #[.pointer (some ⟨K.B, 0, none⟩), .int .i64 m.fr, .int .i64 m.tt, .agg #[.int .i64 m.key, .int .i64 m.rd, .bool m.tells, .int .i64 m.t, .int .i64 m.c, .int .i64 m.v]] W fun en W' => en = .returned (.tuple #[]) ∧ StTold w0 K P W (sendP P m) W' := by
  have hb0 : Below W.heap.size W (W.alloc (.cells #[.int .i64 m.key, .int .i64 m.rd, .bool m.tells, .int .i64 m.t, .int .i64 m.c, .int .i64 m.v] 98)) := belA (Below.refl _ _) _
  have HP1 := hideIt (h.below hb0)
  have HF1 : Hid (SFr K P.k W _ K) := SFr.below hb0
  have HM : Hid ((W.alloc (.cells #[.int .i64 m.key, .int .i64 m.rd, .bool m.tells, .int .i64 m.t, .int .i64 m.c, .int .i64 m.v] 98)).heap[W.heap.size]? = some (.cells #[.int .i64 m.key, .int .i64 m.rd, .bool m.tells, .int .i64 m.t, .int .i64 m.c, .int .i64 m.v] 98)) := heap_alloc_new W _
  clear h hb0
  go_enter Tryz.func85, Tryz.ntmps85
  go_upto_region 1 with fail
  generalize W.alloc _ = W1 at *
  have HU : Hid (∀ Z, Below W1.heap.size W1 Z → Z.cell? ⟨W.heap.size, 0, none⟩ = some (.int .i64 m.key) ∧ Z.cell? ⟨W.heap.size, 1, none⟩ = some (.int .i64 m.rd) ∧ Z.cell? ⟨W.heap.size, 2, none⟩ = some (.bool m.tells) ∧ Z.cell? ⟨W.heap.size, 3, none⟩ = some (.int .i64 m.t) ∧ Z.cell? ⟨W.heap.size, 4, none⟩ = some (.int .i64 m.c) ∧ Z.cell? ⟨W.heap.size, 5, none⟩ = some (.int .i64 m.v)) := fun Z hZ => by
    have hb := (hZ.block _ (lt_of_heap HM.out)).trans HM.out
    have hc := fun i => cell_of_row Z W.heap.size i _ 98 _ hb
    exact ⟨by rw [hc]; rfl, by rw [hc]; rfl, by rw [hc]; rfl, by rw [hc]; rfl, by rw [hc]; rfl, by rw [hc]; rfl⟩
  refine wp_region_L (B := [7]) (S := fun _ => True) (T := fun Z => Below W1.heap.size W1 Z) (by kernel_rfl) ⟨trivial, (Below.refl _ _).drew⟩ (fun hHeld => ?_)
  refine wpAnyL_takeS (i := 0) (v := ?_) rfl (by kernel_rfl) (by kernel_rfl) (by kernel_rfl) (by kernel_rfl) (fun _ _ _ h => h) (Or.inl ⟨by rfl, ?_⟩) (by assumption) ?_
  rotate_left 1
  · intro wz _
    go_simp
    all_goals with_reducible rfl
  simp only [Act.put, List.setIfInBounds_toArray, List.set_cons_zero, List.set_cons_succ, List.getElem_toArray, List.getElem_cons_zero]
  refine wpAnyL_takeS (i := 1) (v := ?_) rfl (by kernel_rfl) (by kernel_rfl) (by kernel_rfl) (by kernel_rfl) (fun _ _ _ h => h) (Or.inl ⟨by rfl, ?_⟩) (by assumption) ?_
  rotate_left 1
  · intro wz _
    go_simp
    all_goals with_reducible rfl
  simp only [Act.put, List.setIfInBounds_toArray, List.set_cons_zero, List.set_cons_succ, List.getElem_toArray, List.getElem_cons_zero, List.getElem_cons_succ]
  refine wpAnyL_takeS (i := 2) (v := ?_) rfl (by kernel_rfl) (by kernel_rfl) (by kernel_rfl) (by kernel_rfl) (fun _ _ _ h => h) (Or.inl ⟨by rfl, ?_⟩) (by assumption) ?_
  rotate_left 1
  · intro wz _
    go_simp
    all_goals with_reducible rfl
  simp only [Act.put, List.setIfInBounds_toArray, List.set_cons_zero, List.set_cons_succ, List.getElem_toArray, List.getElem_cons_zero, List.getElem_cons_succ]
  refine wpAnyL_takeS (i := 3) (v := ?_) rfl (by kernel_rfl) (by kernel_rfl) (by kernel_rfl) (by kernel_rfl) (fun _ _ _ h => h) (Or.inl ⟨by rfl, ?_⟩) (by assumption) ?_
  rotate_left 1
  · intro wz _
    go_simp
    all_goals with_reducible rfl
  simp only [Act.put, List.setIfInBounds_toArray, List.set_cons_zero, List.set_cons_succ, List.getElem_toArray, List.getElem_cons_zero, List.getElem_cons_succ]
  refine wpAnyL_takeS (i := 4) (v := ?_) rfl (by kernel_rfl) (by kernel_rfl) (by kernel_rfl) (by kernel_rfl) (fun _ _ _ h => h) (Or.inl ⟨by rfl, ?_⟩) (by assumption) ?_
  rotate_left 1
  · intro wz _
    go_simp
    all_goals with_reducible rfl
  simp only [Act.put, List.setIfInBounds_toArray, List.set_cons_zero, List.set_cons_succ, List.getElem_toArray, List.getElem_cons_zero, List.getElem_cons_succ]
  refine wpAnyL_take [6, 7] (i := 5) (v := ?_) rfl (by kernel_rfl) (by kernel_rfl) (by kernel_rfl) (by kernel_rfl) (fun _ _ _ h => h) (Or.inl ⟨by rfl, ?_⟩) (by assumption) ?_
  rotate_left 1
  · intro wz sb
    obtain ⟨y0, y1, y2, y3, y4, y5⟩ := HU.out wz sb.2
    go_simp
    all_goals with_reducible rfl
  simp only [Act.put, List.setIfInBounds_toArray, List.set_cons_zero, List.set_cons_succ, List.getElem_toArray, List.getElem_cons_zero, List.getElem_cons_succ]
  refine wpAnyL_takeS (i := 6) (v := ?_) rfl (by kernel_rfl) (by kernel_rfl) (by kernel_rfl) (by kernel_rfl) (fun _ _ _ h => h) (Or.inl ⟨by rfl, ?_⟩) (by assumption) ?_
  rotate_left 1
  · intro wz _
    go_simp
    all_goals with_reducible rfl
  simp only [Act.put, List.setIfInBounds_toArray, List.set_cons_zero, List.set_cons_succ, List.getElem_toArray, List.getElem_cons_zero, List.getElem_cons_succ]
  have hP := HP1.out.below hHeld.2
  have hF := HF1.out.trans (SFr.below hHeld.2)
  have HS := hideIt (psend_any m _ _ _ _ _ _ _ hP.net)
  generalize W1.drew = Y0 at *
  refine wpAnyL_ready (rs := [7]) (by kernel_rfl) (by simp) (AllReadyL.last rfl (by kernel_rfl) (fun Q hQ => ?_) AllReadyL.nil)
  go_simp
  refine HS.out.mono ?_
  clear HS
  rintro e W2 (⟨hfull, rfl, hb2⟩ | ⟨hroom, rfl, v2, ht⟩)
  · have HR : Hid (StTold w0 K P W (sendP P m) W2) := ⟨K, by unfold sendP; rw [if_neg (by omega)]; exact hP.below hb2, hF.trans (SFr.below hb2)⟩
    refine hQ.out _ _ trivial (fun _ => ?_)
    clear hQ Q hP hF hb2 HP1 HF1 HU HM
    refine wpAnyL_done (by kernel_rfl) ?_ _
    go_wp2
    go_end0
    exact ⟨rfl, HR.out⟩
  · obtain ⟨hP2, hF2⟩ := hP.mail ht
    have HR : Hid (StTold w0 K P W (sendP P m) W2) := ⟨_, by unfold sendP; rw [if_pos hroom]; exact hP2, hF.trans hF2⟩
    refine hQ.out _ _ trivial (fun _ => ?_)
    clear hQ Q hP hF ht HP1 HF1 HU HM hP2 hF2
    refine wpAnyL_done (by kernel_rfl) ?_ _
    go_wp2
    go_end0
    exact ⟨rfl, HR.out⟩
end
end Go.Proofs.YtncnojgemmcplaaGreatDoor.St

namespace Go.Proofs.YtncnojgemmcplaaGreatDoor.St.Dc
open Go.RowKit

theorem inforun_appN : (Tryz.prog.info? 110).map (fun i => (i.zero, i.size, i.bytes)) = some (some (Value.agg #[.int .i64 0, .int .i64 0, .int .i64 0, .int .i64 0, .int .i64 0, .int .i64 0, .int .i64 0]), 7, 56) := by kernel_rfl
theorem inforun_appT : (Tryz.prog.info? 61).map (fun i => (i.zero, i.size, i.bytes)) = some (some (Value.agg #[.int .i64 0, .int .i64 0]), 2, 16) := by kernel_rfl
theorem inforun_appL : (Tryz.prog.info? 144).map (fun i => (i.zero, i.size, i.bytes)) = some (some (Value.agg #[.int .i64 0, .int .i64 0, .int .i64 0, .bool false, .int .i64 0, .int .i64 0, .int .i64 0]), 7, 56) := by kernel_rfl
theorem run_appN {w : World} {base B : Nat} {v : Value} {L : List Sn} {e : Sn} {cs : Array Value} (hcs : cs.toList = snC e) (hown : w.ownsRow base 110 7 v L.length (snCs L)) (hB : w.heap[B]? = some (.cells cs 110)) (hb : base ≤ w.heap.size) (hL : L.length ≤ 100000) (ty : TypeId) :
    ∃ v' w', (Builtin.append_ #[55, 55] ty #[v, .slice (some ⟨B, 0, none⟩) 1 1]).run Tryz.prog w = .ok v' w' ∧ w'.ownsRow base 110 7 v' (L ++ [e]).length (snCs (L ++ [e])) ∧ w.grownBy w' v.ownBlock ∧ (v'.ownBlock = v.ownBlock ∨ v'.ownBlock = some w.heap.size) := by
  obtain ⟨i, hi, hz, hsz, hby⟩ := info_parts' inforun_appN
  have hnews : ∀ j u, (snC e)[j]? = some u → w.cell? ((⟨B, 0, none⟩ : Addr).add j) = some u := by
    intro j u hj
    rw [Addr.add_lit, Nat.zero_add, cell_of_row _ _ _ _ 110 _ hB, ← hj, ← hcs]
    simp
  obtain ⟨v', w', hr, ho, hg, _, hob⟩ := run_append_own_at (P := Tryz.prog) (w := w) base 55 ty 110 i _ 7 56 Tryz.underlying55 hi hz hsz hby rfl (by decide) v _ _ hown ⟨B, 0, none⟩ 1 1 (snC e) rfl hnews (by simp [snC, Value.oneCell']) (by unfold maxLen; omega) (by omega) hb
  refine ⟨v', w', hr, ?_, hg, hob⟩
  rw [snCs_app, List.length_append]
  exact ho
theorem run_appT {w : World} {base B : Nat} {v : Value} {L : List Smp} {e : Smp} {cs : Array Value} (hcs : cs.toList = spC e) (hown : w.ownsRow base 61 2 v L.length (spCs L)) (hB : w.heap[B]? = some (.cells cs 61)) (hb : base ≤ w.heap.size) (hL : L.length ≤ 100000) (ty : TypeId) :
    ∃ v' w', (Builtin.append_ #[56, 56] ty #[v, .slice (some ⟨B, 0, none⟩) 1 1]).run Tryz.prog w = .ok v' w' ∧ w'.ownsRow base 61 2 v' (L ++ [e]).length (spCs (L ++ [e])) ∧ w.grownBy w' v.ownBlock ∧ (v'.ownBlock = v.ownBlock ∨ v'.ownBlock = some w.heap.size) := by
  obtain ⟨i, hi, hz, hsz, hby⟩ := info_parts' inforun_appT
  have hnews : ∀ j u, (spC e)[j]? = some u → w.cell? ((⟨B, 0, none⟩ : Addr).add j) = some u := by
    intro j u hj
    rw [Addr.add_lit, Nat.zero_add, cell_of_row _ _ _ _ 61 _ hB, ← hj, ← hcs]
    simp
  obtain ⟨v', w', hr, ho, hg, _, hob⟩ := run_append_own_at (P := Tryz.prog) (w := w) base 56 ty 61 i _ 2 16 Tryz.underlying56 hi hz hsz hby rfl (by decide) v _ _ hown ⟨B, 0, none⟩ 1 1 (spC e) rfl hnews (by simp [spC, Value.oneCell']) (by unfold maxLen; omega) (by omega) hb
  refine ⟨v', w', hr, ?_, hg, hob⟩
  rw [spCs_app, List.length_append]
  exact ho
theorem run_appL {w : World} {base B : Nat} {v : Value} {L : List Ltr} {e : Ltr} {cs : Array Value} (hcs : cs.toList = ltC e) (hown : w.ownsRow base 144 7 v L.length (ltCs L)) (hB : w.heap[B]? = some (.cells cs 144)) (hb : base ≤ w.heap.size) (hL : L.length ≤ 100000) (ty : TypeId) :
    ∃ v' w', (Builtin.append_ #[52, 52] ty #[v, .slice (some ⟨B, 0, none⟩) 1 1]).run Tryz.prog w = .ok v' w' ∧ w'.ownsRow base 144 7 v' (L ++ [e]).length (ltCs (L ++ [e])) ∧ w.grownBy w' v.ownBlock ∧ (v'.ownBlock = v.ownBlock ∨ v'.ownBlock = some w.heap.size) := by
  obtain ⟨i, hi, hz, hsz, hby⟩ := info_parts' inforun_appL
  have hnews : ∀ j u, (ltC e)[j]? = some u → w.cell? ((⟨B, 0, none⟩ : Addr).add j) = some u := by
    intro j u hj
    rw [Addr.add_lit, Nat.zero_add, cell_of_row _ _ _ _ 144 _ hB, ← hj, ← hcs]
    simp
  obtain ⟨v', w', hr, ho, hg, _, hob⟩ := run_append_own_at (P := Tryz.prog) (w := w) base 52 ty 144 i _ 7 56 Tryz.underlying52 hi hz hsz hby rfl (by decide) v _ _ hown ⟨B, 0, none⟩ 1 1 (ltC e) rfl hnews (by simp [ltC, Value.oneCell']) (by unfold maxLen; omega) (by omega) hb
  refine ⟨v', w', hr, ?_, hg, hob⟩
  rw [ltCs_app, List.length_append]
  exact ho
theorem grown_pre {a b c : World} {row : Option Nat} (h : Below a.heap.size a b) (h' : b.grownBy c row) : a.grownBy c row :=
  ⟨h'.os.trans h.os, h'.tape.trans h.tape, h'.output.trans h.output, Nat.le_trans h.size h'.size, fun k hk hne => (h'.block k (Nat.lt_of_lt_of_le hk h.size) hne).trans (h.block k hk)⟩
section
variable {w0 W W' : World} {K : DoK} {S : Sto}
theorem DoR.client (h : DoR w0 W K S) {i : Nat} (hi : i < S.k) : ∃ a c, K.cv i = .slice a (S.cl i).cnt.length c ∧ ∀ Z, Below W.heap.size W Z → (Z.cell? ⟨K.C, i * 11, none⟩ = some (.bool (S.cl i).busy) ∧ Z.cell? ⟨K.C, i * 11 + 1, none⟩ = some (.bool (S.cl i).gone) ∧ Z.cell? ⟨K.C, i * 11 + 2, none⟩ = some (.bool (S.cl i).write) ∧ Z.cell? ⟨K.C, i * 11 + 3, none⟩ = some (.bool (S.cl i).tells) ∧ Z.cell? ⟨K.C, i * 11 + 4, none⟩ = some (.int .i64 (S.cl i).key) ∧ Z.cell? ⟨K.C, i * 11 + 5, none⟩ = some (.int .i64 (S.cl i).value) ∧ Z.cell? ⟨K.C, i * 11 + 6, none⟩ = some (.int .i64 (S.cl i).rd) ∧ Z.cell? ⟨K.C, i * 11 + 7, none⟩ = some (.int .i64 (S.cl i).kept.s.t) ∧ Z.cell? ⟨K.C, i * 11 + 8, none⟩ = some (.int .i64 (S.cl i).kept.s.c) ∧ Z.cell? ⟨K.C, i * 11 + 9, none⟩ = some (.int .i64 (S.cl i).kept.v) ∧ Z.cell? ⟨K.C, i * 11 + 10, none⟩ = some (.slice a (S.cl i).cnt.length c)) := by
  obtain ⟨a, c, e⟩ := ownsRow_slice (h.facts (.cv i) hi)
  refine ⟨a, c, e, fun Z hZ => ?_⟩
  have hx := (((h.below hZ).facts .C trivial).2.1 i hi)
  exact ⟨hx.busy, hx.gone, hx.write, hx.tells, hx.key, hx.value, hx.rd, hx.kept.1, hx.kept.2.1, hx.kept.2.2, by rw [hx.cv, e]⟩
set_option maxRecDepth 100000 in
set_option maxHeartbeats 4000000 in
theorem freeD_any (h : DoR w0 W K S) (hk8 : S.k ≤ 8) (hs : S.seen.length ≤ 1000) (c : Int) : Calls Tryz.prog 14 #[.pointer (some ⟨K.B, 0, none⟩), .int .i64 c] W fun e w' => e = .returned (.int .i64 (freeE S c)) ∧ Below W.heap.size W w' := by
  have c10 := h.cells.2.2.2.2.1
  by_cases h0 : c < 0
  · have g0 : decide (c < 0) = true := decide_eq_true h0
    have HE : Hid (freeE S c = 2) := by show _ = _; unfold freeE; rw [if_pos (.inl h0)]
    generalize freeE S c = r at HE ⊢
    clear h h0
    go_enter Tryz.func14, Tryz.ntmps14
    go_wp2
    go_ret
    exact ⟨by rw [HE.out]; rfl, Below.refl _ _⟩
  have g0 : decide (c < 0) = false := decide_eq_false h0
  by_cases h1 : (S.k : Int) ≤ c
  · have g1 : decide (c ≥ (S.k : Int)) = true := decide_eq_true h1
    have HE : Hid (freeE S c = 2) := by show _ = _; unfold freeE; rw [if_pos (.inr h1)]
    generalize freeE S c = r at HE ⊢
    clear h h0 h1
    go_enter Tryz.func14, Tryz.ntmps14
    go_wp2
    go_ret
    exact ⟨by rw [HE.out]; rfl, Below.refl _ _⟩
  have g1 : decide (c ≥ (S.k : Int)) = false := decide_eq_false h1
  obtain ⟨i, rfl⟩ : ∃ i : Nat, c = i := ⟨c.toNat, by omega⟩
  have hik : i < S.k := by omega
  have hik' : (i : Int) < (S.k : Int) := by omega
  obtain ⟨_, _, _, hcl⟩ := h.client hik
  obtain ⟨b0, b1, _⟩ := hcl W (Below.refl _ _)
  by_cases gb : (S.cl i).busy = true
  · rw [gb] at b0
    have HE : Hid (freeE S (i : Int) = 6) := by show _ = _; unfold freeE; rw [if_neg (by omega), if_pos (.inl gb)]
    generalize freeE S (i : Int) = r at HE ⊢
    clear h h0 h1 hcl b1 gb
    go_enter Tryz.func14, Tryz.ntmps14
    go_wp2
    go_ret
    exact ⟨by rw [HE.out]; rfl, Below.refl _ _⟩
  rw [show (S.cl i).busy = false by simpa using gb] at b0
  by_cases gg : (S.cl i).gone = true
  · rw [gg] at b1
    have HE : Hid (freeE S (i : Int) = 6) := by show _ = _; unfold freeE; rw [if_neg (by omega), if_pos (.inr gg)]
    generalize freeE S (i : Int) = r at HE ⊢
    clear h h0 h1 hcl gg gb
    go_enter Tryz.func14, Tryz.ntmps14
    go_wp2
    go_ret
    exact ⟨by rw [HE.out]; rfl, Below.refl _ _⟩
  rw [show (S.cl i).gone = false by simpa using gg] at b1
  have HE : Hid (freeE S (i : Int) = if 120 < S.seen.length + 2 + busyN S then 4 else 0) := by show _ = _; unfold freeE; rw [if_neg (by omega), if_neg (fun hx => hx.elim gb gg)]
  obtain ⟨va, vc, eve⟩ := ownsRow_slice (h.facts .ve trivial)
  have c11 : W.cell? ⟨K.B, 11, none⟩ = some (.slice va S.seen.length vc) := by rw [← eve]; exact h.cells.2.2.2.2.2.1
  have HX : Hid (∀ j, j < S.k → ∃ a c, ∀ Z, Below W.heap.size W Z → (Z.cell? ⟨K.C, j * 11, none⟩ = some (.bool (S.cl j).busy) ∧ Z.cell? ⟨K.C, j * 11 + 1, none⟩ = some (.bool (S.cl j).gone) ∧ Z.cell? ⟨K.C, j * 11 + 2, none⟩ = some (.bool (S.cl j).write) ∧ Z.cell? ⟨K.C, j * 11 + 3, none⟩ = some (.bool (S.cl j).tells) ∧ Z.cell? ⟨K.C, j * 11 + 4, none⟩ = some (.int .i64 (S.cl j).key) ∧ Z.cell? ⟨K.C, j * 11 + 5, none⟩ = some (.int .i64 (S.cl j).value) ∧ Z.cell? ⟨K.C, j * 11 + 6, none⟩ = some (.int .i64 (S.cl j).rd) ∧ Z.cell? ⟨K.C, j * 11 + 7, none⟩ = some (.int .i64 (S.cl j).kept.s.t) ∧ Z.cell? ⟨K.C, j * 11 + 8, none⟩ = some (.int .i64 (S.cl j).kept.s.c) ∧ Z.cell? ⟨K.C, j * 11 + 9, none⟩ = some (.int .i64 (S.cl j).kept.v) ∧ Z.cell? ⟨K.C, j * 11 + 10, none⟩ = some (.slice a (S.cl j).cnt.length c))) := fun j hj => by
    obtain ⟨a, c, _, hh⟩ := h.client hj
    exact ⟨a, c, hh⟩
  have HBn : Hid (busyN S = (List.range S.k).countP fun (j : Nat) => (S.cl j).busy) := rfl
  have hw2 : IntKind.i64.wrap ((S.seen.length : Int) + 2) = ((S.seen.length + 2 : Nat) : Int) := IntWalk.i64_in _ (by omega)
  generalize freeE S (i : Int) = r at HE ⊢
  generalize busyN S = bn at *
  generalize S.seen.length = L at *
  clear h h0 h1 hcl gb gg eve
  go_enter Tryz.func14, Tryz.ntmps14
  go_wp2
  clear b0 b1 c11 hw2
  go_loopw [48, 5] (fun v cv wr => ∃ j : Nat, j ≤ S.k ∧ v = .int .i64 j ∧ cv = .int .i64 ((L + 2 + ((List.range j).countP fun (q : Nat) => (S.cl q).busy) : Nat) : Int) ∧ Below W.heap.size W wr) (fun v _ _ => S.k - (intOf v).toNat)
  case atStart => exact ⟨0, Nat.zero_le _, rfl, rfl, Below.refl _ _⟩
  case round =>
    obtain ⟨j, hj, rfl, rfl, hb⟩ := hrel
    have HB := hideIt hb
    clear hb
    by_cases hjk : j < S.k
    · have hjk' : (j : Int) < S.k := by omega
      have hcl : ((List.range j).countP fun (q : Nat) => (S.cl q).busy) ≤ 8 := Nat.le_trans List.countP_le_length (by simp; omega)
      have HN : Hid (((List.range (j + 1)).countP fun (q : Nat) => (S.cl q).busy) = ((List.range j).countP fun (q : Nat) => (S.cl q).busy) + if (S.cl j).busy = true then 1 else 0) := by
        show _ = _
        rw [List.range_succ, List.countP_append, List.countP_singleton]
      obtain ⟨ra, rc, hcx⟩ := HX.out j hjk
      obtain ⟨x0, x1, x2, x3, x4, x5, x6, x7, x8, x9, x10⟩ := hcx wr HB.out
      clear hcx
      have HBa : Hid (∀ o, Below W.heap.size W (wr.alloc o)) := fun o => belA HB.out o
      generalize ((List.range j).countP fun (q : Nat) => (S.cl q).busy) = c0 at *
      have hw1 : IntKind.i64.wrap (((L + 2 + c0 : Nat) : Int) + 1) = ((L + 2 + (c0 + 1) : Nat) : Int) := by rw [IntWalk.i64_in _ (by omega)]; omega
      generalize S.cl j = xc at *
      obtain ⟨xb, xg, xw, xt, xk, xv, xr, xh, xn⟩ := xc
      cases xb
      · go_wp2
        go_roundw
        case rel => exact ⟨j + 1, by omega, by go_num, by rw [HN.out]; simp, HBa.out _⟩
        case measure => simp [intOf]; omega
      · go_wp2
        go_roundw
        case rel => exact ⟨j + 1, by omega, by go_num, by rw [HN.out]; simp; omega, HBa.out _⟩
        case measure => simp [intOf]; omega
    · have hjk2 : j = S.k := by omega
      have hnl : ¬ (j : Int) < S.k := by omega
      have HN : Hid (((List.range j).countP fun (q : Nat) => (S.cl q).busy) = bn) := by rw [hjk2]; exact HBn.out.symm
      clear hjk2
      generalize ((List.range j).countP fun (q : Nat) => (S.cl q).busy) = c0 at *
      have hc0 : c0 = bn := HN.out
      subst hc0
      by_cases h12 : 120 < L + 2 + c0
      · have hd : decide (((L + 2 + c0 : Nat) : Int) > 120) = true := decide_eq_true (by omega)
        have hd2 : decide ((L : Int) + 2 + (c0 : Int) > 120) = true := decide_eq_true (by omega)
        have hd3 : (120 : Int) < (L : Int) + 2 + (c0 : Int) := by omega
        have HR : Hid (r = 4) := by show _ = _; rw [HE.out, if_pos h12]
        clear HN HE HBn h12
        go_wp2
        go_ret
        exact ⟨by rw [HR.out]; rfl, HB.out⟩
      · have hd : decide (((L + 2 + c0 : Nat) : Int) > 120) = false := decide_eq_false (by omega)
        have hd2 : decide ((L : Int) + 2 + (c0 : Int) > 120) = false := decide_eq_false (by omega)
        have hd3 : ¬ (120 : Int) < (L : Int) + 2 + (c0 : Int) := by omega
        have HR : Hid (r = 0) := by show _ = _; rw [HE.out, if_neg h12]
        clear HN HE HBn h12
        go_wp2
        go_ret
        exact ⟨by rw [HR.out]; rfl, HB.out⟩
end
end Go.Proofs.YtncnojgemmcplaaGreatDoor.St.Dc
