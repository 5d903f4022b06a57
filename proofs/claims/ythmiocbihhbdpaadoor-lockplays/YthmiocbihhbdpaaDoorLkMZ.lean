/-
  Chapter 13, the document's run: what its closures work on, in memory.
  The document's run: one is over (its closure end), walked.
  The document's run: what a step of it marks; a plan in memory.
-/
import Derived.Test.YthmiocbihhbdpaaDoorMatPZ
import Derived.Test.YthmiocbihhbdpaaDoorGrMZ
import Derived.Test.YthmiocbihhbdpaaDoorRgLZ
import Derived.Test.YthmiocbihhbdpaaDoorLkPZ
import Derived.Laws.EntriesVeiled
import Derived.Deep.CutBlock
import Derived.Deep.DeepCutAuto
namespace Go.Proofs.YthmiocbihhbdpaaDoor
open Go.RowKit

theorem blk_ne {w : World} {a b : Nat} {c1 c2 : Array Value} {t1 t2 : TypeId} {f1 f2 : Nat × Nat} (h1 : w.heap[a]? = some (.cells c1 t1 f1)) (h2 : w.heap[b]? = some (.cells c2 t2 f2)) (h : t1 ≠ t2) : a ≠ b := fun e => by
  rw [e, h2] at h1
  injection h1 with h1
  injection h1 with _ h1
  exact h h1.symm
theorem RowAt.blk {w : World} {base : Nat} {v : Value} {st : List Int} (h : RowAt w base v st) : ∀ k, v.ownBlock = some k → base ≤ k ∧ k < w.heap.size ∧ ∃ cur, w.heap[k]? = some (.cells cur 3 (0, 0)) := by
  intro k hk
  rcases h with ⟨rfl, _⟩ | ⟨g, off, cap, cur, rfl, hb, hg, _⟩
  · cases hk
  · obtain rfl : g = k := by simpa [Value.ownBlock] using hk
    exact ⟨hb, lt_of_heap hg, cur, hg⟩
theorem RowAt.same_ {w w' : World} {base : Nat} {v : Value} {st : List Int} (h : RowAt w base v st) (hs : ∀ b, v.ownBlock = some b → w'.heap[b]? = w.heap[b]?) : RowAt w' base v st := by
  rcases h with h | ⟨g, off, cap, cur, rfl, hb, hg, h1, h2, h3, h4⟩
  · exact .inl h
  · have e := hs g rfl
    exact .inr ⟨g, off, cap, cur, rfl, hb, e.trans hg, h1, h2, h3, fun j hj => (World.cell?_of_block (a := ⟨g, off + j, none⟩) e).trans (h4 j hj)⟩
/-- A matrix of bools behind an offset: all its rows are laid; all its blocks lie from base on. -/
structure MoAt (w : World) (base B o n : Nat) (rb : Nat → Nat) (M : Nat → Nat → Bool) : Prop where
  blk : ∃ cur, w.heap[B]? = some (.cells cur 52 (0, 0))
  lo : base ≤ B
  head : ∀ i, i < n → w.cell? ⟨B, o + i, none⟩ = some (.slice (some ⟨rb i, 0, none⟩) n n)
  row : ∀ i, i < n → BitsAt w (rb i) n (M i)
  from_ : ∀ i, i < n → base ≤ rb i ∧ rb i ≠ B
  inj : ∀ i j, i < n → j < n → rb i = rb j → i = j
section
variable {w w' : World} {base B o n : Nat} {rb : Nat → Nat} {M : Nat → Nat → Bool}
theorem MoAt.lt (h : MoAt w base B o n rb M) : B < w.heap.size := by
  obtain ⟨cur, hc⟩ := h.blk
  exact lt_of_heap hc
theorem MoAt.fz (h : MoAt w base B o n rb M) (i : Nat) : w.frozen? ⟨B, i, none⟩ = false := by
  obtain ⟨cur, hc⟩ := h.blk
  exact frozen_of_row w B i cur 52 hc
theorem MoAt.blocks (h : MoAt w base B o n rb M) (hB : w'.heap[B]? = w.heap[B]?) (hr : ∀ i, i < n → w'.heap[rb i]? = w.heap[rb i]?) : MoAt w' base B o n rb M := by
  obtain ⟨cur, hc⟩ := h.blk
  exact ⟨⟨cur, hB.trans hc⟩, h.lo, fun i hi => (World.cell?_of_block (a := ⟨B, o + i, none⟩) hB).trans (h.head i hi), fun i hi => (h.row i hi).block (hr i hi), h.from_, h.inj⟩
theorem MoAt.below (h : MoAt w base B o n rb M) (hb : Below w.heap.size w w') : MoAt w' base B o n rb M := h.blocks (hb.block B h.lt) fun i hi => hb.block _ (h.row i hi).lt
theorem MoAt.put (h : MoAt w base B o n rb M) {i k : Nat} (hi : i < n) (hk : k < n) (x : Bool) :
    MoAt (w.setCell ⟨rb i, k, none⟩ (.bool x)) base B o n rb (fun a b => if a = i ∧ b = k then x else M a b) := by
  obtain ⟨cur, hc⟩ := h.blk
  have hne := (h.from_ i hi).2
  refine ⟨⟨cur, (Below.heap_setCell w _ _ B (Ne.symm hne)).trans hc⟩, h.lo, fun j hj => (World.cell?_setCell_other _ _ _ _ (blkNe hne)).trans (h.head j hj), fun j hj => ?_, h.from_, h.inj⟩
  by_cases e : j = i
  · subst e
    exact ((h.row j hj).put hk x).same fun b hb => by simp
  · exact ((h.row j hj).other (p := ⟨rb i, k, none⟩) (fun e' => e (h.inj j i hj hi e')) _).same fun b hb => by simp [e]
/-- Another row in the place of one. -/
theorem MoAt.swap (h : MoAt w base B o n rb M) {t g : Nat} {f : Nat → Bool} (ht : t < n) (hg : BitsAt w g n f) (hb : base ≤ g) (hne : g ≠ B) (hnew : ∀ i, i < n → rb i ≠ g) :
    MoAt (w.setCell ⟨B, o + t, none⟩ (.slice (some ⟨g, 0, none⟩) n n)) base B o n (upd rb t g) (upd M t f) := by
  obtain ⟨cur, hc⟩ := h.blk
  obtain ⟨cur', hc', _⟩ := heap_setCell hc (o + t) (.slice (some ⟨g, 0, none⟩) n n)
  have hs : (w.setCell ⟨B, o + t, none⟩ (.slice (some ⟨g, 0, none⟩) n n)).cell? ⟨B, o + t, none⟩ = some (.slice (some ⟨g, 0, none⟩) n n) := World.cell?_setCell_same _ _ _ (h.head t ht)
  have ho : ∀ i, i ≠ t → (w.setCell ⟨B, o + t, none⟩ (.slice (some ⟨g, 0, none⟩) n n)).cell? ⟨B, o + i, none⟩ = w.cell? ⟨B, o + i, none⟩ := fun i hi => World.cell?_setCell_other _ _ _ _ (offNe (by omega))
  have hk : ∀ b, b ≠ B → (w.setCell ⟨B, o + t, none⟩ (.slice (some ⟨g, 0, none⟩) n n)).heap[b]? = w.heap[b]? := fun b hb => Below.heap_setCell w ⟨B, o + t, none⟩ _ b hb
  refine ⟨⟨cur', hc'⟩, h.lo, fun i hi => ?_, fun i hi => ?_, fun i hi => ?_, fun i j hi hj e => ?_⟩
  · by_cases e : i = t
    · subst e; rw [hs, upd_same]
    · rw [ho i e, upd_ne _ _ e]; exact h.head i hi
  · by_cases e : i = t
    · subst e; rw [upd_same, upd_same]; exact hg.block (hk g hne)
    · rw [upd_ne _ _ e, upd_ne _ _ e]; exact (h.row i hi).block (hk _ (h.from_ i hi).2)
  · by_cases e : i = t
    · subst e; rw [upd_same]; exact ⟨hb, hne⟩
    · rw [upd_ne _ _ e]; exact h.from_ i hi
  · by_cases ei : i = t
    · by_cases ej : j = t
      · rw [ei, ej]
      · rw [ei, upd_same, upd_ne _ _ ej] at e
        exact absurd e.symm (hnew j hj)
    · by_cases ej : j = t
      · rw [ej, upd_same, upd_ne _ _ ei] at e
        exact absurd e (hnew i hi)
      · rw [upd_ne _ _ ei, upd_ne _ _ ej] at e
        exact h.inj i j hi hj e
/-- What blank made. -/
theorem moAt_out {v : Value} {gs : List Nat} (h : OutAt w base n v gs M) (hg : gs.length = n) (hnd : gs.Nodup) (hn : 0 < n) : ∃ B o c, v = .slice (some ⟨B, o, none⟩) n c ∧ n ≤ c ∧ MoAt w base B o n (fun i => gs.getD i 0) M := by
  have hgd : ∀ i, (hi : i < n) → gs.getD i 0 = gs[i]'(by omega) := fun i hi => by rw [List.getD_eq_getElem?_getD, List.getElem?_eq_getElem (by omega)]; rfl
  rcases h.row with ⟨_, e⟩ | ⟨g, off, cap, cur, rfl, hb, hh, h1, h2, h3, h4⟩
  · have : gs.length = 0 := by simpa using congrArg List.length e
    omega
  · have hl : (gs.map fun g => Value.slice (some ⟨g, 0, none⟩) n n).length = n := by simp [hg]
    refine ⟨g, off, cap, by rw [hl], by rw [hl] at h1; exact h1, ⟨cur, hh⟩, hb, fun i hi => ?_, fun i hi => ?_, fun i hi => ?_, fun i j hi hj e => ?_⟩
    · rw [h4 i (by omega), hgd i hi]
      simp
    · rw [hgd i hi]; exact (h.bits i (by omega)).1
    · rw [hgd i hi]
      refine ⟨(h.bits i (by omega)).2.1, fun e => (h.bits i (by omega)).2.2 ?_⟩
      rw [e]; rfl
    · rw [hgd i hi, hgd j hj] at e
      exact (List.getElem_inj hnd).1 e
end
def nilV : Value := .slice none 0 0
def rowV (b n : Nat) : Value := .slice (some ⟨b, 0, none⟩) n n
/-- The boxes and rows of the run: Z: the first block that it made; H: the box of who waits for whom. -/
structure LkM (w0 : World) (H n : Nat) (pv fe : Value) (W : World) (st : LkS) (vd vv : Value) (Bo oB cB : Nat) (rb : Nat → Nat) : Prop where
  bel : Below w0.heap.size w0 W
  hH : w0.heap.size + 9 ≤ H
  bp : W.heap[w0.heap.size]? = some (.cells #[pv] 25 (0, 0))
  rs : W.heap[w0.heap.size + 1]? = some (.cells #[.slice none 0 0, .slice none 0 0, .slice none 0 0] 36 (0, 0))
  bn : W.heap[w0.heap.size + 2]? = some (.cells #[.int .i64 (n : Int)] 3 (0, 0))
  cn : NumsAt W (w0.heap.size + 3) n st.cnt
  bo : W.heap[w0.heap.size + 4]? = some (.cells #[vd, .slice (some ⟨w0.heap.size + 3, 0, none⟩) n n, vv] 36 (0, 0))
  ov : BitsAt W (w0.heap.size + 5) n st.ov
  bv : W.heap[w0.heap.size + 6]? = some (.cells #[.slice (some ⟨w0.heap.size + 5, 0, none⟩) n n] 52 (0, 0))
  ps : NumsAt W (w0.heap.size + 7) n st.pos
  ba : W.heap[w0.heap.size + 8]? = some (.cells #[.slice (some ⟨w0.heap.size + 7, 0, none⟩) n n] 24 (0, 0))
  mt : MoAt W (w0.heap.size + 9) Bo oB n rb st.wt
  hc : n ≤ cB
  bw : W.heap[H]? = some (.cells #[.slice (some ⟨Bo, oB, none⟩) n cB] 53 (0, 0))
  be : W.heap[H + 1]? = some (.cells #[fe] 55 (0, 0))
  dn : W.ownsRow (w0.heap.size + 9) 47 3 vd st.done.length (stpC st.done)
  vc : RowAt W (w0.heap.size + 9) vv (natI st.vic)
section
variable {w0 W W' : World} {H n : Nat} {pv fe vd vv : Value} {st : LkS} {Bo oB cB : Nat} {rb : Nat → Nat}
/-- The boxes that are never turned. -/
def Box7 (z H b : Nat) : Prop := b = z ∨ b = z + 1 ∨ b = z + 2 ∨ b = z + 6 ∨ b = z + 8 ∨ b = H ∨ b = H + 1
theorem LkM.re (h : LkM w0 H n pv fe W st vd vv Bo oB cB rb) {st' : LkS} {vd' vv' : Value} {rb' : Nat → Nat} (hk : ∀ b, Box7 w0.heap.size H b → W'.heap[b]? = W.heap[b]?) (hb : Below w0.heap.size w0 W')
    (cn : NumsAt W' (w0.heap.size + 3) n st'.cnt) (bo : W'.heap[w0.heap.size + 4]? = some (.cells #[vd', .slice (some ⟨w0.heap.size + 3, 0, none⟩) n n, vv'] 36 (0, 0))) (ov : BitsAt W' (w0.heap.size + 5) n st'.ov) (ps : NumsAt W' (w0.heap.size + 7) n st'.pos)
    (mt : MoAt W' (w0.heap.size + 9) Bo oB n rb' st'.wt) (dn : W'.ownsRow (w0.heap.size + 9) 47 3 vd' st'.done.length (stpC st'.done)) (vc : RowAt W' (w0.heap.size + 9) vv' (natI st'.vic)) : LkM w0 H n pv fe W' st' vd' vv' Bo oB cB rb' :=
  ⟨hb, h.hH, (hk _ (.inl rfl)).trans h.bp, (hk _ (.inr (.inl rfl))).trans h.rs, (hk _ (.inr (.inr (.inl rfl)))).trans h.bn, cn, bo, ov, (hk _ (.inr (.inr (.inr (.inl rfl))))).trans h.bv, ps, (hk _ (.inr (.inr (.inr (.inr (.inl rfl)))))).trans h.ba, mt, h.hc,
    (hk _ (.inr (.inr (.inr (.inr (.inr (.inl rfl))))))).trans h.bw, (hk _ (.inr (.inr (.inr (.inr (.inr (.inr rfl))))))).trans h.be, dn, vc⟩
theorem LkM.lt (h : LkM w0 H n pv fe W st vd vv Bo oB cB rb) : H + 1 < W.heap.size := lt_of_heap h.be
theorem LkM.boxLt (h : LkM w0 H n pv fe W st vd vv Bo oB cB rb) {b : Nat} (hb : Box7 w0.heap.size H b) : b < W.heap.size := by
  have h1 := h.lt
  have h2 := h.hH
  rcases hb with rfl | rfl | rfl | rfl | rfl | rfl | rfl <;> omega
/-- What makes memory alone. -/
theorem LkM.below (h : LkM w0 H n pv fe W st vd vv Bo oB cB rb) (hb : Below W.heap.size W W') : LkM w0 H n pv fe W' st vd vv Bo oB cB rb :=
  h.re (fun b hb' => hb.block b (h.boxLt hb')) (belJ h.bel hb) (h.cn.below hb h.cn.lt) ((hb.block _ (lt_of_heap h.bo)).trans h.bo) (h.ov.below hb h.ov.lt) (h.ps.below hb h.ps.lt) (h.mt.below hb)
    (ownsRow_same h.dn fun b hb' => hb.block b (ownsRow_block h.dn b hb').2.1) (h.vc.same_ fun b hb' => hb.block b (h.vc.blk b hb').2.1)
/-- A turned block of numbers lies apart from the boxes. -/
theorem LkM.nums (h : LkM w0 H n pv fe W st vd vv Bo oB cB rb) {z : Nat} (hz : z = w0.heap.size + 3 ∨ z = w0.heap.size + 7) {k : Nat} (v : Value) :
    (∀ b, Box7 w0.heap.size H b → (W.setCell ⟨z, k, none⟩ v).heap[b]? = W.heap[b]?) ∧ Below w0.heap.size w0 (W.setCell ⟨z, k, none⟩ v) ∧ (W.setCell ⟨z, k, none⟩ v).heap[w0.heap.size + 4]? = some (.cells #[vd, .slice (some ⟨w0.heap.size + 3, 0, none⟩) n n, vv] 36 (0, 0)) ∧
      BitsAt (W.setCell ⟨z, k, none⟩ v) (w0.heap.size + 5) n st.ov ∧ MoAt (W.setCell ⟨z, k, none⟩ v) (w0.heap.size + 9) Bo oB n rb st.wt ∧ (W.setCell ⟨z, k, none⟩ v).ownsRow (w0.heap.size + 9) 47 3 vd st.done.length (stpC st.done) ∧ RowAt (W.setCell ⟨z, k, none⟩ v) (w0.heap.size + 9) vv (natI st.vic) := by
  have hH := h.hH
  have hk : ∀ b, b ≠ z → (W.setCell ⟨z, k, none⟩ v).heap[b]? = W.heap[b]? := fun b hb => Below.heap_setCell W ⟨z, k, none⟩ v b hb
  refine ⟨fun b hb => hk b ?_, h.bel.setCell (p := ⟨z, k, none⟩) (by show w0.heap.size ≤ z; omega) v, (hk _ (by omega)).trans h.bo, h.ov.block (hk _ (by omega)), h.mt.blocks (hk _ (by have := h.mt.lo; omega)) (fun i hi => hk _ (by have := (h.mt.from_ i hi).1; omega)),
    ownsRow_same h.dn fun b hb => hk b (by have := (ownsRow_block h.dn b hb).1; omega), h.vc.same_ fun b hb => hk b (by have := (h.vc.blk b hb).1; omega)⟩
  rcases hb with rfl | rfl | rfl | rfl | rfl | rfl | rfl <;> omega
theorem LkM.putC (h : LkM w0 H n pv fe W st vd vv Bo oB cB rb) {t : Nat} (ht : t < n) (x : Nat) : LkM w0 H n pv fe (W.setCell ⟨w0.heap.size + 3, t, none⟩ (.int .i64 (x : Int))) { st with cnt := upd st.cnt t x } vd vv Bo oB cB rb := by
  obtain ⟨k1, k2, k3, k4, k5, k6, k7⟩ := h.nums (.inl rfl) (k := t) (.int .i64 (x : Int))
  exact h.re k1 k2 (h.cn.put ht x) k3 k4 (h.ps.other (p := ⟨w0.heap.size + 3, t, none⟩) (by show w0.heap.size + 7 ≠ w0.heap.size + 3; omega) _) k5 k6 k7
theorem LkM.putP (h : LkM w0 H n pv fe W st vd vv Bo oB cB rb) {t : Nat} (ht : t < n) (x : Nat) : LkM w0 H n pv fe (W.setCell ⟨w0.heap.size + 7, t, none⟩ (.int .i64 (x : Int))) { st with pos := upd st.pos t x } vd vv Bo oB cB rb := by
  obtain ⟨k1, k2, k3, k4, k5, k6, k7⟩ := h.nums (.inr rfl) (k := t) (.int .i64 (x : Int))
  exact h.re k1 k2 (h.cn.other (p := ⟨w0.heap.size + 7, t, none⟩) (by show w0.heap.size + 3 ≠ w0.heap.size + 7; omega) _) k3 k4 (h.ps.put ht x) k5 k6 k7
theorem LkM.putO (h : LkM w0 H n pv fe W st vd vv Bo oB cB rb) {t : Nat} (ht : t < n) (x : Bool) : LkM w0 H n pv fe (W.setCell ⟨w0.heap.size + 5, t, none⟩ (.bool x)) { st with ov := upd st.ov t x } vd vv Bo oB cB rb := by
  have hH := h.hH
  have hk : ∀ b, b ≠ w0.heap.size + 5 → (W.setCell ⟨w0.heap.size + 5, t, none⟩ (.bool x)).heap[b]? = W.heap[b]? := fun b hb => Below.heap_setCell W ⟨w0.heap.size + 5, t, none⟩ _ b hb
  refine h.re (fun b hb => hk b ?_) (h.bel.setCell (p := ⟨w0.heap.size + 5, t, none⟩) (by show w0.heap.size ≤ w0.heap.size + 5; omega) _) (h.cn.block (hk _ (by omega))) ((hk _ (by omega)).trans h.bo) (h.ov.put ht x) (h.ps.block (hk _ (by omega)))
    (h.mt.blocks (hk _ (by have := h.mt.lo; omega)) (fun i hi => hk _ (by have := (h.mt.from_ i hi).1; omega))) (ownsRow_same h.dn fun b hb => hk b (by have := (ownsRow_block h.dn b hb).1; omega)) (h.vc.same_ fun b hb => hk b (by have := (h.vc.blk b hb).1; omega))
  rcases hb with rfl | rfl | rfl | rfl | rfl | rfl | rfl <;> omega
/-- A mark in a row of who waits for whom. -/
theorem LkM.putW (h : LkM w0 H n pv fe W st vd vv Bo oB cB rb) {t k : Nat} (ht : t < n) (hkn : k < n) (x : Bool) : LkM w0 H n pv fe (W.setCell ⟨rb t, k, none⟩ (.bool x)) { st with wt := fun a b => if a = t ∧ b = k then x else st.wt a b } vd vv Bo oB cB rb := by
  have hH := h.hH
  have hb9 := (h.mt.from_ t ht).1
  obtain ⟨cur, hc⟩ := (h.mt.row t ht).blk
  have n1 : H ≠ rb t := blk_ne h.bw hc (by decide)
  have n2 : H + 1 ≠ rb t := blk_ne h.be hc (by decide)
  have hk : ∀ b, b ≠ rb t → (W.setCell ⟨rb t, k, none⟩ (.bool x)).heap[b]? = W.heap[b]? := fun b hb => Below.heap_setCell W ⟨rb t, k, none⟩ _ b hb
  refine h.re (fun b hb => hk b ?_) (h.bel.setCell (p := ⟨rb t, k, none⟩) (by show w0.heap.size ≤ rb t; omega) _) (h.cn.block (hk _ (by omega))) ((hk _ (by omega)).trans h.bo) (h.ov.block (hk _ (by omega))) (h.ps.block (hk _ (by omega)))
    (h.mt.put ht hkn x) (ownsRow_same h.dn fun b hb => hk b ?_) (h.vc.same_ fun b hb => hk b ?_)
  · rcases hb with rfl | rfl | rfl | rfl | rfl | rfl | rfl <;> omega
  · obtain ⟨_, _, c, hc'⟩ := ownsRow_block h.dn b hb
    exact blk_ne hc' hc (by decide)
  · obtain ⟨_, _, c, hc'⟩ := h.vc.blk b hb
    exact blk_ne hc' hc (by decide)
/-- Another row of who waits for whom. -/
theorem LkM.swap (h : LkM w0 H n pv fe W st vd vv Bo oB cB rb) {t g : Nat} {f : Nat → Bool} (ht : t < n) (hg : BitsAt W g n f) (hgn : w0.heap.size + 9 ≤ g) (hnew : ∀ i, i < n → rb i ≠ g) :
    LkM w0 H n pv fe (W.setCell ⟨Bo, oB + t, none⟩ (.slice (some ⟨g, 0, none⟩) n n)) { st with wt := upd st.wt t f } vd vv Bo oB cB (upd rb t g) := by
  have hH := h.hH
  have hlo := h.mt.lo
  obtain ⟨cur, hc⟩ := h.mt.blk
  obtain ⟨cg, hcg⟩ := hg.blk
  have n1 : H ≠ Bo := blk_ne h.bw hc (by decide)
  have n2 : H + 1 ≠ Bo := blk_ne h.be hc (by decide)
  have n3 : g ≠ Bo := blk_ne hcg hc (by decide)
  have hk : ∀ b, b ≠ Bo → (W.setCell ⟨Bo, oB + t, none⟩ (.slice (some ⟨g, 0, none⟩) n n)).heap[b]? = W.heap[b]? := fun b hb => Below.heap_setCell W ⟨Bo, oB + t, none⟩ _ b hb
  refine h.re (fun b hb => hk b ?_) (h.bel.setCell (p := ⟨Bo, oB + t, none⟩) (by show w0.heap.size ≤ Bo; omega) _) (h.cn.block (hk _ (by omega))) ((hk _ (by omega)).trans h.bo) (h.ov.block (hk _ (by omega))) (h.ps.block (hk _ (by omega)))
    (h.mt.swap ht hg hgn n3 hnew) (ownsRow_same h.dn fun b hb => hk b ?_) (h.vc.same_ fun b hb => hk b ?_)
  · rcases hb with rfl | rfl | rfl | rfl | rfl | rfl | rfl <;> omega
  · obtain ⟨_, _, c, hc'⟩ := ownsRow_block h.dn b hb
    exact blk_ne hc' hc (by decide)
  · obtain ⟨_, _, c, hc'⟩ := h.vc.blk b hb
    exact blk_ne hc' hc (by decide)
theorem row3 {W : World} {g : Nat} {t : TypeId} {x y z : Value} (h : W.heap[g]? = some (.cells #[x, y, z] t (0, 0))) (x' : Value) : (W.setCell ⟨g, 0, none⟩ x').heap[g]? = some (.cells #[x', y, z] t (0, 0)) := by
  have := heap_setCell_same W g 0 _ t x' h
  simpa using this
theorem row3c {W : World} {g : Nat} {t : TypeId} {x y z : Value} (h : W.heap[g]? = some (.cells #[x, y, z] t (0, 0))) (z' : Value) : (W.setCell ⟨g, 2, none⟩ z').heap[g]? = some (.cells #[x, y, z'] t (0, 0)) := by
  have := heap_setCell_same W g 2 _ t z' h
  simpa using this
/-- One step more was done. -/
theorem LkM.more (h : LkM w0 H n pv fe W st vd vv Bo oB cB rb) {W1 : World} {vd' : Value} {s : Stp} (ho : W1.ownsRow (w0.heap.size + 9) 47 3 vd' (st.done.length + 1) (stpC (st.done ++ [s]))) (hg : W.grownBy W1 vd.ownBlock) :
    LkM w0 H n pv fe (W1.setCell ⟨w0.heap.size + 4, 0, none⟩ vd') { st with done := st.done ++ [s] } vd' vv Bo oB cB rb := by
  have hH := h.hH
  have hl := h.lt
  have ht : ∀ b, b < W.heap.size → (∃ c u f, W.heap[b]? = some (.cells c u f) ∧ u ≠ 47) → W1.heap[b]? = W.heap[b]? := fun b hb ⟨c, u, f, hc, hu⟩ => hg.block b hb fun e => by
    obtain ⟨_, _, c', hc'⟩ := ownsRow_block h.dn b e.symm
    exact blk_ne hc hc' hu rfl
  have hk : ∀ b, b ≠ w0.heap.size + 4 → b < W.heap.size → (∃ c u f, W.heap[b]? = some (.cells c u f) ∧ u ≠ 47) → (W1.setCell ⟨w0.heap.size + 4, 0, none⟩ vd').heap[b]? = W.heap[b]? := fun b hb hlt hc => (Below.heap_setCell W1 ⟨w0.heap.size + 4, 0, none⟩ _ b hb).trans (ht b hlt hc)
  obtain ⟨c1, hc1⟩ := h.cn.blk
  obtain ⟨c2, hc2⟩ := h.ov.blk
  obtain ⟨c3, hc3⟩ := h.ps.blk
  obtain ⟨c4, hc4⟩ := h.mt.blk
  have hlo := h.mt.lo
  have hsz : W.heap.size ≤ W1.heap.size := hg.size
  have hb1 : Below w0.heap.size w0 W1 := h.bel.grown hg (by have := h.bel.size; omega) (fun k hk => by have := (ownsRow_block h.dn k hk).1; omega)
  refine h.re (fun b hb => ?_) (hb1.setCell (p := ⟨w0.heap.size + 4, 0, none⟩) (by show w0.heap.size ≤ w0.heap.size + 4; omega) _) (h.cn.block (hk _ (by omega) h.cn.lt ⟨_, _, _, hc1, by decide⟩))
    (row3 ((ht _ (lt_of_heap h.bo) ⟨_, _, _, h.bo, by decide⟩).trans h.bo) _) (h.ov.block (hk _ (by omega) h.ov.lt ⟨_, _, _, hc2, by decide⟩)) (h.ps.block (hk _ (by omega) h.ps.lt ⟨_, _, _, hc3, by decide⟩))
    (h.mt.blocks (hk _ (by omega) h.mt.lt ⟨_, _, _, hc4, by decide⟩) fun i hi => ?_) (ownsRow_same (by simpa using ho) fun b hb => Below.heap_setCell W1 ⟨w0.heap.size + 4, 0, none⟩ _ b (by show b ≠ w0.heap.size + 4; have := (ownsRow_block ho b hb).1; omega)) (h.vc.same_ fun b hb => ?_)
  · have hbl := h.boxLt hb
    rcases hb with rfl | rfl | rfl | rfl | rfl | rfl | rfl
    · exact hk _ (by omega) hbl ⟨_, _, _, h.bp, by decide⟩
    · exact hk _ (by omega) hbl ⟨_, _, _, h.rs, by decide⟩
    · exact hk _ (by omega) hbl ⟨_, _, _, h.bn, by decide⟩
    · exact hk _ (by omega) hbl ⟨_, _, _, h.bv, by decide⟩
    · exact hk _ (by omega) hbl ⟨_, _, _, h.ba, by decide⟩
    · exact hk _ (by omega) hbl ⟨_, _, _, h.bw, by decide⟩
    · exact hk _ (by omega) hbl ⟨_, _, _, h.be, by decide⟩
  · obtain ⟨c, hc⟩ := (h.mt.row i hi).blk
    exact hk _ (by have := (h.mt.from_ i hi).1; omega) (h.mt.row i hi).lt ⟨_, _, _, hc, by decide⟩
  · obtain ⟨q1, q2, c, hc⟩ := h.vc.blk b hb
    exact hk b (by omega) q2 ⟨_, _, _, hc, by decide⟩
/-- One more was ended. -/
theorem LkM.vict (h : LkM w0 H n pv fe W st vd vv Bo oB cB rb) {W1 : World} {vv' : Value} {v : Nat} (ht : Turned W (w0.heap.size + 9) vv W1 vv' (natI (st.vic ++ [v]))) :
    LkM w0 H n pv fe (W1.setCell ⟨w0.heap.size + 4, 2, none⟩ vv') { st with vic := st.vic ++ [v] } vd vv' Bo oB cB rb := by
  have hH := h.hH
  have hg := ht.grown
  have hk0 : ∀ b, b < W.heap.size → b < w0.heap.size + 9 → W1.heap[b]? = W.heap[b]? := fun b hb hlt => hg.block b hb fun e => by
    have := (h.vc.blk b e.symm).1
    omega
  have hk1 : ∀ b, b < W.heap.size → (∃ c u f, W.heap[b]? = some (.cells c u f) ∧ u ≠ 3) → W1.heap[b]? = W.heap[b]? := fun b hb ⟨c, u, f, hc, hu⟩ => hg.block b hb fun e => by
    obtain ⟨_, _, c', hc'⟩ := h.vc.blk b e.symm
    exact blk_ne hc hc' hu rfl
  have hs : ∀ b, b ≠ w0.heap.size + 4 → (W1.setCell ⟨w0.heap.size + 4, 2, none⟩ vv').heap[b]? = W1.heap[b]? := fun b hb => Below.heap_setCell W1 ⟨w0.heap.size + 4, 2, none⟩ _ b hb
  have hlo := h.mt.lo
  obtain ⟨c4, hc4⟩ := h.mt.blk
  have hb1 : Below w0.heap.size w0 W1 := h.bel.grown hg (by have := h.bel.size; have := h.lt; omega) (fun k hk => by have := (h.vc.blk k hk).1; omega)
  refine h.re (fun b hb => ?_) (hb1.setCell (p := ⟨w0.heap.size + 4, 2, none⟩) (by show w0.heap.size ≤ w0.heap.size + 4; omega) _) (h.cn.block ((hs _ (by omega)).trans (hk0 _ h.cn.lt (by omega))))
    (row3c ((hk0 _ (lt_of_heap h.bo) (by omega)).trans h.bo) _) (h.ov.block ((hs _ (by omega)).trans (hk0 _ h.ov.lt (by omega)))) (h.ps.block ((hs _ (by omega)).trans (hk0 _ h.ps.lt (by omega))))
    (h.mt.blocks ((hs _ (by omega)).trans (hk1 _ h.mt.lt ⟨_, _, _, hc4, by decide⟩)) fun i hi => ?_) (ownsRow_same h.dn fun b hb => ?_) (ht.row.same_ fun b hb => hs b (by have := (ht.row.blk b hb).1; omega))
  · have hbl := h.boxLt hb
    rcases hb with rfl | rfl | rfl | rfl | rfl | rfl | rfl
    · exact (hs _ (by omega)).trans (hk0 _ hbl (by omega))
    · exact (hs _ (by omega)).trans (hk0 _ hbl (by omega))
    · exact (hs _ (by omega)).trans (hk0 _ hbl (by omega))
    · exact (hs _ (by omega)).trans (hk0 _ hbl (by omega))
    · exact (hs _ (by omega)).trans (hk0 _ hbl (by omega))
    · exact (hs _ (by omega)).trans (hk1 _ hbl ⟨_, _, _, h.bw, by decide⟩)
    · exact (hs _ (by omega)).trans (hk1 _ hbl ⟨_, _, _, h.be, by decide⟩)
  · obtain ⟨c, hc⟩ := (h.mt.row i hi).blk
    exact (hs _ (by have := (h.mt.from_ i hi).1; omega)).trans (hk1 _ (h.mt.row i hi).lt ⟨_, _, _, hc, by decide⟩)
  · obtain ⟨q1, q2, c, hc⟩ := ownsRow_block h.dn b hb
    exact (hs b (by omega)).trans (hk1 b q2 ⟨_, _, _, hc, by decide⟩)
end
end Go.Proofs.YthmiocbihhbdpaaDoor

namespace Go.Proofs.YthmiocbihhbdpaaDoor
open Go.RowKit

theorem below_drew1 (Z : World) : Below Z.heap.size Z Z.drew := (Below.refl _ _).drew
/-- The step's block ahead of the append. -/
theorem app_step {w0 W : World} {H n : Nat} {pv fe vd vv : Value} {st : LkS} {Bo oB cB : Nat} {rb : Nat → Nat} (h : LkM w0 H n pv fe W st vd vv Bo oB cB rb) (hl : st.done.length ≤ 500) (s : Stp) :
    ∃ va vc va' vc' W1, vd = .slice va st.done.length vc ∧ (Builtin.append_ #[27, 27] 27 #[.slice va st.done.length vc, .slice (some ⟨W.heap.size, 0, none⟩) 1 1]).run Tryd.prog (W.alloc (.cells #[.int .i64 s.p, .int .i64 s.k, .int .i64 s.m] 47)) = .ok (.slice va' (st.done.length + 1) vc') W1 ∧
      LkM w0 H n pv fe (W1.setCell ⟨w0.heap.size + 4, 0, none⟩ (.slice va' (st.done.length + 1) vc')) { st with done := st.done ++ [s] } (.slice va' (st.done.length + 1) vc') vv Bo oB cB rb ∧
      W1.heap[w0.heap.size + 4]? = some (.cells #[.slice va st.done.length vc, .slice (some ⟨w0.heap.size + 3, 0, none⟩) n n, vv] 36 (0, 0)) := by
  have hh := h.below (belA (Below.refl _ _) (.cells #[.int .i64 s.p, .int .i64 s.k, .int .i64 s.m] 47))
  have hnew := heap_alloc_new W (.cells #[.int .i64 s.p, .int .i64 s.k, .int .i64 s.m] 47)
  have hSA : StpAt (W.alloc (.cells #[.int .i64 s.p, .int .i64 s.k, .int .i64 s.m] 47)) W.heap.size 0 s :=
    ⟨cell_of_row _ _ _ _ 47 (0, 0) hnew, cell_of_row _ _ _ _ 47 (0, 0) hnew, cell_of_row _ _ _ _ 47 (0, 0) hnew⟩
  have hsz := h.lt
  have hH := h.hH
  obtain ⟨va, vc, rfl⟩ := ownsRow_slice h.dn
  obtain ⟨v', W1, hr, ho, hg, _⟩ := run_appS hh.dn hSA (by simp; omega) (by omega) 27
  obtain ⟨va', vc', rfl⟩ := ownsRow_slice ho
  refine ⟨va, vc, va', vc', W1, rfl, hr, hh.more ho hg, (hg.block _ (lt_of_heap hh.bo) fun e => ?_).trans hh.bo⟩
  obtain ⟨q1, _, _, _⟩ := ownsRow_block hh.dn _ e.symm
  omega

set_option maxRecDepth 100000 in
set_option maxHeartbeats 4000000 in
theorem end_any {w0 W : World} {H n : Nat} {pv fe vd vv : Value} {st : LkS} {Bo oB cB : Nat} {rb : Nat → Nat} (h : LkM w0 H n pv fe W st vd vv Bo oB cB rb) (hn : n ≤ 8) (hl : st.done.length ≤ 500) (t : Nat) (ht : t < n) (kd : Int) :
    Calls Tryd.prog 15 #[.int .i64 (t : Int), .int .i64 kd, .pointer (some ⟨w0.heap.size + 4, 0, none⟩), .pointer (some ⟨w0.heap.size + 6, 0, none⟩), .pointer (some ⟨w0.heap.size + 2, 0, none⟩), .pointer (some ⟨H, 0, none⟩)] W fun e W' =>
      e = .returned (.tuple #[]) ∧ ∃ vd' rb', LkM w0 H n pv fe W' (endS st t kd) vd' vv Bo oB cB rb' := by
  obtain ⟨va, vc, va', vc', W1, rfl, hr, h1, hb1⟩ := app_step h hl ⟨(t : Int), kd, 0⟩
  dsimp only at hr
  have HR := hideIt hr
  have H1 := hideIt h1
  have hsz := h.lt
  have hH := h.hH
  have c0 : W.cell? ⟨w0.heap.size + 4, 0, none⟩ = some (.slice va st.done.length vc) := cell_of_row _ _ _ _ 36 _ h.bo
  have d0 : W1.cell? ⟨w0.heap.size + 4, 0, none⟩ = some (.slice va st.done.length vc) := cell_of_row _ _ _ _ 36 _ hb1
  have d1 : W1.frozen? ⟨w0.heap.size + 4, 0, none⟩ = false := frozen_of_row _ _ _ _ 36 hb1
  have hx1 : ¬ w0.heap.size + 4 = W.heap.size := by omega
  have hx2 : ¬ W.heap.size = w0.heap.size + 4 := by omega
  have hlen : st.done.length ≤ 500 := hl
  clear h hr h1 hb1 hl
  go_enter Tryd.func15, Tryd.ntmps15
  go_upto_region 1 with (at_builtin; refine wpList_append_run _ rfl _ _ 27 rfl _ _ _ W1 rfl rfl HR.out ?_)
  clear HR c0 d0 d1 hx1 hx2
  generalize W1.setCell ⟨w0.heap.size + 4, 0, none⟩ _ = W2 at H1 ⊢
  have e0 : W2.cell? ⟨w0.heap.size + 6, 0, none⟩ = some (.slice (some ⟨w0.heap.size + 5, 0, none⟩) n n) := cell_of_row _ _ _ _ 52 _ H1.out.bv
  have e1 := H1.out.ov.bit t ht
  have e2 := H1.out.ov.fz t
  have H2 := hideIt (H1.out.putO ht true)
  go_upto_region 2 with fail
  clear e0 e1 e2 H1
  generalize W2.setCell ⟨w0.heap.size + 5, t, none⟩ _ = W3 at H2 ⊢
  have f0 : W3.cell? ⟨H, 0, none⟩ = some (.slice (some ⟨Bo, oB, none⟩) n cB) := cell_of_row _ _ _ _ 53 _ H2.out.bw
  have f1 : W3.cell? ⟨w0.heap.size + 2, 0, none⟩ = some (.int .i64 (n : Int)) := cell_of_row _ _ _ _ 3 _ H2.out.bn
  have hcB := H2.out.hc
  have hmk := made_bits W3.drew n (by omega)
  have HA2 := hideIt (H2.out.below (belA (Below.refl _ _) (.cells (madeCells #[.bool false] n) 4)))
  have g0 := HA2.out.mt.head t ht
  have g1 := HA2.out.mt.fz (oB + t)
  have g2 : (W3.alloc (.cells (madeCells #[.bool false] n) 4)).cell? ⟨H, 0, none⟩ = some (.slice (some ⟨Bo, oB, none⟩) n cB) := cell_of_row _ _ _ _ 53 _ HA2.out.bw
  have HF : Hid (LkM w0 H n pv fe ((W3.alloc (.cells (madeCells #[.bool false] n) 4)).setCell ⟨Bo, oB + t, none⟩ (.slice (some ⟨W3.heap.size, 0, none⟩) n n)).drew (endS st t kd) (.slice va' (st.done.length + 1) vc') vv Bo oB cB (upd rb t W3.heap.size)) := by
    have hlt := H2.out.lt
    have hh : w0.heap.size + 9 ≤ H := hH
    have hb := bits_made W3 n
    exact (HA2.out.swap ht hb (by omega) (fun i hi => by
      have := (H2.out.mt.row i hi).lt
      exact Nat.ne_of_lt this)).below (below_drew1 _)
  have hb1 := H2.out.mt.lt
  have hx1 : ¬ Bo = W3.heap.size := by omega
  have hx2 : ¬ W3.heap.size = Bo := by omega
  clear HA2 H2 hb1
  go_region
  all_goals go_wp2
  all_goals go_end0
  all_goals exact ⟨rfl, _, _, HF.out⟩
end Go.Proofs.YthmiocbihhbdpaaDoor

namespace Go.Proofs.YthmiocbihhbdpaaDoor
open Go.RowKit

theorem cellA {w : World} {o : Obj} {p : Addr} {x : Value} (h : w.cell? p = some x) : (w.alloc o).cell? p = some x := by
  rw [World.cell?_alloc_lt _ _ p (World.block_lt_of_cell? w _ h)]
  exact h
/-- A plan that came in: none, or in memory. -/
def PlQ (w : World) (a : Option Addr) (p : List (List Stp)) : Prop := p = [] ∨ ∃ b off, a = some ⟨b, off, none⟩ ∧ b < w.heap.size ∧ ∀ k (h : k < p.length), ∃ ra rc, w.cell? ⟨b, off + k, none⟩ = some (.slice ra p[k].length rc) ∧ p[k].length ≤ rc ∧ p[k].length ≤ maxLen ∧ StpsQ w ra p[k]
theorem PlQ.below {w w' : World} {a : Option Addr} {p : List (List Stp)} (h : PlQ w a p) (hb : Below w.heap.size w w') : PlQ w' a p := by
  rcases h with h | ⟨b, off, rfl, hlt, h⟩
  · exact .inl h
  · refine .inr ⟨b, off, rfl, Nat.lt_of_lt_of_le hlt hb.size, fun k hk => ?_⟩
    obtain ⟨ra, rc, h1, h2, h3, h4⟩ := h k hk
    exact ⟨ra, rc, (hb.cell (p := ⟨b, off + k, none⟩) hlt).trans h1, h2, h3, h4.below hb⟩
theorem plN_at {p : List (List Stp)} {t : Nat} (h : t < p.length) : plN p t = p[t] := by
  unfold plN
  rw [List.getD_eq_getElem?_getD, List.getElem?_eq_getElem h]
  rfl
theorem PlQ.at {w : World} {a : Option Addr} {p : List (List Stp)} (h : PlQ w a p) {t : Nat} (ht : t < p.length) : ∃ b off ra rc, a = some ⟨b, off, none⟩ ∧ b < w.heap.size ∧ w.cell? ⟨b, off + t, none⟩ = some (.slice ra (plN p t).length rc) ∧ (plN p t).length ≤ rc ∧ (plN p t).length ≤ maxLen ∧ StpsQ w ra (plN p t) := by
  rcases h with h | ⟨b, off, rfl, hlt, h⟩
  · subst h; simp at ht
  · obtain ⟨ra, rc, h1, h2, h3, h4⟩ := h t ht
    rw [plN_at ht]
    exact ⟨b, off, ra, rc, rfl, hlt, h1, h2, h3, h4⟩
def clrS (st : LkS) (t : Nat) : LkS := { st with wt := upd st.wt t fun _ => false }
theorem upd_upd {α : Type} (f : Nat → α) (t : Nat) (x y : α) : upd (upd f t x) t y = upd f t y := by
  funext k
  unfold upd
  split <;> rfl
theorem clr_end (st : LkS) (t : Nat) (kd : Int) : endS (clrS st t) t kd = endS st t kd := by
  unfold endS clrS
  rw [upd_upd]
section
variable {w0 W W' : World} {H n : Nat} {pv fe vd vv : Value} {st : LkS} {Bo oB cB : Nat} {rb : Nat → Nat}
theorem LkM.eq (h : LkM w0 H n pv fe W st vd vv Bo oB cB rb) {st' : LkS} (e : st = st') : LkM w0 H n pv fe W st' vd vv Bo oB cB rb := e ▸ h
theorem LkM.clr (h : LkM w0 H n pv fe W st vd vv Bo oB cB rb) {t : Nat} (ht : t < n) :
    W.cell? ⟨H, 0, none⟩ = some (.slice (some ⟨Bo, oB, none⟩) n cB) ∧ W.cell? ⟨w0.heap.size + 2, 0, none⟩ = some (.int .i64 (n : Int)) ∧ (∃ u, (W.alloc (.cells (madeCells #[.bool false] n) 4)).cell? ⟨Bo, oB + t, none⟩ = some (.slice (some ⟨u, 0, none⟩) n n)) ∧ (W.alloc (.cells (madeCells #[.bool false] n) 4)).frozen? ⟨Bo, oB + t, none⟩ = false ∧
      (W.alloc (.cells (madeCells #[.bool false] n) 4)).cell? ⟨H, 0, none⟩ = some (.slice (some ⟨Bo, oB, none⟩) n cB) ∧
      LkM w0 H n pv fe ((W.alloc (.cells (madeCells #[.bool false] n) 4)).setCell ⟨Bo, oB + t, none⟩ (.slice (some ⟨W.heap.size, 0, none⟩) n n)).drew (clrS st t) vd vv Bo oB cB (upd rb t W.heap.size) ∧ ¬ Bo = W.heap.size ∧ ¬ W.heap.size = Bo := by
  have h2 := h.below (belA (Below.refl _ _) (.cells (madeCells #[.bool false] n) 4))
  have hlt := h.lt
  have hH := h.hH
  have hb := h.mt.lt
  exact ⟨cell_of_row _ _ _ _ 53 _ h.bw, cell_of_row _ _ _ _ 3 _ h.bn, ⟨_, h2.mt.head t ht⟩, h2.mt.fz (oB + t), cell_of_row _ _ _ _ 53 _ h2.bw, (h2.swap ht (bits_made W n) (by omega) (fun i hi => Nat.ne_of_lt (h.mt.row i hi).lt)).below (below_drew1 _), by omega, by omega⟩
end
/-- Does one that was done stand against a step? -/
def cnd (st : LkS) (t : Nat) (s d : Stp) : Bool := decide (d.p ≠ (t : Int)) && !st.ov d.p.toNat && agB d s
def agK (st : LkS) (t : Nat) (s : Stp) (k u : Nat) : Bool := (st.done.take k).any fun d => d.p == (u : Int) && cnd st t s d
def blK (st : LkS) (t : Nat) (s : Stp) (k : Nat) : Bool := (st.done.take k).any (cnd st t s)
theorem take_one {st : LkS} {k : Nat} (hk : k < st.done.length) : st.done.take (k + 1) = st.done.take k ++ [stZ st.done k] := by
  rw [List.take_add_one, List.getElem?_eq_getElem hk, stZ_at hk]
  rfl
theorem agK_succ {st : LkS} {t : Nat} {s : Stp} {k : Nat} (hk : k < st.done.length) (u : Nat) : agK st t s (k + 1) u = (agK st t s k u || ((stZ st.done k).p == (u : Int) && cnd st t s (stZ st.done k))) := by
  unfold agK
  rw [take_one hk, List.any_append]
  simp
theorem blK_succ {st : LkS} {t : Nat} {s : Stp} {k : Nat} (hk : k < st.done.length) : blK st t s (k + 1) = (blK st t s k || cnd st t s (stZ st.done k)) := by
  unfold blK
  rw [take_one hk, List.any_append]
  simp
theorem agK_all (st : LkS) (t : Nat) (s : Stp) : agK st t s st.done.length = agst st t s := by
  funext u
  unfold agK agst
  rw [List.take_length]
  refine List.any_congr rfl fun d => ?_
  unfold cnd
  by_cases h : d.p = (u : Int)
  · have e1 : d.p.toNat = u := by omega
    rw [e1]
    have e2 : decide (d.p ≠ (t : Int)) = decide (u ≠ t) := by
      rw [decide_eq_decide]
      omega
    rw [e2]
    simp [h]
  · rw [show (d.p == (u : Int)) = false by simpa using h]
    rfl
theorem blK_all {st : LkS} {n : Nat} (hd : ∀ i, i < st.done.length → ∃ t : Nat, t < n ∧ (stZ st.done i).p = (t : Int)) (t : Nat) (s : Stp) : blK st t s st.done.length = (List.range n).any (agst st t s) := by
  rw [← agK_all, Bool.eq_iff_iff]
  unfold blK agK
  rw [List.take_length, List.any_eq_true, List.any_eq_true]
  constructor
  · rintro ⟨d, hm, hc⟩
    obtain ⟨i, hi, rfl⟩ := List.getElem_of_mem hm
    obtain ⟨u, hu, e⟩ := hd i hi
    rw [stZ_at hi] at e
    exact ⟨u, List.mem_range.2 hu, List.any_eq_true.2 ⟨_, hm, by rw [hc]; simp [e]⟩⟩
  · rintro ⟨u, _, h⟩
    obtain ⟨d, hm, hc⟩ := List.any_eq_true.1 h
    rw [Bool.and_eq_true] at hc
    exact ⟨d, hm, hc.2⟩
def mkS (st : LkS) (t : Nat) (s : Stp) (k : Nat) : LkS := { st with wt := upd st.wt t (agK st t s k) }
theorem mkS_zero (st : LkS) (t : Nat) (s : Stp) : mkS st t s 0 = clrS st t := rfl
theorem mkS_no {st : LkS} {t : Nat} {s : Stp} {k : Nat} (hk : k < st.done.length) (hc : cnd st t s (stZ st.done k) = false) : mkS st t s (k + 1) = mkS st t s k := by
  unfold mkS
  congr 2
  funext u
  rw [agK_succ hk, hc]
  simp
theorem mkS_yes {st : LkS} {t : Nat} {s : Stp} {k u : Nat} (hk : k < st.done.length) (hc : cnd st t s (stZ st.done k) = true) (hu : (stZ st.done k).p = (u : Int)) : { mkS st t s k with wt := fun a b => if a = t ∧ b = u then true else (mkS st t s k).wt a b } = mkS st t s (k + 1) := by
  have e : (fun a b => if a = t ∧ b = u then true else upd st.wt t (agK st t s k) a b) = upd st.wt t (agK st t s (k + 1)) := by
    funext a b
    by_cases ea : a = t
    · subst ea
      rw [upd_same, upd_same, agK_succ hk, hc, hu]
      by_cases eb : b = u
      · subst eb; simp
      · have : ¬ (u : Int) = (b : Int) := by omega
        simp [eb, this]
    · rw [upd_ne _ _ ea, upd_ne _ _ ea]
      simp [ea]
  show LkS.mk st.done st.ov st.pos (fun a b => if a = t ∧ b = u then true else upd st.wt t (agK st t s k) a b) st.cnt st.vic = LkS.mk st.done st.ov st.pos (upd st.wt t (agK st t s (k + 1))) st.cnt st.vic
  rw [e]
theorem mkS_done (st : LkS) (t : Nat) (s : Stp) : { mkS st t s st.done.length with cnt := upd st.cnt t (st.cnt t + 1) } = waS st t s := by
  unfold mkS waS
  rw [agK_all]
theorem go_do {p : List (List Stp)} {n : Nat} {st : LkS} {t : Nat} (ho : st.ov t = false) (hp : ¬ st.pos t = (plN p t).length) (ha : (List.range n).any (agst st t (nxS p st t)) = false) : goS p n st t = doS st t (nxS p st t) := by
  unfold goS
  rw [if_neg (by rw [ho]; simp), if_neg hp, if_pos ha]
theorem go_wait {p : List (List Stp)} {n : Nat} {st : LkS} {t : Nat} (ho : st.ov t = false) (hp : ¬ st.pos t = (plN p t).length) (ha : (List.range n).any (agst st t (nxS p st t)) = true) (hw : war (waS st t (nxS p st t)).wt n t t = false) : goS p n st t = waS st t (nxS p st t) := by
  unfold goS
  rw [if_neg (by rw [ho]; simp), if_neg hp, if_neg (by rw [ha]; simp), if_neg (by rw [hw]; simp)]
theorem go_vic {p : List (List Stp)} {n : Nat} {st : LkS} {t v : Nat} (ho : st.ov t = false) (hp : ¬ st.pos t = (plN p t).length) (ha : (List.range n).any (agst st t (nxS p st t)) = true) (hw : war (waS st t (nxS p st t)).wt n t t = true) (hv : lastN (onB (waS st t (nxS p st t)) n t) n = some v) : goS p n st t = viS (waS st t (nxS p st t)) v := by
  unfold goS
  rw [if_neg (by rw [ho]; simp), if_neg hp, if_neg (by rw [ha]; simp), if_pos hw, hv]
theorem mkS_none {st : LkS} {t : Nat} {s : Stp} (h : blK st t s st.done.length = false) : mkS st t s st.done.length = clrS st t := by
  unfold mkS clrS
  congr 2
  funext u
  cases e : agK st t s st.done.length u
  · rfl
  · exfalso
    unfold agK at e
    obtain ⟨d, hm, hc⟩ := List.any_eq_true.1 e
    rw [Bool.and_eq_true] at hc
    unfold blK at h
    rw [List.any_eq_true.2 ⟨d, hm, hc.2⟩] at h
    cases h
theorem onB_at (st : LkS) (n t v : Nat) : onB st n t v = (war st.wt n t v && war st.wt n v t) := rfl
end Go.Proofs.YthmiocbihhbdpaaDoor
