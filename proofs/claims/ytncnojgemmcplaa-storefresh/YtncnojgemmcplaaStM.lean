/-
  Chapter 17, the program's store, in memory; what turns a part of it.
-/
import Derived.Test.YtncnojgemmcplaaEvp
import Derived.Test.YtncnojgemmcplaaNcP
namespace Go.Proofs.Ytncnojgemmcplaa
open Go.RowKit

def evC (e : Evp) : List Value := [.int .i64 e.p, .int .i64 e.t, .int .i64 e.k, .int .i64 e.d, .int .i64 e.a, .int .i64 e.b, .int .i64 e.r]
def evCs (l : List Evp) : List Value := l.flatMap evC
def spC (s : Smp) : List Value := [.int .i64 s.t, .int .i64 s.c]
def spCs (l : List Smp) : List Value := l.flatMap spC
def intC (l : List Int) : List Value := l.map fun x => .int .i64 x
theorem evCs_app (l : List Evp) (e : Evp) : evCs (l ++ [e]) = evCs l ++ evC e := by simp [evCs]
theorem spCs_app (l : List Smp) (e : Smp) : spCs (l ++ [e]) = spCs l ++ spC e := by simp [spCs]
theorem intC_app (l : List Int) (x : Int) : intC (l ++ [x]) = intC l ++ [.int .i64 x] := by simp [intC]
def EvpAt (w : World) (g o : Nat) (e : Evp) : Prop := w.cell? ⟨g, o, none⟩ = some (.int .i64 e.p) ∧ w.cell? ⟨g, o + 1, none⟩ = some (.int .i64 e.t) ∧ w.cell? ⟨g, o + 2, none⟩ = some (.int .i64 e.k) ∧ w.cell? ⟨g, o + 3, none⟩ = some (.int .i64 e.d) ∧ w.cell? ⟨g, o + 4, none⟩ = some (.int .i64 e.a) ∧ w.cell? ⟨g, o + 5, none⟩ = some (.int .i64 e.b) ∧ w.cell? ⟨g, o + 6, none⟩ = some (.int .i64 e.r)
def HdAt (w : World) (g o : Nat) (h : Hd) : Prop := w.cell? ⟨g, o, none⟩ = some (.int .i64 h.s.t) ∧ w.cell? ⟨g, o + 1, none⟩ = some (.int .i64 h.s.c) ∧ w.cell? ⟨g, o + 2, none⟩ = some (.int .i64 h.v)
/-- A client's thirteen cells. -/
structure ClAt (w : World) (g o : Nat) (x : Pcl) (cv : Value) : Prop where
  at_ : w.cell? ⟨g, o, none⟩ = some (.int .i64 x.at_)
  call : EvpAt w g (o + 1) x.call
  rd : w.cell? ⟨g, o + 8, none⟩ = some (.int .i64 x.rd)
  cv : w.cell? ⟨g, o + 9, none⟩ = some cv
  kept : HdAt w g (o + 10) x.kept
/-- Which blocks and rows the store is made of. -/
structure StK where
  B : Nat
  N : Nat
  C : Nat
  vm : Value
  lv : Value
  ve : Value
  vs : Value
  cv : Nat → Value
def stO (K : StK) (P : Pst) : Obj := .cells #[.int .i64 (P.n : Int), .int .i64 (P.k : Int), .int .i64 (P.ask : Int), .int .i64 (P.tell : Int), .bool P.back, K.vm, K.lv, .slice (some ⟨K.N, 0, none⟩) P.n P.n, .slice (some ⟨K.C, 0, none⟩) P.k P.k, K.ve, K.vs] 59 (0, 0)
/-- Links: nil, or a table. -/
def LkP (W : World) (lv : Value) (nil : Bool) (M : List (List Bool)) : Prop := (nil = true ∧ lv = .slice none 0 0) ∨ (nil = false ∧ LnkT W lv M ∧ ∃ a n c, lv = .slice (some a) n c)
/-- The program's store in memory. -/
structure StoP (w0 W : World) (K : StK) (P : Pst) : Prop where
  bel : Below w0.heap.size w0 W
  blk : W.heap[K.B]? = some (stO K P)
  nb : ∃ cur, W.heap[K.N]? = some (.cells cur 63 (0, 0))
  nx : ∀ i q, i < P.n → q < 8 → HdAt W K.N (i * 24 + q * 3) (P.has i q)
  cb : ∃ cur, W.heap[K.C]? = some (.cells cur 68 (0, 0))
  cx : ∀ i, i < P.k → ClAt W K.C (i * 13) (P.cl i) (K.cv i)
  ml : W.ownsRow w0.heap.size 73 8 K.vm P.mails.length (mqCs P.mails)
  ev : W.ownsRow w0.heap.size 37 7 K.ve P.evs.length (evCs P.evs)
  st : W.ownsRow w0.heap.size 39 2 K.vs P.sts.length (spCs P.sts)
  ct : ∀ i, i < P.k → W.ownsRow w0.heap.size 3 1 (K.cv i) (P.cl i).cnt.length (intC (P.cl i).cnt)
  lk : LkP W K.lv P.nil (tabL (P.n + P.k) P.lr)
  lo : w0.heap.size ≤ K.B ∧ w0.heap.size ≤ K.N ∧ w0.heap.size ≤ K.C
  dc : ∀ i j, i < P.k → j < P.k → i ≠ j → ∀ b, (K.cv i).ownBlock = some b → (K.cv j).ownBlock ≠ some b
def StK.own (K : StK) (k b : Nat) : Prop := b = K.B ∨ b = K.N ∨ b = K.C ∨ K.vm.ownBlock = some b ∨ K.ve.ownBlock = some b ∨ K.vs.ownBlock = some b ∨ ∃ i, i < k ∧ (K.cv i).ownBlock = some b
/-- What is turned lies in the store's own blocks; what is its own behind lay so ahead, or is new. -/
structure SFr (K : StK) (k : Nat) (W W' : World) (K' : StK) : Prop where
  B : K'.B = K.B ∧ K'.N = K.N ∧ K'.C = K.C
  size : W.heap.size ≤ W'.heap.size
  rest : ∀ b, b < W.heap.size → ¬ K.own k b → W'.heap[b]? = W.heap[b]?
  own : ∀ b, K'.own k b → K.own k b ∨ W.heap.size ≤ b
theorem SFr.refl (K : StK) (k : Nat) (W : World) : SFr K k W W K := ⟨⟨rfl, rfl, rfl⟩, Nat.le_refl _, fun _ _ _ => rfl, fun _ h => .inl h⟩
theorem SFr.trans {K K1 K2 : StK} {k : Nat} {W W1 W2 : World} (h1 : SFr K k W W1 K1) (h2 : SFr K1 k W1 W2 K2) : SFr K k W W2 K2 :=
  ⟨⟨h2.B.1.trans h1.B.1, h2.B.2.1.trans h1.B.2.1, h2.B.2.2.trans h1.B.2.2⟩, Nat.le_trans h1.size h2.size, fun b hb hn => (h2.rest b (Nat.lt_of_lt_of_le hb h1.size) (fun ho => (h1.own b ho).elim hn (fun h => by omega))).trans (h1.rest b hb hn), fun b hb => (h2.own b hb).elim (h1.own b) fun h => .inr (Nat.le_trans h1.size h)⟩
theorem SFr.below {K : StK} {k : Nat} {W W' : World} (h : Below W.heap.size W W') : SFr K k W W' K := ⟨⟨rfl, rfl, rfl⟩, h.size, fun b hb _ => h.block b hb, fun _ h => .inl h⟩
section
variable {w0 W W' W1 : World} {K : StK} {P : Pst}
theorem StoP.ltB (h : StoP w0 W K P) : K.B < W.heap.size := lt_of_heap h.blk
theorem StoP.ltN (h : StoP w0 W K P) : K.N < W.heap.size := by obtain ⟨_, e⟩ := h.nb; exact lt_of_heap e
theorem StoP.ltC (h : StoP w0 W K P) : K.C < W.heap.size := by obtain ⟨_, e⟩ := h.cb; exact lt_of_heap e
theorem StoP.tB (h : StoP w0 W K P) : tagD W.heap[K.B]? = 59 + 1 := by rw [h.blk]; rfl
theorem StoP.tN (h : StoP w0 W K P) : tagD W.heap[K.N]? = 63 + 1 := by obtain ⟨_, e⟩ := h.nb; rw [e]; rfl
theorem StoP.tC (h : StoP w0 W K P) : tagD W.heap[K.C]? = 68 + 1 := by obtain ⟨_, e⟩ := h.cb; rw [e]; rfl
theorem StoP.tM (h : StoP w0 W K P) {b : Nat} (hb : K.vm.ownBlock = some b) : tagD W.heap[b]? = 73 + 1 := own_tagD h.ml hb
theorem StoP.tE (h : StoP w0 W K P) {b : Nat} (hb : K.ve.ownBlock = some b) : tagD W.heap[b]? = 37 + 1 := own_tagD h.ev hb
theorem StoP.tS (h : StoP w0 W K P) {b : Nat} (hb : K.vs.ownBlock = some b) : tagD W.heap[b]? = 39 + 1 := own_tagD h.st hb
theorem StoP.tI (h : StoP w0 W K P) {i : Nat} (hi : i < P.k) {b : Nat} (hb : (K.cv i).ownBlock = some b) : tagD W.heap[b]? = 4 := own_tagD (h.ct i hi) hb
theorem StoP.own_lt (h : StoP w0 W K P) {b : Nat} (hb : K.own P.k b) : w0.heap.size ≤ b ∧ b < W.heap.size := by
  rcases hb with rfl | rfl | rfl | hb | hb | hb | ⟨i, hi, hb⟩
  · exact ⟨h.lo.1, h.ltB⟩
  · exact ⟨h.lo.2.1, h.ltN⟩
  · exact ⟨h.lo.2.2, h.ltC⟩
  · have := ownsRow_block h.ml b hb; exact ⟨this.1, this.2.1⟩
  · have := ownsRow_block h.ev b hb; exact ⟨this.1, this.2.1⟩
  · have := ownsRow_block h.st b hb; exact ⟨this.1, this.2.1⟩
  · have := ownsRow_block (h.ct i hi) b hb; exact ⟨this.1, this.2.1⟩
theorem StoP.cells (h : StoP w0 W K P) : (W.cell? ⟨K.B, 0, none⟩ = some (.int .i64 (P.n : Int)) ∧ W.cell? ⟨K.B, 1, none⟩ = some (.int .i64 (P.k : Int)) ∧ W.cell? ⟨K.B, 2, none⟩ = some (.int .i64 (P.ask : Int)) ∧ W.cell? ⟨K.B, 3, none⟩ = some (.int .i64 (P.tell : Int)) ∧ W.cell? ⟨K.B, 4, none⟩ = some (.bool P.back)) ∧ W.cell? ⟨K.B, 5, none⟩ = some K.vm ∧ W.cell? ⟨K.B, 6, none⟩ = some K.lv ∧ W.cell? ⟨K.B, 7, none⟩ = some (.slice (some ⟨K.N, 0, none⟩) P.n P.n) ∧ W.cell? ⟨K.B, 8, none⟩ = some (.slice (some ⟨K.C, 0, none⟩) P.k P.k) ∧ W.cell? ⟨K.B, 9, none⟩ = some K.ve ∧ W.cell? ⟨K.B, 10, none⟩ = some K.vs := by
  have hb := h.blk
  unfold stO at hb
  have hc := fun i => cell_of_row W K.B i _ 59 _ hb
  exact ⟨⟨by rw [hc]; rfl, by rw [hc]; rfl, by rw [hc]; rfl, by rw [hc]; rfl, by rw [hc]; rfl⟩, by rw [hc]; rfl, by rw [hc]; rfl, by rw [hc]; rfl, by rw [hc]; rfl, by rw [hc]; rfl, by rw [hc]; rfl⟩
theorem StoP.fzB (h : StoP w0 W K P) (i : Nat) : W.frozen? ⟨K.B, i, none⟩ = false := frozen_of_row _ _ _ _ 59 h.blk
theorem StoP.fzC (h : StoP w0 W K P) (i : Nat) : W.frozen? ⟨K.C, i, none⟩ = false := by obtain ⟨_, e⟩ := h.cb; exact frozen_of_row _ _ _ _ 68 e
theorem StoP.fzN (h : StoP w0 W K P) (i : Nat) : W.frozen? ⟨K.N, i, none⟩ = false := by obtain ⟨_, e⟩ := h.nb; exact frozen_of_row _ _ _ _ 63 e
/-- The way of the store is a net. -/
theorem StoP.net (h : StoP w0 W K P) : NetP W w0.heap.size K.B 5 K.lv K.vm P.mails :=
  ⟨h.cells.2.1, h.cells.2.2.1, h.fzB 5, h.ml, h.bel.size, fun e => by have := h.tM e; rw [h.tB] at this; cases this⟩
theorem EvpAt.block {w w' : World} {g o : Nat} {e : Evp} (h : EvpAt w g o e) (hb : w'.heap[g]? = w.heap[g]?) : EvpAt w' g o e := by
  obtain ⟨h0, h1, h2, h3, h4, h5, h6⟩ := h
  have hc := fun i => World.cell?_of_block (a := ⟨g, i, none⟩) hb
  exact ⟨(hc _).trans h0, (hc _).trans h1, (hc _).trans h2, (hc _).trans h3, (hc _).trans h4, (hc _).trans h5, (hc _).trans h6⟩
theorem HdAt.block {w w' : World} {g o : Nat} {h : Hd} (hh : HdAt w g o h) (hb : w'.heap[g]? = w.heap[g]?) : HdAt w' g o h := by
  have hc := fun i => World.cell?_of_block (a := ⟨g, i, none⟩) hb
  exact ⟨(hc _).trans hh.1, (hc _).trans hh.2.1, (hc _).trans hh.2.2⟩
theorem ClAt.block {w w' : World} {g o : Nat} {x : Pcl} {cv : Value} (h : ClAt w g o x cv) (hb : w'.heap[g]? = w.heap[g]?) : ClAt w' g o x cv := by
  have hc := fun i => World.cell?_of_block (a := ⟨g, i, none⟩) hb
  exact ⟨(hc _).trans h.at_, h.call.block hb, (hc _).trans h.rd, (hc _).trans h.cv, h.kept.block hb⟩
theorem EvpAt.cells {w w' : World} {g o : Nat} {e : Evp} (h : EvpAt w g o e) (hc : ∀ i, o ≤ i → i < o + 7 → w'.cell? ⟨g, i, none⟩ = w.cell? ⟨g, i, none⟩) : EvpAt w' g o e := by
  obtain ⟨h0, h1, h2, h3, h4, h5, h6⟩ := h
  exact ⟨(hc _ (by omega) (by omega)).trans h0, (hc _ (by omega) (by omega)).trans h1, (hc _ (by omega) (by omega)).trans h2, (hc _ (by omega) (by omega)).trans h3, (hc _ (by omega) (by omega)).trans h4, (hc _ (by omega) (by omega)).trans h5, (hc _ (by omega) (by omega)).trans h6⟩
theorem HdAt.cells {w w' : World} {g o : Nat} {h : Hd} (hh : HdAt w g o h) (hc : ∀ i, o ≤ i → i < o + 3 → w'.cell? ⟨g, i, none⟩ = w.cell? ⟨g, i, none⟩) : HdAt w' g o h :=
  ⟨(hc _ (by omega) (by omega)).trans hh.1, (hc _ (by omega) (by omega)).trans hh.2.1, (hc _ (by omega) (by omega)).trans hh.2.2⟩
theorem ClAt.cells {w w' : World} {g o : Nat} {x : Pcl} {cv : Value} (h : ClAt w g o x cv) (hc : ∀ i, o ≤ i → i < o + 13 → w'.cell? ⟨g, i, none⟩ = w.cell? ⟨g, i, none⟩) : ClAt w' g o x cv :=
  ⟨(hc _ (by omega) (by omega)).trans h.at_, h.call.cells fun i h1 h2 => hc i (by omega) (by omega), (hc _ (by omega) (by omega)).trans h.rd, (hc _ (by omega) (by omega)).trans h.cv, h.kept.cells fun i h1 h2 => hc i (by omega) (by omega)⟩
theorem LkP.keep {lv : Value} {nil : Bool} {M : List (List Bool)} (h : LkP W lv nil M) (hk : ∀ b, LTg W b → W'.heap[b]? = W.heap[b]?) : LkP W' lv nil M := h.imp id fun ⟨e, h1, h2⟩ => ⟨e, h1.keep hk, h2⟩
theorem StoP.ltg (h : StoP w0 W K P) {b : Nat} (hb : LTg W b) : ¬ K.own P.k b := fun ho => by
  rcases ho with rfl | rfl | rfl | ho | ho | ho | ⟨i, hi, ho⟩
  · rcases hb with hb | hb <;> (rw [h.tB] at hb; cases hb)
  · rcases hb with hb | hb <;> (rw [h.tN] at hb; cases hb)
  · rcases hb with hb | hb <;> (rw [h.tC] at hb; cases hb)
  · rcases hb with hb | hb <;> (rw [h.tM ho] at hb; cases hb)
  · rcases hb with hb | hb <;> (rw [h.tE ho] at hb; cases hb)
  · rcases hb with hb | hb <;> (rw [h.tS ho] at hb; cases hb)
  · rcases hb with hb | hb <;> (rw [h.tI hi ho] at hb; cases hb)
/-- What turns no block of it. -/
theorem StoP.keep (h : StoP w0 W K P) (hb : Below w0.heap.size w0 W') (hk : ∀ b, K.own P.k b → W'.heap[b]? = W.heap[b]?) (hl : ∀ b, LTg W b → W'.heap[b]? = W.heap[b]?) : StoP w0 W' K P := by
  obtain ⟨cn, hn⟩ := h.nb
  obtain ⟨cc, hc⟩ := h.cb
  have eN := hk K.N (.inr (.inl rfl))
  have eC := hk K.C (.inr (.inr (.inl rfl)))
  exact ⟨hb, (hk _ (.inl rfl)).trans h.blk, ⟨cn, eN.trans hn⟩, fun i q hi hq => (h.nx i q hi hq).block eN, ⟨cc, eC.trans hc⟩, fun i hi => (h.cx i hi).block eC, ownsRow_same h.ml fun b hb => hk b (.inr (.inr (.inr (.inl hb)))), ownsRow_same h.ev fun b hb => hk b (.inr (.inr (.inr (.inr (.inl hb))))), ownsRow_same h.st fun b hb => hk b (.inr (.inr (.inr (.inr (.inr (.inl hb)))))), fun i hi => ownsRow_same (h.ct i hi) fun b hb => hk b (.inr (.inr (.inr (.inr (.inr (.inr ⟨i, hi, hb⟩)))))), h.lk.keep hl, h.lo, h.dc⟩
theorem StoP.below (h : StoP w0 W K P) (hb : Below W.heap.size W W') : StoP w0 W' K P :=
  h.keep (belJ h.bel hb) (fun b hb' => hb.block b (h.own_lt hb').2) fun b hb' => hb.block b hb'.lt
/-- The rows and blocks that stay where X turns. -/
theorem StoP.parts (h : StoP w0 W K P) {X : Nat → Prop} (hk : ∀ b, b < W.heap.size → ¬ X b → W'.heap[b]? = W.heap[b]?) :
    (¬ X K.N → (∃ cur, W'.heap[K.N]? = some (.cells cur 63 (0, 0))) ∧ ∀ i q, i < P.n → q < 8 → HdAt W' K.N (i * 24 + q * 3) (P.has i q)) ∧
    (¬ X K.C → (∃ cur, W'.heap[K.C]? = some (.cells cur 68 (0, 0))) ∧ ∀ i, i < P.k → ClAt W' K.C (i * 13) (P.cl i) (K.cv i)) ∧
    ((∀ b, K.vm.ownBlock = some b → ¬ X b) → W'.ownsRow w0.heap.size 73 8 K.vm P.mails.length (mqCs P.mails)) ∧
    ((∀ b, K.ve.ownBlock = some b → ¬ X b) → W'.ownsRow w0.heap.size 37 7 K.ve P.evs.length (evCs P.evs)) ∧
    ((∀ b, K.vs.ownBlock = some b → ¬ X b) → W'.ownsRow w0.heap.size 39 2 K.vs P.sts.length (spCs P.sts)) ∧
    (∀ i, i < P.k → (∀ b, (K.cv i).ownBlock = some b → ¬ X b) → W'.ownsRow w0.heap.size 3 1 (K.cv i) (P.cl i).cnt.length (intC (P.cl i).cnt)) ∧
    ((∀ b, LTg W b → ¬ X b) → LkP W' K.lv P.nil (tabL (P.n + P.k) P.lr)) := by
  refine ⟨fun hx => ?_, fun hx => ?_, fun hx => ownsRow_same h.ml fun b hb => hk b (ownsRow_block h.ml b hb).2.1 (hx b hb), fun hx => ownsRow_same h.ev fun b hb => hk b (ownsRow_block h.ev b hb).2.1 (hx b hb), fun hx => ownsRow_same h.st fun b hb => hk b (ownsRow_block h.st b hb).2.1 (hx b hb), fun i hi hx => ownsRow_same (h.ct i hi) fun b hb => hk b (ownsRow_block (h.ct i hi) b hb).2.1 (hx b hb), fun hx => h.lk.keep fun b hb => hk b hb.lt (hx b hb)⟩
  · have e := hk K.N h.ltN hx
    obtain ⟨cur, hc⟩ := h.nb
    exact ⟨⟨cur, e.trans hc⟩, fun i q hi hq => (h.nx i q hi hq).block e⟩
  · have e := hk K.C h.ltC hx
    obtain ⟨cur, hc⟩ := h.cb
    exact ⟨⟨cur, e.trans hc⟩, fun i hi => (h.cx i hi).block e⟩
end
end Go.Proofs.Ytncnojgemmcplaa
