/-
  Chapter 17, the program's store, in memory; what turns a part of it.
  Chapter 17, the document's store, in memory, piece by piece; what turns some of its pieces.
-/
import Derived.Test.YtncnojgemmcplaaGreatDoorEvp
import Derived.Test.YtncnojgemmcplaaGreatDoorNtPZ
import Derived.Test.YtncnojgemmcplaaGreatDoorNtWZ
import Derived.Test.YtncnojgemmcplaaGreatDoorMpKZ
namespace Go.Proofs.YtncnojgemmcplaaGreatDoor.St
open Go.RowKit

def evC (e : Evp) : List Value := [.int .i64 e.p, .int .i64 e.t, .int .i64 e.k, .int .i64 e.d, .int .i64 e.a, .int .i64 e.b, .int .i64 e.r]
def evCs (l : List Evp) : List Value := l.flatMap evC
def spC (s : Smp) : List Value := [.int .i64 s.t, .int .i64 s.c]
def spCs (l : List Smp) : List Value := l.flatMap spC
def intC (l : List Int) : List Value := l.map fun x => .int .i64 x
theorem evCs_app (l : List Evp) (e : Evp) : evCs (l ++ [e]) = evCs l ++ evC e := by simp [evCs]
theorem spCs_app (l : List Smp) (e : Smp) : spCs (l ++ [e]) = spCs l ++ spC e := by simp [spCs]
theorem intC_app (l : List Int) (x : Int) : intC (l ++ [x]) = intC l ++ [.int .i64 x] := by simp [intC]
def EvpAt (w : World) (g o : Nat) (e : Evp) : Prop := w.cell? ⟨g, o, none⟩ = some (.int .i64 e.p) ∧ w.cell? ⟨g, o + 1, none⟩ = some (.int .i64 e.t) ∧ w.cell? ⟨g, o + 2, none⟩ = some (.int .i64 e.k) ∧ w.cell? ⟨g, o + 3, none⟩ = some (.int .i64 e.d) ∧ w.cell? ⟨g, o + 4, none⟩ = some (.int .i64 e.a) ∧ w.cell? ⟨g, o + 5, none⟩ = some (.int .i64 e.b) ∧ w.cell? ⟨g, o + 6, none⟩ = some (.int .i64 e.r)
def HdAt (w : World) (g o : Nat) (h : Hd) : Prop := w.cell? ⟨g, o, none⟩ = some (.int .i64 h.s.t) ∧ w.cell? ⟨g, o + 1, none⟩ = some (.int .i64 h.s.c) ∧ w.cell? ⟨g, o + 2, none⟩ = some (.int .i64 h.v)
/-- A client's thirteen cells. -/
structure ClAt (w : World) (g o : Nat) (x : Pcl) (cv : Value) : Prop where
  at_ : w.cell? ⟨g, o, none⟩ = some (.int .i64 x.at_)
  call : EvpAt w g (o + 1) x.call
  rd : w.cell? ⟨g, o + 8, none⟩ = some (.int .i64 x.rd)
  cv : w.cell? ⟨g, o + 9, none⟩ = some cv
  kept : HdAt w g (o + 10) x.kept
/-- Which blocks and rows the store is made of. -/
structure StK where
  B : Nat
  N : Nat
  C : Nat
  vm : Value
  lv : Value
  ve : Value
  vs : Value
  cv : Nat → Value
def stO (K : StK) (P : Pst) : Obj := .cells #[.int .i64 (P.n : Int), .int .i64 (P.k : Int), .int .i64 (P.ask : Int), .int .i64 (P.tell : Int), .bool P.back, K.vm, K.lv, .slice (some ⟨K.N, 0, none⟩) P.n P.n, .slice (some ⟨K.C, 0, none⟩) P.k P.k, K.ve, K.vs] 81 (0, 0)
/-- Links: nil, or a table. -/
def LkP (W : World) (lv : Value) (nil : Bool) (M : List (List Bool)) : Prop := (nil = true ∧ lv = .slice none 0 0) ∨ (nil = false ∧ LnkT W lv M ∧ ∃ a n c, lv = .slice (some a) n c)
/-- The program's store in memory. -/
structure StoP (w0 W : World) (K : StK) (P : Pst) : Prop where
  bel : Below w0.heap.size w0 W
  blk : W.heap[K.B]? = some (stO K P)
  nb : ∃ cur, W.heap[K.N]? = some (.cells cur 84 (0, 0))
  nx : ∀ i q, i < P.n → q < 8 → HdAt W K.N (i * 24 + q * 3) (P.has i q)
  cb : ∃ cur, W.heap[K.C]? = some (.cells cur 103 (0, 0))
  cx : ∀ i, i < P.k → ClAt W K.C (i * 13) (P.cl i) (K.cv i)
  ml : W.ownsRow w0.heap.size 127 8 K.vm P.mails.length (mqCs P.mails)
  ev : W.ownsRow w0.heap.size 101 7 K.ve P.evs.length (evCs P.evs)
  st : W.ownsRow w0.heap.size 60 2 K.vs P.sts.length (spCs P.sts)
  ct : ∀ i, i < P.k → W.ownsRow w0.heap.size 3 1 (K.cv i) (P.cl i).cnt.length (intC (P.cl i).cnt)
  lk : LkP W K.lv P.nil (tabL (P.n + P.k) P.lr)
  lo : w0.heap.size ≤ K.B ∧ w0.heap.size ≤ K.N ∧ w0.heap.size ≤ K.C
  dc : ∀ i j, i < P.k → j < P.k → i ≠ j → ∀ b, (K.cv i).ownBlock = some b → (K.cv j).ownBlock ≠ some b
def StK.own (K : StK) (k b : Nat) : Prop := b = K.B ∨ b = K.N ∨ b = K.C ∨ K.vm.ownBlock = some b ∨ K.ve.ownBlock = some b ∨ K.vs.ownBlock = some b ∨ ∃ i, i < k ∧ (K.cv i).ownBlock = some b
/-- What is turned lies in the store's own blocks; what is its own behind lay so ahead, or is new. -/
structure SFr (K : StK) (k : Nat) (W W' : World) (K' : StK) : Prop where
  B : K'.B = K.B ∧ K'.N = K.N ∧ K'.C = K.C
  size : W.heap.size ≤ W'.heap.size
  rest : ∀ b, b < W.heap.size → ¬ K.own k b → W'.heap[b]? = W.heap[b]?
  own : ∀ b, K'.own k b → K.own k b ∨ W.heap.size ≤ b
theorem SFr.refl (K : StK) (k : Nat) (W : World) : SFr K k W W K := ⟨⟨rfl, rfl, rfl⟩, Nat.le_refl _, fun _ _ _ => rfl, fun _ h => .inl h⟩
theorem SFr.trans {K K1 K2 : StK} {k : Nat} {W W1 W2 : World} (h1 : SFr K k W W1 K1) (h2 : SFr K1 k W1 W2 K2) : SFr K k W W2 K2 :=
  ⟨⟨h2.B.1.trans h1.B.1, h2.B.2.1.trans h1.B.2.1, h2.B.2.2.trans h1.B.2.2⟩, Nat.le_trans h1.size h2.size, fun b hb hn => (h2.rest b (Nat.lt_of_lt_of_le hb h1.size) (fun ho => (h1.own b ho).elim hn (fun h => by omega))).trans (h1.rest b hb hn), fun b hb => (h2.own b hb).elim (h1.own b) fun h => .inr (Nat.le_trans h1.size h)⟩
theorem SFr.below {K : StK} {k : Nat} {W W' : World} (h : Below W.heap.size W W') : SFr K k W W' K := ⟨⟨rfl, rfl, rfl⟩, h.size, fun b hb _ => h.block b hb, fun _ h => .inl h⟩
section
variable {w0 W W' W1 : World} {K : StK} {P : Pst}
theorem StoP.ltB (h : StoP w0 W K P) : K.B < W.heap.size := lt_of_heap h.blk
theorem StoP.ltN (h : StoP w0 W K P) : K.N < W.heap.size := by obtain ⟨_, e⟩ := h.nb; exact lt_of_heap e
theorem StoP.ltC (h : StoP w0 W K P) : K.C < W.heap.size := by obtain ⟨_, e⟩ := h.cb; exact lt_of_heap e
theorem StoP.tB (h : StoP w0 W K P) : tagD W.heap[K.B]? = 81 + 1 := by rw [h.blk]; rfl
theorem StoP.tN (h : StoP w0 W K P) : tagD W.heap[K.N]? = 84 + 1 := by obtain ⟨_, e⟩ := h.nb; rw [e]; rfl
theorem StoP.tC (h : StoP w0 W K P) : tagD W.heap[K.C]? = 103 + 1 := by obtain ⟨_, e⟩ := h.cb; rw [e]; rfl
theorem StoP.tM (h : StoP w0 W K P) {b : Nat} (hb : K.vm.ownBlock = some b) : tagD W.heap[b]? = 127 + 1 := own_tagD h.ml hb
theorem StoP.tE (h : StoP w0 W K P) {b : Nat} (hb : K.ve.ownBlock = some b) : tagD W.heap[b]? = 101 + 1 := own_tagD h.ev hb
theorem StoP.tS (h : StoP w0 W K P) {b : Nat} (hb : K.vs.ownBlock = some b) : tagD W.heap[b]? = 60 + 1 := own_tagD h.st hb
theorem StoP.tI (h : StoP w0 W K P) {i : Nat} (hi : i < P.k) {b : Nat} (hb : (K.cv i).ownBlock = some b) : tagD W.heap[b]? = 4 := own_tagD (h.ct i hi) hb
theorem StoP.own_lt (h : StoP w0 W K P) {b : Nat} (hb : K.own P.k b) : w0.heap.size ≤ b ∧ b < W.heap.size := by
  rcases hb with rfl | rfl | rfl | hb | hb | hb | ⟨i, hi, hb⟩
  · exact ⟨h.lo.1, h.ltB⟩
  · exact ⟨h.lo.2.1, h.ltN⟩
  · exact ⟨h.lo.2.2, h.ltC⟩
  · have := ownsRow_block h.ml b hb; exact ⟨this.1, this.2.1⟩
  · have := ownsRow_block h.ev b hb; exact ⟨this.1, this.2.1⟩
  · have := ownsRow_block h.st b hb; exact ⟨this.1, this.2.1⟩
  · have := ownsRow_block (h.ct i hi) b hb; exact ⟨this.1, this.2.1⟩
theorem StoP.cells (h : StoP w0 W K P) : (W.cell? ⟨K.B, 0, none⟩ = some (.int .i64 (P.n : Int)) ∧ W.cell? ⟨K.B, 1, none⟩ = some (.int .i64 (P.k : Int)) ∧ W.cell? ⟨K.B, 2, none⟩ = some (.int .i64 (P.ask : Int)) ∧ W.cell? ⟨K.B, 3, none⟩ = some (.int .i64 (P.tell : Int)) ∧ W.cell? ⟨K.B, 4, none⟩ = some (.bool P.back)) ∧ W.cell? ⟨K.B, 5, none⟩ = some K.vm ∧ W.cell? ⟨K.B, 6, none⟩ = some K.lv ∧ W.cell? ⟨K.B, 7, none⟩ = some (.slice (some ⟨K.N, 0, none⟩) P.n P.n) ∧ W.cell? ⟨K.B, 8, none⟩ = some (.slice (some ⟨K.C, 0, none⟩) P.k P.k) ∧ W.cell? ⟨K.B, 9, none⟩ = some K.ve ∧ W.cell? ⟨K.B, 10, none⟩ = some K.vs := by
  have hb := h.blk
  unfold stO at hb
  have hc := fun i => cell_of_row W K.B i _ 81 _ hb
  exact ⟨⟨by rw [hc]; rfl, by rw [hc]; rfl, by rw [hc]; rfl, by rw [hc]; rfl, by rw [hc]; rfl⟩, by rw [hc]; rfl, by rw [hc]; rfl, by rw [hc]; rfl, by rw [hc]; rfl, by rw [hc]; rfl, by rw [hc]; rfl⟩
theorem StoP.fzB (h : StoP w0 W K P) (i : Nat) : W.frozen? ⟨K.B, i, none⟩ = false := frozen_of_row _ _ _ _ 81 h.blk
theorem StoP.fzC (h : StoP w0 W K P) (i : Nat) : W.frozen? ⟨K.C, i, none⟩ = false := by obtain ⟨_, e⟩ := h.cb; exact frozen_of_row _ _ _ _ 103 e
/-- The way of the store is a net. -/
theorem StoP.net (h : StoP w0 W K P) : NetP W w0.heap.size K.B 5 K.lv K.vm P.mails :=
  ⟨h.cells.2.1, h.cells.2.2.1, h.fzB 5, h.ml, h.bel.size, fun e => by have := h.tM e; rw [h.tB] at this; cases this⟩
theorem EvpAt.block {w w' : World} {g o : Nat} {e : Evp} (h : EvpAt w g o e) (hb : w'.heap[g]? = w.heap[g]?) : EvpAt w' g o e := by
  obtain ⟨h0, h1, h2, h3, h4, h5, h6⟩ := h
  have hc := fun i => World.cell?_of_block (a := ⟨g, i, none⟩) hb
  exact ⟨(hc _).trans h0, (hc _).trans h1, (hc _).trans h2, (hc _).trans h3, (hc _).trans h4, (hc _).trans h5, (hc _).trans h6⟩
theorem HdAt.block {w w' : World} {g o : Nat} {h : Hd} (hh : HdAt w g o h) (hb : w'.heap[g]? = w.heap[g]?) : HdAt w' g o h := by
  have hc := fun i => World.cell?_of_block (a := ⟨g, i, none⟩) hb
  exact ⟨(hc _).trans hh.1, (hc _).trans hh.2.1, (hc _).trans hh.2.2⟩
theorem ClAt.block {w w' : World} {g o : Nat} {x : Pcl} {cv : Value} (h : ClAt w g o x cv) (hb : w'.heap[g]? = w.heap[g]?) : ClAt w' g o x cv := by
  have hc := fun i => World.cell?_of_block (a := ⟨g, i, none⟩) hb
  exact ⟨(hc _).trans h.at_, h.call.block hb, (hc _).trans h.rd, (hc _).trans h.cv, h.kept.block hb⟩
theorem EvpAt.cells {w w' : World} {g o : Nat} {e : Evp} (h : EvpAt w g o e) (hc : ∀ i, o ≤ i → i < o + 7 → w'.cell? ⟨g, i, none⟩ = w.cell? ⟨g, i, none⟩) : EvpAt w' g o e := by
  obtain ⟨h0, h1, h2, h3, h4, h5, h6⟩ := h
  exact ⟨(hc _ (by omega) (by omega)).trans h0, (hc _ (by omega) (by omega)).trans h1, (hc _ (by omega) (by omega)).trans h2, (hc _ (by omega) (by omega)).trans h3, (hc _ (by omega) (by omega)).trans h4, (hc _ (by omega) (by omega)).trans h5, (hc _ (by omega) (by omega)).trans h6⟩
theorem HdAt.cells {w w' : World} {g o : Nat} {h : Hd} (hh : HdAt w g o h) (hc : ∀ i, o ≤ i → i < o + 3 → w'.cell? ⟨g, i, none⟩ = w.cell? ⟨g, i, none⟩) : HdAt w' g o h :=
  ⟨(hc _ (by omega) (by omega)).trans hh.1, (hc _ (by omega) (by omega)).trans hh.2.1, (hc _ (by omega) (by omega)).trans hh.2.2⟩
theorem ClAt.cells {w w' : World} {g o : Nat} {x : Pcl} {cv : Value} (h : ClAt w g o x cv) (hc : ∀ i, o ≤ i → i < o + 13 → w'.cell? ⟨g, i, none⟩ = w.cell? ⟨g, i, none⟩) : ClAt w' g o x cv :=
  ⟨(hc _ (by omega) (by omega)).trans h.at_, h.call.cells fun i h1 h2 => hc i (by omega) (by omega), (hc _ (by omega) (by omega)).trans h.rd, (hc _ (by omega) (by omega)).trans h.cv, h.kept.cells fun i h1 h2 => hc i (by omega) (by omega)⟩
theorem LkP.keep {lv : Value} {nil : Bool} {M : List (List Bool)} (h : LkP W lv nil M) (hk : ∀ b, LTg W b → W'.heap[b]? = W.heap[b]?) : LkP W' lv nil M := h.imp id fun ⟨e, h1, h2⟩ => ⟨e, h1.keep hk, h2⟩
theorem StoP.ltg (h : StoP w0 W K P) {b : Nat} (hb : LTg W b) : ¬ K.own P.k b := fun ho => by
  rcases ho with rfl | rfl | rfl | ho | ho | ho | ⟨i, hi, ho⟩
  · rcases hb with hb | hb <;> (rw [h.tB] at hb; cases hb)
  · rcases hb with hb | hb <;> (rw [h.tN] at hb; cases hb)
  · rcases hb with hb | hb <;> (rw [h.tC] at hb; cases hb)
  · rcases hb with hb | hb <;> (rw [h.tM ho] at hb; cases hb)
  · rcases hb with hb | hb <;> (rw [h.tE ho] at hb; cases hb)
  · rcases hb with hb | hb <;> (rw [h.tS ho] at hb; cases hb)
  · rcases hb with hb | hb <;> (rw [h.tI hi ho] at hb; cases hb)
/-- What turns no block of it. -/
theorem StoP.keep (h : StoP w0 W K P) (hb : Below w0.heap.size w0 W') (hk : ∀ b, K.own P.k b → W'.heap[b]? = W.heap[b]?) (hl : ∀ b, LTg W b → W'.heap[b]? = W.heap[b]?) : StoP w0 W' K P := by
  obtain ⟨cn, hn⟩ := h.nb
  obtain ⟨cc, hc⟩ := h.cb
  have eN := hk K.N (.inr (.inl rfl))
  have eC := hk K.C (.inr (.inr (.inl rfl)))
  exact ⟨hb, (hk _ (.inl rfl)).trans h.blk, ⟨cn, eN.trans hn⟩, fun i q hi hq => (h.nx i q hi hq).block eN, ⟨cc, eC.trans hc⟩, fun i hi => (h.cx i hi).block eC, ownsRow_same h.ml fun b hb => hk b (.inr (.inr (.inr (.inl hb)))), ownsRow_same h.ev fun b hb => hk b (.inr (.inr (.inr (.inr (.inl hb))))), ownsRow_same h.st fun b hb => hk b (.inr (.inr (.inr (.inr (.inr (.inl hb)))))), fun i hi => ownsRow_same (h.ct i hi) fun b hb => hk b (.inr (.inr (.inr (.inr (.inr (.inr ⟨i, hi, hb⟩)))))), h.lk.keep hl, h.lo, h.dc⟩
theorem StoP.below (h : StoP w0 W K P) (hb : Below W.heap.size W W') : StoP w0 W' K P :=
  h.keep (belJ h.bel hb) (fun b hb' => hb.block b (h.own_lt hb').2) fun b hb' => hb.block b hb'.lt
/-- The rows and blocks that stay where X turns. -/
theorem StoP.parts (h : StoP w0 W K P) {X : Nat → Prop} (hk : ∀ b, b < W.heap.size → ¬ X b → W'.heap[b]? = W.heap[b]?) :
    (¬ X K.N → (∃ cur, W'.heap[K.N]? = some (.cells cur 84 (0, 0))) ∧ ∀ i q, i < P.n → q < 8 → HdAt W' K.N (i * 24 + q * 3) (P.has i q)) ∧
    (¬ X K.C → (∃ cur, W'.heap[K.C]? = some (.cells cur 103 (0, 0))) ∧ ∀ i, i < P.k → ClAt W' K.C (i * 13) (P.cl i) (K.cv i)) ∧
    ((∀ b, K.vm.ownBlock = some b → ¬ X b) → W'.ownsRow w0.heap.size 127 8 K.vm P.mails.length (mqCs P.mails)) ∧
    ((∀ b, K.ve.ownBlock = some b → ¬ X b) → W'.ownsRow w0.heap.size 101 7 K.ve P.evs.length (evCs P.evs)) ∧
    ((∀ b, K.vs.ownBlock = some b → ¬ X b) → W'.ownsRow w0.heap.size 60 2 K.vs P.sts.length (spCs P.sts)) ∧
    (∀ i, i < P.k → (∀ b, (K.cv i).ownBlock = some b → ¬ X b) → W'.ownsRow w0.heap.size 3 1 (K.cv i) (P.cl i).cnt.length (intC (P.cl i).cnt)) ∧
    ((∀ b, LTg W b → ¬ X b) → LkP W' K.lv P.nil (tabL (P.n + P.k) P.lr)) := by
  refine ⟨fun hx => ?_, fun hx => ?_, fun hx => ownsRow_same h.ml fun b hb => hk b (ownsRow_block h.ml b hb).2.1 (hx b hb), fun hx => ownsRow_same h.ev fun b hb => hk b (ownsRow_block h.ev b hb).2.1 (hx b hb), fun hx => ownsRow_same h.st fun b hb => hk b (ownsRow_block h.st b hb).2.1 (hx b hb), fun i hi hx => ownsRow_same (h.ct i hi) fun b hb => hk b (ownsRow_block (h.ct i hi) b hb).2.1 (hx b hb), fun hx => h.lk.keep fun b hb => hk b hb.lt (hx b hb)⟩
  · have e := hk K.N h.ltN hx
    obtain ⟨cur, hc⟩ := h.nb
    exact ⟨⟨cur, e.trans hc⟩, fun i q hi hq => (h.nx i q hi hq).block e⟩
  · have e := hk K.C h.ltC hx
    obtain ⟨cur, hc⟩ := h.cb
    exact ⟨⟨cur, e.trans hc⟩, fun i hi => (h.cx i hi).block e⟩
end
end Go.Proofs.YtncnojgemmcplaaGreatDoor.St

namespace Go.Proofs.YtncnojgemmcplaaGreatDoor.St.Dc
open Go.RowKit

def ltC (l : Ltr) : List Value := [.int .i64 l.c, .int .i64 l.key, .int .i64 l.rd, .bool l.tells, .int .i64 l.h.s.t, .int .i64 l.h.s.c, .int .i64 l.h.v]
def ltCs (l : List Ltr) : List Value := l.flatMap ltC
theorem ltCs_app (l : List Ltr) (e : Ltr) : ltCs (l ++ [e]) = ltCs l ++ ltC e := by simp [ltCs]
def snC (x : Sn) : List Value := [.int .i64 x.proc, .int .i64 x.typ, .int .i64 x.key, .int .i64 (if x.write then 2 else 1), .int .i64 x.a, .int .i64 0, .int .i64 x.res]
def snCs (l : List Sn) : List Value := l.flatMap snC
theorem snCs_app (l : List Sn) (e : Sn) : snCs (l ++ [e]) = snCs l ++ snC e := by simp [snCs]
def hdV (h : Hd) : Value := .agg #[.int .i64 h.s.t, .int .i64 h.s.c, .int .i64 h.v]
/-- A client's eleven cells. -/
structure DcAt (w : World) (g o : Nat) (x : Cl) (cv : Value) : Prop where
  busy : w.cell? ⟨g, o, none⟩ = some (.bool x.busy)
  gone : w.cell? ⟨g, o + 1, none⟩ = some (.bool x.gone)
  write : w.cell? ⟨g, o + 2, none⟩ = some (.bool x.write)
  tells : w.cell? ⟨g, o + 3, none⟩ = some (.bool x.tells)
  key : w.cell? ⟨g, o + 4, none⟩ = some (.int .i64 x.key)
  value : w.cell? ⟨g, o + 5, none⟩ = some (.int .i64 x.value)
  rd : w.cell? ⟨g, o + 6, none⟩ = some (.int .i64 x.rd)
  kept : HdAt w g (o + 7) x.kept
  cv : w.cell? ⟨g, o + 10, none⟩ = some cv
theorem DcAt.cells {w w' : World} {g o : Nat} {x : Cl} {cv : Value} (h : DcAt w g o x cv) (hc : ∀ i, o ≤ i → i < o + 11 → w'.cell? ⟨g, i, none⟩ = w.cell? ⟨g, i, none⟩) : DcAt w' g o x cv :=
  ⟨(hc _ (by omega) (by omega)).trans h.busy, (hc _ (by omega) (by omega)).trans h.gone, (hc _ (by omega) (by omega)).trans h.write, (hc _ (by omega) (by omega)).trans h.tells, (hc _ (by omega) (by omega)).trans h.key, (hc _ (by omega) (by omega)).trans h.value, (hc _ (by omega) (by omega)).trans h.rd, h.kept.cells fun i h1 h2 => hc i (by omega) (by omega), (hc _ (by omega) (by omega)).trans h.cv⟩
theorem DcAt.block {w w' : World} {g o : Nat} {x : Cl} {cv : Value} (h : DcAt w g o x cv) (hb : w'.heap[g]? = w.heap[g]?) : DcAt w' g o x cv := h.cells fun i _ _ => World.cell?_of_block (a := ⟨g, i, none⟩) hb
/-- Which blocks and rows the store is made of, and what is in some of them. -/
structure DoK where
  B : Nat
  C : Nat
  M : Nat
  vm : Value
  lv : Value
  vl : Value
  ve : Value
  vs : Value
  cv : Nat → Value
  cut : Bool
  LM : List (List Bool)
  L : List Md
  lt : List Ltr
  f : Int → Int → Option Hd
def doO (K : DoK) (S : Sto) : Obj := .cells #[.int .i64 (S.n : Int), .int .i64 (S.k : Int), .int .i64 (S.ask : Int), .int .i64 (S.tell : Int), .bool S.back, .bool K.cut, K.lv, K.vm, K.vl, .map (some K.M), .slice (some ⟨K.C, 0, none⟩) S.k S.k, K.ve, K.vs] 58 (0, 0)
/-- The pieces. -/
inductive Pc where
  | B | C | M | vm | vl | ve | vs
  | cv (i : Nat)
def Pc.ok (k : Nat) : Pc → Prop
  | .cv i => i < k
  | _ => True
def DoK.at (K : DoK) : Pc → Option Nat
  | .B => some K.B
  | .C => some K.C
  | .M => some K.M
  | .vm => K.vm.ownBlock
  | .vl => K.vl.ownBlock
  | .ve => K.ve.ownBlock
  | .vs => K.vs.ownBlock
  | .cv i => (K.cv i).ownBlock
def Pc.tag : Pc → Nat
  | .B => 59
  | .C => 108
  | .M => 0
  | .vm => 141
  | .vl => 145
  | .ve => 111
  | .vs => 62
  | .cv _ => 4
def DFact (w0 W : World) (K : DoK) (S : Sto) : Pc → Prop
  | .B => W.heap[K.B]? = some (doO K S) ∧ w0.heap.size ≤ K.B
  | .C => (∃ cur, W.heap[K.C]? = some (.cells cur 107 (0, 0))) ∧ (∀ i : Nat, i < S.k → DcAt W K.C (i * 11) (S.cl i) (K.cv i)) ∧ w0.heap.size ≤ K.C
  | .M => MapK Tryz.prog 145 hdV W K.M K.f ∧ w0.heap.size ≤ K.M
  | .vm => W.ownsRow w0.heap.size 140 3 K.vm K.L.length (mdCs K.L)
  | .vl => W.ownsRow w0.heap.size 144 7 K.vl K.lt.length (ltCs K.lt)
  | .ve => W.ownsRow w0.heap.size 110 7 K.ve S.seen.length (snCs S.seen)
  | .vs => W.ownsRow w0.heap.size 61 2 K.vs (S.seen.map Sn.at_).length (spCs (S.seen.map Sn.at_))
  | .cv i => W.ownsRow w0.heap.size 3 1 (K.cv i) (S.cl i).cnt.length (intC (S.cl i).cnt)
section
variable {w0 W W' : World} {K K' : DoK} {S S' : Sto}
theorem map_tag {M : Nat} {f : Int → Int → Option Hd} (h : MapK Tryz.prog 145 hdV W M f) : tagD W.heap[M]? = 0 := by
  obtain ⟨D, n, ⟨cur, tg, hh, _⟩, _⟩ := h
  rw [hh]
  rfl
theorem DFact.blk {p : Pc} (h : DFact w0 W K S p) {b : Nat} (hb : K.at p = some b) : w0.heap.size ≤ b ∧ b < W.heap.size ∧ tagD W.heap[b]? = p.tag := by
  have row : ∀ {t size n : Nat} {v : Value} {xs : List Value}, W.ownsRow w0.heap.size t size v n xs → v.ownBlock = some b → w0.heap.size ≤ b ∧ b < W.heap.size ∧ tagD W.heap[b]? = t + 1 := fun hr hv => ⟨(ownsRow_block hr b hv).1, (ownsRow_block hr b hv).2.1, own_tagD hr hv⟩
  cases p with
  | B => cases hb; exact ⟨h.2, lt_of_heap h.1, by rw [h.1]; rfl⟩
  | C => cases hb; obtain ⟨⟨cur, e⟩, _, hl⟩ := h; exact ⟨hl, lt_of_heap e, by rw [e]; rfl⟩
  | M => cases hb; exact ⟨h.2, h.1.lt, map_tag h.1⟩
  | vm => exact row h hb
  | vl => exact row h hb
  | ve => exact row h hb
  | vs => exact row h hb
  | cv i => exact row h hb
theorem DFact.same {p : Pc} (h : DFact w0 W K S p) (hb : ∀ b, K.at p = some b → W'.heap[b]? = W.heap[b]?) : DFact w0 W' K S p := by
  cases p with
  | B => exact ⟨(hb K.B rfl).trans h.1, h.2⟩
  | C => obtain ⟨⟨cur, e⟩, h2, hl⟩ := h; exact ⟨⟨cur, (hb K.C rfl).trans e⟩, fun i hi => (h2 i hi).block (hb K.C rfl), hl⟩
  | M => exact ⟨h.1.block (hb K.M rfl), h.2⟩
  | vm => exact ownsRow_same h hb
  | vl => exact ownsRow_same h hb
  | ve => exact ownsRow_same h hb
  | vs => exact ownsRow_same h hb
  | cv i => exact ownsRow_same h hb
/-- The document's store in memory. -/
structure DoR (w0 W : World) (K : DoK) (S : Sto) : Prop where
  bel : Below w0.heap.size w0 W
  facts : ∀ p : Pc, p.ok S.k → DFact w0 W K S p
  lk : K.cut = true → LnkT W K.lv K.LM
  dc : ∀ i j, i < S.k → j < S.k → i ≠ j → ∀ b, K.at (.cv i) = some b → K.at (.cv j) ≠ some b
/-- Blocks whose tags are the document's alone; those, the map and who was counted are its own. -/
def dtg (W : World) (b : Nat) : Prop := tagD W.heap[b]? ∈ [59, 108, 141, 145, 111, 62]
def DoK.own (K : DoK) (k : Nat) (W : World) (b : Nat) : Prop := dtg W b ∨ b = K.M ∨ ∃ i, i < k ∧ (K.cv i).ownBlock = some b
theorem DoR.tag (h : DoR w0 W K S) {p : Pc} (hp : p.ok S.k) {b : Nat} (hb : K.at p = some b) : tagD W.heap[b]? = p.tag := ((h.facts p hp).blk hb).2.2
theorem DoR.at_own (h : DoR w0 W K S) {p : Pc} (hp : p.ok S.k) {b : Nat} (hb : K.at p = some b) : K.own S.k W b := by
  have ht := h.tag hp hb
  cases p with
  | M => exact .inr (.inl (Option.some.inj hb).symm)
  | cv i => exact .inr (.inr ⟨i, hp, hb⟩)
  | _ => left; unfold dtg; rw [ht]; simp [Pc.tag]
theorem DoR.apart (h : DoR w0 W K S) {p q : Pc} (hp : p.ok S.k) (hq : q.ok S.k) (hne : p ≠ q) {b : Nat} (hb : K.at p = some b) : K.at q ≠ some b := fun he => by
  have h1 := h.tag hp hb
  have h2 := h.tag hq he
  rw [h1] at h2
  cases p <;> cases q <;> first | exact hne rfl | exact h.dc _ _ hp hq (fun e => hne (by rw [e])) b hb he | exact absurd h2 (by simp [Pc.tag])
theorem DoR.ltg (h : DoR w0 W K S) {b : Nat} (hb : LTg W b) : ¬ K.own S.k W b := fun ho => by
  rcases ho with ho | rfl | ⟨i, hi, ho⟩
  · unfold LTg at hb
    unfold dtg at ho
    rcases hb with hb | hb <;> (rw [hb] at ho; simp at ho)
  · have h1 := h.tag (p := .M) trivial rfl
    unfold LTg at hb
    rw [h1] at hb
    rcases hb with hb | hb <;> exact absurd hb (by simp [Pc.tag])
  · have h1 := h.tag (p := .cv i) hi ho
    unfold LTg at hb
    rw [h1] at hb
    rcases hb with hb | hb <;> exact absurd hb (by simp [Pc.tag])
/-- What is turned lies in the store's own blocks; who was counted lay so ahead, or is new. -/
structure DFr (K : DoK) (k : Nat) (W W' : World) (K' : DoK) : Prop where
  fix : K'.B = K.B ∧ K'.C = K.C ∧ K'.M = K.M
  size : W.heap.size ≤ W'.heap.size
  rest : ∀ b, b < W.heap.size → ¬ K.own k W b → W'.heap[b]? = W.heap[b]?
  own : ∀ i b, i < k → (K'.cv i).ownBlock = some b → (∃ j, j < k ∧ (K.cv j).ownBlock = some b) ∨ W.heap.size ≤ b
theorem DFr.refl (K : DoK) (k : Nat) (W : World) : DFr K k W W K := ⟨⟨rfl, rfl, rfl⟩, Nat.le_refl _, fun _ _ _ => rfl, fun i _ hi h => .inl ⟨i, hi, h⟩⟩
theorem DFr.trans {K1 K2 : DoK} {k : Nat} {W1 W2 : World} (h1 : DFr K k W W1 K1) (h2 : DFr K1 k W1 W2 K2) : DFr K k W W2 K2 := by
  refine ⟨⟨h2.fix.1.trans h1.fix.1, h2.fix.2.1.trans h1.fix.2.1, h2.fix.2.2.trans h1.fix.2.2⟩, Nat.le_trans h1.size h2.size, fun b hb hn => ?_, fun i b hi hb => ?_⟩
  · have e := h1.rest b hb hn
    refine (h2.rest b (Nat.lt_of_lt_of_le hb h1.size) fun ho => ?_).trans e
    rcases ho with ho | ho | ⟨i, hi, ho⟩
    · exact hn (.inl (by unfold dtg at ho ⊢; rw [← e]; exact ho))
    · exact hn (.inr (.inl (ho.trans h1.fix.2.2)))
    · rcases h1.own i b hi ho with h | h
      · exact hn (.inr (.inr h))
      · omega
  · rcases h2.own i b hi hb with ⟨j, hj, h⟩ | h
    · exact h1.own j b hj h
    · exact .inr (Nat.le_trans h1.size h)
theorem DFr.below {k : Nat} (h : Below W.heap.size W W') : DFr K k W W' K := ⟨⟨rfl, rfl, rfl⟩, h.size, fun b hb _ => h.block b hb, fun i _ hi h => .inl ⟨i, hi, h⟩⟩
/-- What turns no block of it. -/
theorem DoR.keep (h : DoR w0 W K S) (hb : Below w0.heap.size w0 W') (hk : ∀ (p : Pc) (b : Nat), p.ok S.k → K.at p = some b → W'.heap[b]? = W.heap[b]?) (hl : ∀ b, LTg W b → W'.heap[b]? = W.heap[b]?) : DoR w0 W' K S :=
  ⟨hb, fun p hp => (h.facts p hp).same fun b hb => hk p b hp hb, fun hc => (h.lk hc).keep hl, h.dc⟩
theorem DoR.below (h : DoR w0 W K S) (hb : Below W.heap.size W W') : DoR w0 W' K S :=
  h.keep (belJ h.bel hb) (fun p b hp hb' => hb.block b ((h.facts p hp).blk hb').2.1) fun b hb' => hb.block b hb'.lt
/-- Some pieces are turned: those of Q. -/
theorem DoR.turn (h : DoR w0 W K S) (hk : S'.k = S.k) (Q : Pc → Prop) (hb : Below w0.heap.size w0 W') (hs : W.heap.size ≤ W'.heap.size)
    (hr : ∀ b, b < W.heap.size → (∀ p, Q p → p.ok S.k → K.at p ≠ some b) → W'.heap[b]? = W.heap[b]?)
    (hq : ∀ p, Q p → p.ok S.k → DFact w0 W' K' S' p) (hn : ∀ p, ¬ Q p → p.ok S.k → K'.at p = K.at p ∧ (DFact w0 W' K S p → DFact w0 W' K' S' p))
    (ho : ∀ i, Q (.cv i) → i < S.k → ∀ b, (K'.cv i).ownBlock = some b → (K.cv i).ownBlock = some b ∨ W.heap.size ≤ b) (hone : ∀ i j, Q (.cv i) → Q (.cv j) → i = j)
    (hl : K'.lv = K.lv ∧ K'.cut = K.cut ∧ K'.LM = K.LM) (hfix : K'.B = K.B ∧ K'.C = K.C ∧ K'.M = K.M) : DoR w0 W' K' S' ∧ DFr K S.k W W' K' := by
  have hat : ∀ i, i < S.k → ∀ b, (K'.cv i).ownBlock = some b → (K.cv i).ownBlock = some b ∨ W.heap.size ≤ b := fun i hi b hb => by
    by_cases e : Q (.cv i)
    · exact ho i e hi b hb
    · have := (hn (.cv i) e hi).1
      exact .inl (this.symm.trans hb)
  refine ⟨⟨hb, fun p hp => ?_, fun hc => ?_, fun i j hi hj hij b hbi hbj => ?_⟩, hfix, hs, fun b hb hno => hr b hb fun p _ hp e => hno (h.at_own hp e), fun i b hi he => (hat i hi b he).imp (fun e => ⟨i, hi, e⟩) id⟩
  · rw [hk] at hp
    by_cases e : Q p
    · exact hq p e hp
    · refine (hn p e hp).2 ((h.facts p hp).same fun b hb => hr b ((h.facts p hp).blk hb).2.1 fun q hQ hq' he => ?_)
      exact h.apart hp hq' (fun e' => e (by rw [e']; exact hQ)) hb he
  · rw [hl.1, hl.2.2]
    rw [hl.2.1] at hc
    exact (h.lk hc).keep fun b hb => hr b hb.lt fun p _ hp e => h.ltg hb (h.at_own hp e)
  · rw [hk] at hi hj
    have key : ∀ i j : Nat, i < S.k → j < S.k → i ≠ j → Q (.cv i) → K'.at (.cv i) = some b → K'.at (.cv j) = some b → False := fun i j hi hj hij hQ h1 h2 => by
      have hj' : ¬ Q (.cv j) := fun e => hij (hone i j hQ e)
      rw [(hn _ hj' hj).1] at h2
      rcases hat i hi b h1 with h1 | h1
      · exact h.dc i j hi hj hij b h1 h2
      · have := ((h.facts (.cv j) hj).blk h2).2.1; omega
    by_cases e1 : Q (.cv i)
    · exact key i j hi hj hij e1 hbi hbj
    · by_cases e2 : Q (.cv j)
      · exact key j i hj hi (Ne.symm hij) e2 hbj hbi
      · rw [(hn _ e1 hi).1] at hbi
        rw [(hn _ e2 hj).1] at hbj
        exact h.dc i j hi hj hij b hbi hbj
theorem DoR.cells (h : DoR w0 W K S) : (W.cell? ⟨K.B, 0, none⟩ = some (.int .i64 (S.n : Int)) ∧ W.cell? ⟨K.B, 1, none⟩ = some (.int .i64 (S.k : Int)) ∧ W.cell? ⟨K.B, 2, none⟩ = some (.int .i64 (S.ask : Int)) ∧ W.cell? ⟨K.B, 3, none⟩ = some (.int .i64 (S.tell : Int)) ∧ W.cell? ⟨K.B, 4, none⟩ = some (.bool S.back)) ∧ (W.cell? ⟨K.B, 5, none⟩ = some (.bool K.cut) ∧ W.cell? ⟨K.B, 6, none⟩ = some K.lv ∧ W.cell? ⟨K.B, 7, none⟩ = some K.vm) ∧ W.cell? ⟨K.B, 8, none⟩ = some K.vl ∧ W.cell? ⟨K.B, 9, none⟩ = some (.map (some K.M)) ∧ W.cell? ⟨K.B, 10, none⟩ = some (.slice (some ⟨K.C, 0, none⟩) S.k S.k) ∧ W.cell? ⟨K.B, 11, none⟩ = some K.ve ∧ W.cell? ⟨K.B, 12, none⟩ = some K.vs := by
  have hb := (h.facts .B trivial).1
  unfold doO at hb
  have hc := fun i => cell_of_row W K.B i _ 58 _ hb
  exact ⟨⟨by rw [hc]; rfl, by rw [hc]; rfl, by rw [hc]; rfl, by rw [hc]; rfl, by rw [hc]; rfl⟩, ⟨by rw [hc]; rfl, by rw [hc]; rfl, by rw [hc]; rfl⟩, by rw [hc]; rfl, by rw [hc]; rfl, by rw [hc]; rfl, by rw [hc]; rfl, by rw [hc]; rfl⟩
theorem DoR.fzB (h : DoR w0 W K S) (i : Nat) : W.frozen? ⟨K.B, i, none⟩ = false := frozen_of_row _ _ _ _ 58 (h.facts .B trivial).1
theorem DoR.fzC (h : DoR w0 W K S) (i : Nat) : W.frozen? ⟨K.C, i, none⟩ = false := by obtain ⟨⟨_, e⟩, _⟩ := h.facts .C trivial; exact frozen_of_row _ _ _ _ 107 e
theorem DoR.ltB (h : DoR w0 W K S) : K.B < W.heap.size := lt_of_heap (h.facts .B trivial).1
theorem DoR.ltC (h : DoR w0 W K S) : K.C < W.heap.size := by obtain ⟨⟨_, e⟩, _⟩ := h.facts .C trivial; exact lt_of_heap e
/-- Its net. -/
theorem DoR.net (h : DoR w0 W K S) : NetD W w0.heap.size K.B 5 K.cut K.lv K.vm K.L :=
  ⟨h.cells.2.1.1, h.cells.2.1.2.1, h.cells.2.1.2.2, h.fzB 7, h.facts .vm trivial, h.bel.size, fun e => h.apart (p := .vm) (q := .B) trivial trivial (fun e => by cases e) (b := K.B) e rfl⟩
end
end Go.Proofs.YtncnojgemmcplaaGreatDoor.St.Dc
