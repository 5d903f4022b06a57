/-
  Chapter 14, the document's base, in memory.
  Chapter 14, the document's base: what turns a part of it.
  Chapter 14, the program's base, in memory; what turns a part of it.
-/
import Derived.Test.YtaopigjhdkdklaaDoorMvB
import Derived.Test.YtaopigjhdkdklaaDoorMvPZ
import Derived.Test.YtaopigjhdkdklaaDoorJoM
namespace Go.Proofs.YtaopigjhdkdklaaDoor
open Go.RowKit

def numD (l : List Nat) : List Value := l.map fun q : Nat => Value.int .i64 (q : Int)
def timC (n : Nat) (f : Nat → Int) : List Value := (List.range n).map fun t => Value.int .i64 (f t)
def tagD : Option Obj → Nat
  | some (.cells _ t _) => t + 1
  | _ => 0
theorem ne_tagD {W : World} {a b x y : Nat} (ha : tagD W.heap[a]? = x) (hb : tagD W.heap[b]? = y) (h : x ≠ y) : a ≠ b := fun e => h (by rw [← ha, ← hb, e])
theorem own_tagD {W : World} {base : Nat} {e : TypeId} {m : Nat} {v : Value} {l : Nat} {xs : List Value} (h : W.ownsRow base e m v l xs) {b : Nat} (hb : v.ownBlock = some b) : tagD W.heap[b]? = e + 1 := by
  obtain ⟨_, _, cur, hc⟩ := ownsRow_block h b hb
  rw [hc]
  rfl
/-- Which blocks and rows the base is made of. -/
structure DbK where
  B : Nat
  T : Nat
  R : Nat
  O : Nat
  vb : Value
  ve : Value
  vo : Nat → Value
  vr : Nat → Value
def dbO (k : DbK) (c : Bool) (n : Nat) (tm : Int) : Obj := .cells #[.bool c, .slice (some ⟨k.T, 0, none⟩) n n, .slice (some ⟨k.R, 0, none⟩) 8 8, k.vb, k.ve, .slice (some ⟨k.O, 0, none⟩) n n, .int .i64 tm] 81 (0, 0)
/-- The document's base in memory. -/
structure DocB (w0 W : World) (k : DbK) (c : Bool) (n : Nat) (st : MvS) : Prop where
  bel : Below w0.heap.size w0 W
  blk : W.heap[k.B]? = some (dbO k c n st.tm)
  tb : ∃ cur, W.heap[k.T]? = some (.cells cur 90 (0, 0))
  tx : ∀ t, t < n → W.cell? ⟨k.T, t * 2, none⟩ = some (k.vo t) ∧ W.cell? ⟨k.T, t * 2 + 1, none⟩ = some (.bool (st.com t)) ∧ OpR W w0.heap.size (k.vo t) (st.ops t)
  rb : ∃ cur, W.heap[k.R]? = some (.cells cur 52 (0, 0))
  rw_ : ∀ q, q < 8 → W.cell? ⟨k.R, q, none⟩ = some (k.vr q) ∧ W.ownsRow w0.heap.size 3 1 (k.vr q) (st.ord q).length (numD (st.ord q))
  bg : W.ownsRow w0.heap.size 3 1 k.vb n (timC n st.bg)
  en : W.ownsRow w0.heap.size 3 1 k.ve n (timC n st.en)
  ov : BitsAt W k.O n st.ov
  lo : w0.heap.size ≤ k.B ∧ w0.heap.size ≤ k.T ∧ w0.heap.size ≤ k.R ∧ w0.heap.size ≤ k.O
  doo : ∀ t u, t < n → u < n → t ≠ u → ∀ b, (k.vo t).ownBlock = some b → (k.vo u).ownBlock ≠ some b
  drr : ∀ p q, p < 8 → q < 8 → p ≠ q → ∀ b, (k.vr p).ownBlock = some b → (k.vr q).ownBlock ≠ some b
  drb : ∀ q, q < 8 → ∀ b, (k.vr q).ownBlock = some b → k.vb.ownBlock ≠ some b ∧ k.ve.ownBlock ≠ some b
  dbe : ∀ b, k.vb.ownBlock = some b → k.ve.ownBlock ≠ some b
/-- The blocks that are its own. -/
def DbK.own (k : DbK) (n b : Nat) : Prop := b = k.B ∨ b = k.T ∨ b = k.R ∨ b = k.O ∨ k.vb.ownBlock = some b ∨ k.ve.ownBlock = some b ∨ (∃ t, t < n ∧ (k.vo t).ownBlock = some b) ∨ ∃ q, q < 8 ∧ (k.vr q).ownBlock = some b
section
variable {w0 W W' : World} {k : DbK} {c : Bool} {n : Nat} {st : MvS}
theorem DocB.lt (h : DocB w0 W k c n st) : k.B < W.heap.size := lt_of_heap h.blk
theorem DocB.own_lt (h : DocB w0 W k c n st) {b : Nat} (hb : k.own n b) : w0.heap.size ≤ b ∧ b < W.heap.size := by
  obtain ⟨_, ht⟩ := h.tb
  obtain ⟨_, hr⟩ := h.rb
  rcases hb with rfl | rfl | rfl | rfl | hb | hb | ⟨t, ht', hb⟩ | ⟨q, hq, hb⟩
  · exact ⟨h.lo.1, h.lt⟩
  · exact ⟨h.lo.2.1, lt_of_heap ht⟩
  · exact ⟨h.lo.2.2.1, lt_of_heap hr⟩
  · exact ⟨h.lo.2.2.2, h.ov.lt⟩
  · have := ownsRow_block h.bg b hb; exact ⟨this.1, this.2.1⟩
  · have := ownsRow_block h.en b hb; exact ⟨this.1, this.2.1⟩
  · have := ownsRow_block (h.tx t ht').2.2 b hb; exact ⟨this.1, this.2.1⟩
  · have := ownsRow_block (h.rw_ q hq).2 b hb; exact ⟨this.1, this.2.1⟩
/-- What turns no block of it. -/
theorem DocB.keep (h : DocB w0 W k c n st) (hb : Below w0.heap.size w0 W') (hk : ∀ b, k.own n b → W'.heap[b]? = W.heap[b]?) : DocB w0 W' k c n st := by
  obtain ⟨ct, ht⟩ := h.tb
  obtain ⟨cr, hr⟩ := h.rb
  have eT := hk k.T (.inr (.inl rfl))
  have eR := hk k.R (.inr (.inr (.inl rfl)))
  refine ⟨hb, (hk _ (.inl rfl)).trans h.blk, ⟨ct, eT.trans ht⟩, fun t ht' => ?_, ⟨cr, eR.trans hr⟩, fun q hq => ?_, ownsRow_same h.bg fun b hb' => hk b (.inr (.inr (.inr (.inr (.inl hb'))))), ownsRow_same h.en fun b hb' => hk b (.inr (.inr (.inr (.inr (.inr (.inl hb')))))), h.ov.block (hk _ (.inr (.inr (.inr (.inl rfl))))), h.lo, h.doo, h.drr, h.drb, h.dbe⟩
  · obtain ⟨h1, h2, h3⟩ := h.tx t ht'
    exact ⟨(World.cell?_of_block (a := ⟨k.T, t * 2, none⟩) eT).trans h1, (World.cell?_of_block (a := ⟨k.T, t * 2 + 1, none⟩) eT).trans h2, ownsRow_same h3 fun b hb' => hk b (.inr (.inr (.inr (.inr (.inr (.inr (.inl ⟨t, ht', hb'⟩)))))))⟩
  · obtain ⟨h1, h2⟩ := h.rw_ q hq
    exact ⟨(World.cell?_of_block (a := ⟨k.R, q, none⟩) eR).trans h1, ownsRow_same h2 fun b hb' => hk b (.inr (.inr (.inr (.inr (.inr (.inr (.inr ⟨q, hq, hb'⟩)))))))⟩
theorem DocB.below (h : DocB w0 W k c n st) (hb : Below W.heap.size W W') : DocB w0 W' k c n st :=
  h.keep (belJ h.bel hb) fun b hb' => hb.block b (h.own_lt hb').2
theorem DocB.cells (h : DocB w0 W k c n st) : W.cell? ⟨k.B, 0, none⟩ = some (.bool c) ∧ W.cell? ⟨k.B, 1, none⟩ = some (.slice (some ⟨k.T, 0, none⟩) n n) ∧ W.cell? ⟨k.B, 2, none⟩ = some (.slice (some ⟨k.R, 0, none⟩) 8 8) ∧ W.cell? ⟨k.B, 3, none⟩ = some k.vb ∧ W.cell? ⟨k.B, 4, none⟩ = some k.ve ∧ W.cell? ⟨k.B, 5, none⟩ = some (.slice (some ⟨k.O, 0, none⟩) n n) ∧ W.cell? ⟨k.B, 6, none⟩ = some (.int .i64 st.tm) := by
  have hb := h.blk
  unfold dbO at hb
  refine ⟨?_, ?_, ?_, ?_, ?_, ?_, ?_⟩ <;> rw [cell_of_row _ _ _ _ 81 _ hb] <;> rfl
theorem DocB.fz (h : DocB w0 W k c n st) (i : Nat) : W.frozen? ⟨k.B, i, none⟩ = false := by
  have hb := h.blk
  unfold dbO at hb
  exact frozen_of_row _ _ _ _ 81 hb
/-- A row of times, read. -/
theorem tim_at {base : Nat} {v : Value} {f : Nat → Int} (h : W.ownsRow base 3 1 v n (timC n f)) : ∃ a cap, v = .slice a n cap ∧ n ≤ cap ∧ ∀ t, t < n → ∃ g, a = some ⟨g, 0, none⟩ ∧ v.ownBlock = some g ∧ W.cell? ⟨g, t, none⟩ = some (.int .i64 (f t)) := by
  obtain ⟨hl, ⟨rfl, h0⟩ | ⟨g, cap, cur, rfl, hb, hh, h1, h2, h3, h4⟩⟩ := h
  · subst h0
    exact ⟨none, 0, rfl, Nat.le_refl _, fun t ht => absurd ht (by omega)⟩
  · refine ⟨_, cap, rfl, h1, fun t ht => ⟨g, rfl, rfl, ?_⟩⟩
    rw [cell_of_row _ _ _ _ 3 _ hh]
    have e : (cur.toList.take (n * 1))[t]? = (timC n f)[t]? := by rw [h4]
    rw [List.getElem?_take_of_lt (by omega), Array.getElem?_toList] at e
    rw [e]
    simp [timC, ht]
/-- A key's list, read. -/
theorem num_hasI {base : Nat} {v : Value} {l : List Nat} (h : W.ownsRow base 3 1 v l.length (numD l)) : HasI W v (l.map fun q : Nat => (q : Int)) := by
  have hr : RowAt W base v (l.map fun q : Nat => (q : Int)) := rowAt_owns (by
    have e : (l.map fun q : Nat => (q : Int)).map (Value.int .i64) = numD l := by simp [numD]
    rw [e, List.length_map]
    exact h)
  exact hr.hasI
end
end Go.Proofs.YtaopigjhdkdklaaDoor

namespace Go.Proofs.YtaopigjhdkdklaaDoor
open Go.RowKit

section
variable {w0 W W' W1 W2 : World} {k k1 k2 : DbK} {c : Bool} {n : Nat} {st : MvS}
/-- What is turned lies in the base's own blocks; what is its own behind lay so ahead, or is new. -/
def DFr (k : DbK) (n : Nat) (W W' : World) (k' : DbK) : Prop := k'.B = k.B ∧ W.heap.size ≤ W'.heap.size ∧ (∀ b, b < W.heap.size → ¬ k.own n b → W'.heap[b]? = W.heap[b]?) ∧ ∀ b, k'.own n b → k.own n b ∨ W.heap.size ≤ b
theorem DFr.below (h : Below W.heap.size W W') : DFr k n W W' k := ⟨rfl, h.size, fun b hb _ => h.block b hb, fun _ h => .inl h⟩
theorem DFr.trans (h1 : DFr k n W W1 k1) (h2 : DFr k1 n W1 W2 k2) : DFr k n W W2 k2 :=
  ⟨h2.1.trans h1.1, Nat.le_trans h1.2.1 h2.2.1, fun b hb hn => (h2.2.2.1 b (Nat.lt_of_lt_of_le hb h1.2.1) (fun ho => (h1.2.2.2 b ho).elim hn (fun h => by omega))).trans (h1.2.2.1 b hb hn), fun b hb => (h2.2.2.2 b hb).elim (h1.2.2.2 b) fun h => .inr (Nat.le_trans h1.2.1 h)⟩
theorem DFr.set {p : Addr} (hp : k.own n p.block) (u : Value) : DFr k n W (W.setCell p u) k :=
  ⟨rfl, by simp, fun b _ hn => Below.heap_setCell W p u b (fun e => hn (e ▸ hp)), fun _ h => .inl h⟩
theorem DocB.tag (h : DocB w0 W k c n st) : tagD W.heap[k.B]? = 82 ∧ tagD W.heap[k.T]? = 91 ∧ tagD W.heap[k.R]? = 53 ∧ tagD W.heap[k.O]? = 5 := by
  obtain ⟨_, h2⟩ := h.tb
  obtain ⟨_, h3⟩ := h.rb
  obtain ⟨_, h4⟩ := h.ov.blk
  have h1 := h.blk
  unfold dbO at h1
  exact ⟨by rw [h1]; rfl, by rw [h2]; rfl, by rw [h3]; rfl, by rw [h4]; rfl⟩
theorem DocB.tagv (h : DocB w0 W k c n st) : (∀ b, k.vb.ownBlock = some b → tagD W.heap[b]? = 4) ∧ (∀ b, k.ve.ownBlock = some b → tagD W.heap[b]? = 4) ∧ (∀ t, t < n → ∀ b, (k.vo t).ownBlock = some b → tagD W.heap[b]? = 92) ∧ ∀ q, q < 8 → ∀ b, (k.vr q).ownBlock = some b → tagD W.heap[b]? = 4 :=
  ⟨fun _ hb => own_tagD h.bg hb, fun _ hb => own_tagD h.en hb, fun t ht _ hb => own_tagD (h.tx t ht).2.2 hb, fun q hq _ hb => own_tagD (h.rw_ q hq).2 hb⟩
/-- What stays where some blocks turn. -/
theorem DocB.keeps (h : DocB w0 W k c n st) {X : Nat → Prop} (hk : ∀ b, b < W.heap.size → ¬ X b → W'.heap[b]? = W.heap[b]?) :
    (¬ X k.B → W'.heap[k.B]? = some (dbO k c n st.tm)) ∧
    (¬ X k.T → (∃ cur, W'.heap[k.T]? = some (.cells cur 90 (0, 0))) ∧ ∀ t, t < n → W'.cell? ⟨k.T, t * 2, none⟩ = some (k.vo t) ∧ W'.cell? ⟨k.T, t * 2 + 1, none⟩ = some (.bool (st.com t))) ∧
    (∀ t, t < n → (∀ b, (k.vo t).ownBlock = some b → ¬ X b) → OpR W' w0.heap.size (k.vo t) (st.ops t)) ∧
    (¬ X k.R → (∃ cur, W'.heap[k.R]? = some (.cells cur 52 (0, 0))) ∧ ∀ q, q < 8 → W'.cell? ⟨k.R, q, none⟩ = some (k.vr q)) ∧
    (∀ q, q < 8 → (∀ b, (k.vr q).ownBlock = some b → ¬ X b) → W'.ownsRow w0.heap.size 3 1 (k.vr q) (st.ord q).length (numD (st.ord q))) ∧
    ((∀ b, k.vb.ownBlock = some b → ¬ X b) → W'.ownsRow w0.heap.size 3 1 k.vb n (timC n st.bg)) ∧
    ((∀ b, k.ve.ownBlock = some b → ¬ X b) → W'.ownsRow w0.heap.size 3 1 k.ve n (timC n st.en)) ∧
    (¬ X k.O → BitsAt W' k.O n st.ov) := by
  obtain ⟨ct, ht⟩ := h.tb
  obtain ⟨cr, hr⟩ := h.rb
  have hlt : ∀ {b}, k.own n b → b < W.heap.size := fun hb => (h.own_lt hb).2
  refine ⟨fun hx => (hk _ (hlt (.inl rfl)) hx).trans h.blk, fun hx => ?_, fun t ht' hx => ownsRow_same (h.tx t ht').2.2 fun b hb => hk b (hlt (.inr (.inr (.inr (.inr (.inr (.inr (.inl ⟨t, ht', hb⟩)))))))) (hx b hb), fun hx => ?_, fun q hq hx => ownsRow_same (h.rw_ q hq).2 fun b hb => hk b (hlt (.inr (.inr (.inr (.inr (.inr (.inr (.inr ⟨q, hq, hb⟩)))))))) (hx b hb),
    fun hx => ownsRow_same h.bg fun b hb => hk b (hlt (.inr (.inr (.inr (.inr (.inl hb)))))) (hx b hb), fun hx => ownsRow_same h.en fun b hb => hk b (hlt (.inr (.inr (.inr (.inr (.inr (.inl hb))))))) (hx b hb), fun hx => h.ov.block (hk _ (hlt (.inr (.inr (.inr (.inl rfl))))) hx)⟩
  · have e := hk k.T (hlt (.inr (.inl rfl))) hx
    exact ⟨⟨ct, e.trans ht⟩, fun t ht' => ⟨(World.cell?_of_block (a := ⟨k.T, t * 2, none⟩) e).trans (h.tx t ht').1, (World.cell?_of_block (a := ⟨k.T, t * 2 + 1, none⟩) e).trans (h.tx t ht').2.1⟩⟩
  · have e := hk k.R (hlt (.inr (.inr (.inl rfl)))) hx
    exact ⟨⟨cr, e.trans hr⟩, fun q hq => (World.cell?_of_block (a := ⟨k.R, q, none⟩) e).trans (h.rw_ q hq).1⟩
/-- The time. -/
theorem DocB.setTm (h : DocB w0 W k c n st) (x : Int) : DocB w0 (W.setCell ⟨k.B, 6, none⟩ (.int .i64 x)) k c n { st with tm := x } := by
  obtain ⟨t1, t2, t3, t4⟩ := h.tag
  obtain ⟨v1, v2, v3, v4⟩ := h.tagv
  obtain ⟨_, k2, k3, k4, k5, k6, k7, k8⟩ := h.keeps (W' := W.setCell ⟨k.B, 6, none⟩ (.int .i64 x)) (X := fun b => b = k.B) fun b _ hb => Below.heap_setCell W ⟨k.B, 6, none⟩ _ b hb
  have kT := k2 (ne_tagD t2 t1 (by decide))
  have kR := k4 (ne_tagD t3 t1 (by decide))
  refine ⟨h.bel.setCell (p := ⟨k.B, 6, none⟩) h.lo.1 _, ?_, kT.1, fun t ht => ⟨(kT.2 t ht).1, (kT.2 t ht).2, k3 t ht fun b hb => ne_tagD (v3 t ht b hb) t1 (by decide)⟩, kR.1, fun q hq => ⟨kR.2 q hq, k5 q hq fun b hb => ne_tagD (v4 q hq b hb) t1 (by decide)⟩, k6 fun b hb => ne_tagD (v1 b hb) t1 (by decide), k7 fun b hb => ne_tagD (v2 b hb) t1 (by decide), k8 (ne_tagD t4 t1 (by decide)), h.lo, h.doo, h.drr, h.drb, h.dbe⟩
  exact heap_setCell_same W k.B 6 _ 81 _ h.blk
/-- Who is over. -/
theorem DocB.setOv (h : DocB w0 W k c n st) {t : Nat} (ht : t < n) : DocB w0 (W.setCell ⟨k.O, t, none⟩ (.bool true)) k c n { st with ov := updM st.ov t true } := by
  obtain ⟨t1, t2, t3, t4⟩ := h.tag
  obtain ⟨v1, v2, v3, v4⟩ := h.tagv
  obtain ⟨k1, k2, k3, k4, k5, k6, k7, _⟩ := h.keeps (W' := W.setCell ⟨k.O, t, none⟩ (.bool true)) (X := fun b => b = k.O) fun b _ hb => Below.heap_setCell W ⟨k.O, t, none⟩ _ b hb
  have kT := k2 (ne_tagD t2 t4 (by decide))
  have kR := k4 (ne_tagD t3 t4 (by decide))
  exact ⟨h.bel.setCell (p := ⟨k.O, t, none⟩) h.lo.2.2.2 _, k1 (ne_tagD t1 t4 (by decide)), kT.1, fun t ht => ⟨(kT.2 t ht).1, (kT.2 t ht).2, k3 t ht fun b hb => ne_tagD (v3 t ht b hb) t4 (by decide)⟩, kR.1, fun q hq => ⟨kR.2 q hq, k5 q hq fun b hb => ne_tagD (v4 q hq b hb) t4 (by decide)⟩, k6 fun b hb => ne_tagD (v1 b hb) t4 (by decide), k7 fun b hb => ne_tagD (v2 b hb) t4 (by decide), h.ov.put ht true, h.lo, h.doo, h.drr, h.drb, h.dbe⟩
/-- Who commits. -/
theorem DocB.setCom (h : DocB w0 W k c n st) {t : Nat} (ht : t < n) : DocB w0 (W.setCell ⟨k.T, t * 2 + 1, none⟩ (.bool true)) k c n { st with com := updM st.com t true } := by
  obtain ⟨t1, t2, t3, t4⟩ := h.tag
  obtain ⟨v1, v2, v3, v4⟩ := h.tagv
  obtain ⟨k1, _, k3, k4, k5, k6, k7, k8⟩ := h.keeps (W' := W.setCell ⟨k.T, t * 2 + 1, none⟩ (.bool true)) (X := fun b => b = k.T) fun b _ hb => Below.heap_setCell W ⟨k.T, t * 2 + 1, none⟩ _ b hb
  have kR := k4 (ne_tagD t3 t2 (by decide))
  obtain ⟨ct, hct⟩ := h.tb
  obtain ⟨ct', hct', _⟩ := heap_setCell hct (t * 2 + 1) (.bool true)
  refine ⟨h.bel.setCell (p := ⟨k.T, t * 2 + 1, none⟩) h.lo.2.1 _, k1 (ne_tagD t1 t2 (by decide)), ⟨ct', hct'⟩, fun u hu => ⟨?_, ?_, k3 u hu fun b hb => ne_tagD (v3 u hu b hb) t2 (by decide)⟩, kR.1, fun q hq => ⟨kR.2 q hq, k5 q hq fun b hb => ne_tagD (v4 q hq b hb) t2 (by decide)⟩, k6 fun b hb => ne_tagD (v1 b hb) t2 (by decide), k7 fun b hb => ne_tagD (v2 b hb) t2 (by decide), k8 (ne_tagD t4 t2 (by decide)), h.lo, h.doo, h.drr, h.drb, h.dbe⟩
  · rw [World.cell?_setCell_other _ _ _ _ (offNe (by omega))]
    exact (h.tx u hu).1
  · show _ = some (Value.bool (updM st.com t true u))
    by_cases e : u = t
    · subst e
      rw [updM_same]
      exact World.cell?_setCell_same' _ _ _ (by rw [(h.tx u hu).2.1]; rfl)
    · rw [updM_ne _ _ e, World.cell?_setCell_other _ _ _ _ (offNe (by omega))]
      exact (h.tx u hu).2.1
theorem timC_set (n : Nat) (f : Nat → Int) {t : Nat} (ht : t < n) (x : Int) : (timC n f).set t (.int .i64 x) = timC n (updM f t x) := by
  refine List.ext_getElem? fun q => ?_
  rw [List.getElem?_set]
  unfold timC
  by_cases e : t = q
  · subst e
    rw [if_pos rfl]
    simp [ht, updM]
  · rw [if_neg e]
    by_cases hq : q < n
    · simp [hq, updM, Ne.symm e]
    · simp [hq]
/-- A row of times, one of them turned. -/
theorem tim_put {base : Nat} {v : Value} {f : Nat → Int} (h : W.ownsRow base 3 1 v n (timC n f)) {t : Nat} (ht : t < n) (x : Int) {g : Nat} (hg : v.ownBlock = some g) : (W.setCell ⟨g, t, none⟩ (.int .i64 x)).ownsRow base 3 1 v n (timC n (updM f t x)) := by
  obtain ⟨hl, ⟨rfl, h0⟩ | ⟨g', cap, cur, rfl, hb, hh, h1, h2, h3, h4⟩⟩ := h
  · omega
  · obtain rfl : g' = g := by simpa [Value.ownBlock] using hg
    refine ⟨by simp [timC], .inr ⟨g', cap, cur.setIfInBounds t (.int .i64 x), rfl, hb, heap_setCell_same W g' t _ 3 _ hh, h1, h2, by simpa using h3, ?_⟩⟩
    rw [Array.toList_setIfInBounds, List.take_set, h4, timC_set n f ht]
/-- When one began. -/
theorem DocB.setBg (h : DocB w0 W k c n st) {t : Nat} (ht : t < n) (x : Int) {g : Nat} (hg : k.vb.ownBlock = some g) : DocB w0 (W.setCell ⟨g, t, none⟩ (.int .i64 x)) k c n { st with bg := updM st.bg t x } := by
  obtain ⟨t1, t2, t3, t4⟩ := h.tag
  obtain ⟨v1, v2, v3, v4⟩ := h.tagv
  have tg := v1 g hg
  obtain ⟨k1, k2, k3, k4, k5, _, k7, k8⟩ := h.keeps (W' := W.setCell ⟨g, t, none⟩ (.int .i64 x)) (X := fun b => b = g) fun b _ hb => Below.heap_setCell W ⟨g, t, none⟩ _ b hb
  have kT := k2 (ne_tagD t2 tg (by decide))
  have kR := k4 (ne_tagD t3 tg (by decide))
  exact ⟨h.bel.setCell (p := ⟨g, t, none⟩) (ownsRow_block h.bg g hg).1 _, k1 (ne_tagD t1 tg (by decide)), kT.1, fun t ht => ⟨(kT.2 t ht).1, (kT.2 t ht).2, k3 t ht fun b hb => ne_tagD (v3 t ht b hb) tg (by decide)⟩, kR.1, fun q hq => ⟨kR.2 q hq, k5 q hq fun b hb e => (h.drb q hq b hb).1 (by rw [hg, e])⟩, tim_put h.bg ht x hg, k7 fun b hb e => h.dbe g hg (by rw [hb, e]), k8 (ne_tagD t4 tg (by decide)), h.lo, h.doo, h.drr, h.drb, h.dbe⟩
/-- Other times of commit. -/
theorem DocB.setEn (h : DocB w0 W k c n st) {v : Value} {f : Nat → Int} (hv : W.ownsRow w0.heap.size 3 1 v n (timC n f)) (hn : ∀ b, v.ownBlock = some b → ¬ k.own n b) : DocB w0 (W.setCell ⟨k.B, 4, none⟩ v) { k with ve := v } c n { st with en := f } := by
  obtain ⟨t1, t2, t3, t4⟩ := h.tag
  obtain ⟨v1, v2, v3, v4⟩ := h.tagv
  obtain ⟨_, k2, k3, k4, k5, k6, k7, k8⟩ := h.keeps (W' := W.setCell ⟨k.B, 4, none⟩ v) (X := fun b => b = k.B) fun b _ hb => Below.heap_setCell W ⟨k.B, 4, none⟩ _ b hb
  have kT := k2 (ne_tagD t2 t1 (by decide))
  have kR := k4 (ne_tagD t3 t1 (by decide))
  refine ⟨h.bel.setCell (p := ⟨k.B, 4, none⟩) h.lo.1 _, ?_, kT.1, fun t ht => ⟨(kT.2 t ht).1, (kT.2 t ht).2, k3 t ht fun b hb => ne_tagD (v3 t ht b hb) t1 (by decide)⟩, kR.1, fun q hq => ⟨kR.2 q hq, k5 q hq fun b hb => ne_tagD (v4 q hq b hb) t1 (by decide)⟩, k6 fun b hb => ne_tagD (v1 b hb) t1 (by decide), ownsRow_same hv fun b hb => Below.heap_setCell W ⟨k.B, 4, none⟩ _ b (ne_tagD (own_tagD hv hb) t1 (by decide)), k8 (ne_tagD t4 t1 (by decide)), h.lo, h.doo, h.drr, fun q hq b hb => ⟨(h.drb q hq b hb).1, fun e => hn b e (.inr (.inr (.inr (.inr (.inr (.inr (.inr ⟨q, hq, hb⟩)))))))⟩, fun b hb e => hn b e (.inr (.inr (.inr (.inr (.inl hb)))))⟩
  exact heap_setCell_same W k.B 4 _ 81 _ h.blk
theorem DbK.updO_own {t : Nat} {v' : Value} {s : Nat} (hv : v'.ownBlock = (k.vo t).ownBlock ∨ v'.ownBlock = some s) (ht : t < n) (b : Nat) (hb : ({ k with vo := updM k.vo t v' } : DbK).own n b) : k.own n b ∨ b = s := by
  rcases hb with hb | hb | hb | hb | hb | hb | ⟨u, hu, hb⟩ | hb
  · exact .inl (.inl hb)
  · exact .inl (.inr (.inl hb))
  · exact .inl (.inr (.inr (.inl hb)))
  · exact .inl (.inr (.inr (.inr (.inl hb))))
  · exact .inl (.inr (.inr (.inr (.inr (.inl hb)))))
  · exact .inl (.inr (.inr (.inr (.inr (.inr (.inl hb))))))
  · by_cases e : u = t
    · subst e
      have hb : (updM k.vo u v' u).ownBlock = some b := hb
      rw [updM_same] at hb
      rcases hv with e | e
      · exact .inl (.inr (.inr (.inr (.inr (.inr (.inr (.inl ⟨u, ht, by rw [← e]; exact hb⟩)))))))
      · rw [e] at hb; exact .inr (by simpa using hb.symm)
    · have hb : (updM k.vo t v' u).ownBlock = some b := hb
      rw [updM_ne _ _ e] at hb
      exact .inl (.inr (.inr (.inr (.inr (.inr (.inr (.inl ⟨u, hu, hb⟩)))))))
  · exact .inl (.inr (.inr (.inr (.inr (.inr (.inr (.inr hb)))))))
/-- One more op. -/
theorem DocB.pushO (h : DocB w0 W k c n st) {t : Nat} (ht : t < n) {o : IOp} {v' : Value} (ho : OpR W1 w0.heap.size v' (st.ops t ++ [o])) (hg : W.grownBy W1 (k.vo t).ownBlock) (hv : v'.ownBlock = (k.vo t).ownBlock ∨ v'.ownBlock = some W.heap.size) :
    DocB w0 (W1.setCell ⟨k.T, t * 2, none⟩ v') { k with vo := updM k.vo t v' } c n { st with ops := updM st.ops t (st.ops t ++ [o]) } ∧ DFr k n W (W1.setCell ⟨k.T, t * 2, none⟩ v') { k with vo := updM k.vo t v' } := by
  obtain ⟨t1, t2, t3, t4⟩ := h.tag
  obtain ⟨v1, v2, v3, v4⟩ := h.tagv
  have hbk : ∀ b, b < W.heap.size → ¬ (b = k.T ∨ (k.vo t).ownBlock = some b) → (W1.setCell ⟨k.T, t * 2, none⟩ v').heap[b]? = W.heap[b]? := fun b hb hn => (Below.heap_setCell W1 ⟨k.T, t * 2, none⟩ v' b fun e => hn (.inl e)).trans (hg.block b hb fun e => hn (.inr e.symm))
  obtain ⟨k1, _, k3, k4, k5, k6, k7, k8⟩ := h.keeps (W' := W1.setCell ⟨k.T, t * 2, none⟩ v') (X := fun b => b = k.T ∨ (k.vo t).ownBlock = some b) hbk
  have n83 : ∀ {b x : Nat}, tagD W.heap[b]? = x → x ≠ 91 → x ≠ 92 → ¬ (b = k.T ∨ (k.vo t).ownBlock = some b) := fun hx h1 h2 e => e.elim (fun e => ne_tagD hx t2 h1 e) fun e => ne_tagD hx (v3 t ht _ e) h2 rfl
  have kR := k4 (n83 t3 (by decide) (by decide))
  have hT : W1.heap[k.T]? = W.heap[k.T]? := hg.block k.T (h.own_lt (.inr (.inl rfl))).2 fun e => ne_tagD t2 (v3 t ht _ e.symm) (by decide) rfl
  obtain ⟨ct, hct⟩ := h.tb
  obtain ⟨ct', hct', _⟩ := heap_setCell (hT.trans hct) (t * 2) v'
  have hc1 : ∀ i, W1.cell? ⟨k.T, i, none⟩ = W.cell? ⟨k.T, i, none⟩ := fun i => World.cell?_of_block (a := ⟨k.T, i, none⟩) hT
  have hTl := (h.own_lt (.inr (.inl rfl) : k.own n k.T)).2
  refine ⟨⟨(h.bel.grown hg h.bel.size fun b hb => (ownsRow_block (h.tx t ht).2.2 b hb).1).setCell (p := ⟨k.T, t * 2, none⟩) h.lo.2.1 _, k1 (n83 t1 (by decide) (by decide)), ⟨ct', hct'⟩, fun u hu => ?_, kR.1, fun q hq => ⟨kR.2 q hq, k5 q hq fun b hb => n83 (v4 q hq b hb) (by decide) (by decide)⟩, k6 fun b hb => n83 (v1 b hb) (by decide) (by decide), k7 fun b hb => n83 (v2 b hb) (by decide) (by decide), k8 (n83 t4 (by decide) (by decide)), h.lo, fun a u ha hu hne b hb => ?_, h.drr, h.drb, h.dbe⟩, rfl, ?_, fun b hb hn => hbk b hb fun e => hn (e.elim (fun e => .inr (.inl e)) fun e => .inr (.inr (.inr (.inr (.inr (.inr (.inl ⟨t, ht, e⟩))))))), fun b hb => (DbK.updO_own hv ht b hb).imp id fun e => by omega⟩
  · by_cases e : u = t
    · subst e
      show _ = some (updM k.vo u v' u) ∧ _ ∧ OpR _ _ (updM k.vo u v' u) (updM st.ops u (st.ops u ++ [o]) u)
      rw [updM_same, updM_same]
      refine ⟨World.cell?_setCell_same' _ _ _ (by rw [hc1, (h.tx u hu).1]; rfl), (World.cell?_setCell_other _ _ _ _ (offNe (by omega))).trans ((hc1 _).trans (h.tx u hu).2.1), ownsRow_same ho fun b hb => Below.heap_setCell W1 ⟨k.T, u * 2, none⟩ v' b ?_⟩
      rcases hv with e | e
      · rw [e] at hb; exact ne_tagD (v3 u hu b hb) t2 (by decide)
      · rw [e] at hb
        obtain rfl : W.heap.size = b := by simpa using hb
        show W.heap.size ≠ k.T
        omega
    · show _ = some (updM k.vo t v' u) ∧ _ ∧ OpR _ _ (updM k.vo t v' u) (updM st.ops t (st.ops t ++ [o]) u)
      rw [updM_ne _ _ e, updM_ne _ _ e]
      exact ⟨(World.cell?_setCell_other _ _ _ _ (offNe (by omega))).trans ((hc1 _).trans (h.tx u hu).1), (World.cell?_setCell_other _ _ _ _ (offNe (by omega))).trans ((hc1 _).trans (h.tx u hu).2.1), k3 u hu fun b hb e' => e'.elim (fun e' => ne_tagD (v3 u hu b hb) t2 (by decide) e') fun e' => h.doo u t hu ht e b hb e'⟩
  · have hlt : ∀ {a}, a < n → ∀ {b}, (k.vo a).ownBlock = some b → b < W.heap.size := fun ha _ hb => (ownsRow_block (h.tx _ ha).2.2 _ hb).2.1
    replace hb : (updM k.vo t v' a).ownBlock = some b := hb
    show (updM k.vo t v' u).ownBlock ≠ some b
    by_cases ea : a = t
    · subst ea
      rw [updM_same] at hb
      rw [updM_ne _ _ (Ne.symm hne)]
      rcases hv with e | e
      · rw [e] at hb; exact h.doo a u ha hu hne b hb
      · rw [e] at hb
        obtain rfl : W.heap.size = b := by simpa using hb
        exact fun e' => absurd (hlt hu e') (by omega)
    · rw [updM_ne _ _ ea] at hb
      by_cases eu : u = t
      · subst eu
        rw [updM_same]
        rcases hv with e | e
        · rw [e]; exact h.doo a u ha hu hne b hb
        · rw [e]
          intro e'
          obtain rfl : W.heap.size = b := by simpa using e'
          exact absurd (hlt ha hb) (by omega)
      · rw [updM_ne _ _ eu]; exact h.doo a u ha hu hne b hb
  · have := hg.size
    simpa using this
theorem DbK.updR_own {t : Nat} {v' : Value} {s : Nat} (hv : v'.ownBlock = (k.vr t).ownBlock ∨ v'.ownBlock = some s) (ht : t < 8) (b : Nat) (hb : ({ k with vr := updM k.vr t v' } : DbK).own n b) : k.own n b ∨ b = s := by
  rcases hb with hb | hb | hb | hb | hb | hb | hb | ⟨u, hu, hb⟩
  · exact .inl (.inl hb)
  · exact .inl (.inr (.inl hb))
  · exact .inl (.inr (.inr (.inl hb)))
  · exact .inl (.inr (.inr (.inr (.inl hb))))
  · exact .inl (.inr (.inr (.inr (.inr (.inl hb)))))
  · exact .inl (.inr (.inr (.inr (.inr (.inr (.inl hb))))))
  · exact .inl (.inr (.inr (.inr (.inr (.inr (.inr (.inl hb)))))))
  · by_cases e : u = t
    · subst e
      have hb : (updM k.vr u v' u).ownBlock = some b := hb
      rw [updM_same] at hb
      rcases hv with e | e
      · exact .inl (.inr (.inr (.inr (.inr (.inr (.inr (.inr ⟨u, ht, by rw [← e]; exact hb⟩)))))))
      · rw [e] at hb; exact .inr (by simpa using hb.symm)
    · have hb : (updM k.vr t v' u).ownBlock = some b := hb
      rw [updM_ne _ _ e] at hb
      exact .inl (.inr (.inr (.inr (.inr (.inr (.inr (.inr ⟨u, hu, hb⟩)))))))
/-- One more that commits a key. -/
theorem DocB.pushR (h : DocB w0 W k c n st) {q x : Nat} (hq : q < 8) {v' : Value} (ho : W1.ownsRow w0.heap.size 3 1 v' (st.ord q ++ [x]).length (numD (st.ord q ++ [x]))) (hg : W.grownBy W1 (k.vr q).ownBlock) (hv : v'.ownBlock = (k.vr q).ownBlock ∨ v'.ownBlock = some W.heap.size) :
    DocB w0 (W1.setCell ⟨k.R, q, none⟩ v') { k with vr := updM k.vr q v' } c n { st with ord := updM st.ord q (st.ord q ++ [x]) } ∧ DFr k n W (W1.setCell ⟨k.R, q, none⟩ v') { k with vr := updM k.vr q v' } := by
  obtain ⟨t1, t2, t3, t4⟩ := h.tag
  obtain ⟨v1, v2, v3, v4⟩ := h.tagv
  have hbk : ∀ b, b < W.heap.size → ¬ (b = k.R ∨ (k.vr q).ownBlock = some b) → (W1.setCell ⟨k.R, q, none⟩ v').heap[b]? = W.heap[b]? := fun b hb hn => (Below.heap_setCell W1 ⟨k.R, q, none⟩ v' b fun e => hn (.inl e)).trans (hg.block b hb fun e => hn (.inr e.symm))
  obtain ⟨k1, k2, k3, _, k5, k6, k7, k8⟩ := h.keeps (W' := W1.setCell ⟨k.R, q, none⟩ v') (X := fun b => b = k.R ∨ (k.vr q).ownBlock = some b) hbk
  have n4 : ∀ {b x : Nat}, tagD W.heap[b]? = x → x ≠ 53 → x ≠ 4 → ¬ (b = k.R ∨ (k.vr q).ownBlock = some b) := fun hx h1 h2 e => e.elim (fun e => ne_tagD hx t3 h1 e) fun e => ne_tagD hx (v4 q hq _ e) h2 rfl
  have kT := k2 (n4 t2 (by decide) (by decide))
  have hR : W1.heap[k.R]? = W.heap[k.R]? := hg.block k.R (h.own_lt (.inr (.inr (.inl rfl)))).2 fun e => ne_tagD t3 (v4 q hq _ e.symm) (by decide) rfl
  obtain ⟨ct, hct⟩ := h.rb
  obtain ⟨ct', hct', _⟩ := heap_setCell (hR.trans hct) q v'
  have hc1 : ∀ i, W1.cell? ⟨k.R, i, none⟩ = W.cell? ⟨k.R, i, none⟩ := fun i => World.cell?_of_block (a := ⟨k.R, i, none⟩) hR
  have hRl := (h.own_lt (.inr (.inr (.inl rfl)) : k.own n k.R)).2
  have hlt : ∀ {a}, a < 8 → ∀ {b}, (k.vr a).ownBlock = some b → b < W.heap.size := fun ha _ hb => (ownsRow_block (h.rw_ _ ha).2 _ hb).2.1
  refine ⟨⟨(h.bel.grown hg h.bel.size fun b hb => (ownsRow_block (h.rw_ q hq).2 b hb).1).setCell (p := ⟨k.R, q, none⟩) h.lo.2.2.1 _, k1 (n4 t1 (by decide) (by decide)), kT.1, fun t ht => ⟨(kT.2 t ht).1, (kT.2 t ht).2, k3 t ht fun b hb => n4 (v3 t ht b hb) (by decide) (by decide)⟩, ⟨ct', hct'⟩, fun u hu => ?_, k6 fun b hb e => e.elim (fun e => ne_tagD (v1 b hb) t3 (by decide) e) fun e => (h.drb q hq b e).1 hb, k7 fun b hb e => e.elim (fun e => ne_tagD (v2 b hb) t3 (by decide) e) fun e => (h.drb q hq b e).2 hb, k8 (n4 t4 (by decide) (by decide)), h.lo, h.doo, fun a u ha hu hne b hb => ?_, fun u hu b hb => ?_, h.dbe⟩, rfl, ?_, fun b hb hn => hbk b hb fun e => hn (e.elim (fun e => .inr (.inr (.inl e))) fun e => .inr (.inr (.inr (.inr (.inr (.inr (.inr ⟨q, hq, e⟩))))))), fun b hb => (DbK.updR_own hv hq b hb).imp id fun e => by omega⟩
  · by_cases e : u = q
    · subst e
      show _ = some (updM k.vr u v' u) ∧ World.ownsRow _ _ _ _ (updM k.vr u v' u) (updM st.ord u (st.ord u ++ [x]) u).length (numD (updM st.ord u (st.ord u ++ [x]) u))
      rw [updM_same, updM_same]
      refine ⟨World.cell?_setCell_same' _ _ _ (by rw [hc1, (h.rw_ u hu).1]; rfl), ownsRow_same ho fun b hb => Below.heap_setCell W1 ⟨k.R, u, none⟩ v' b ?_⟩
      rcases hv with e | e
      · rw [e] at hb; exact ne_tagD (v4 u hu b hb) t3 (by decide)
      · rw [e] at hb
        obtain rfl : W.heap.size = b := by simpa using hb
        show W.heap.size ≠ k.R
        omega
    · show _ = some (updM k.vr q v' u) ∧ World.ownsRow _ _ _ _ (updM k.vr q v' u) (updM st.ord q (st.ord q ++ [x]) u).length (numD (updM st.ord q (st.ord q ++ [x]) u))
      rw [updM_ne _ _ e, updM_ne _ _ e]
      exact ⟨(World.cell?_setCell_other _ _ _ _ (offNe (Ne.symm e))).trans ((hc1 _).trans (h.rw_ u hu).1), k5 u hu fun b hb e' => e'.elim (fun e' => ne_tagD (v4 u hu b hb) t3 (by decide) e') fun e' => h.drr u q hu hq e b hb e'⟩
  · replace hb : (updM k.vr q v' a).ownBlock = some b := hb
    show (updM k.vr q v' u).ownBlock ≠ some b
    by_cases ea : a = q
    · subst ea
      rw [updM_same] at hb
      rw [updM_ne _ _ (Ne.symm hne)]
      rcases hv with e | e
      · rw [e] at hb; exact h.drr a u ha hu hne b hb
      · rw [e] at hb
        obtain rfl : W.heap.size = b := by simpa using hb
        exact fun e' => absurd (hlt hu e') (by omega)
    · rw [updM_ne _ _ ea] at hb
      by_cases eu : u = q
      · subst eu
        rw [updM_same]
        rcases hv with e | e
        · rw [e]; exact h.drr a u ha hu hne b hb
        · rw [e]
          intro e'
          obtain rfl : W.heap.size = b := by simpa using e'
          exact absurd (hlt ha hb) (by omega)
      · rw [updM_ne _ _ eu]; exact h.drr a u ha hu hne b hb
  · replace hb : (updM k.vr q v' u).ownBlock = some b := hb
    by_cases eu : u = q
    · subst eu
      rw [updM_same] at hb
      rcases hv with e | e
      · rw [e] at hb; exact h.drb u hu b hb
      · rw [e] at hb
        obtain rfl : W.heap.size = b := by simpa using hb
        exact ⟨fun e' => absurd (ownsRow_block h.bg _ e').2.1 (by omega), fun e' => absurd (ownsRow_block h.en _ e').2.1 (by omega)⟩
    · rw [updM_ne _ _ eu] at hb
      exact h.drb u hu b hb
  · have := hg.size
    simpa using this
/-- A number appended. -/
theorem run_appI {w : World} {base B : Nat} {v : Value} {L : List Nat} {x : Nat} (hown : w.ownsRow base 3 1 v L.length (numD L)) (hB : w.cell? ⟨B, 0, none⟩ = some (.int .i64 (x : Int))) (hb : base ≤ w.heap.size) (hlen : L.length ≤ 1000) (ty : TypeId) :
    ∃ v' w', (Builtin.append_ #[52, 52] ty #[v, .slice (some ⟨B, 0, none⟩) 1 1]).run Tryd.prog w = .ok v' w' ∧ w'.ownsRow base 3 1 v' (L ++ [x]).length (numD (L ++ [x])) ∧ w.grownBy w' v.ownBlock ∧ (v'.ownBlock = v.ownBlock ∨ v'.ownBlock = some w.heap.size) := by
  obtain ⟨i, hi, hz, hsz, hby⟩ := info_parts' info3
  have hnews : ∀ j u, [Value.int .i64 (x : Int)][j]? = some u → w.cell? ((⟨B, 0, none⟩ : Addr).add j) = some u := by
    intro j u hj
    rw [Addr.add_mid, Nat.zero_add]
    match j, hj with
    | 0, hj => simp at hj; subst hj; exact hB
    | k + 1, hj => simp at hj
  obtain ⟨v', w', hr, ho, hg, _, hob⟩ := run_append_own_at (P := Tryd.prog) (w := w) base 52 ty 3 i _ 1 8 Tryd.underlying52 hi hz hsz hby rfl (by decide) v _ _ hown ⟨B, 0, none⟩ 1 1 [.int .i64 (x : Int)] rfl hnews (by simp [Value.oneCell']) (by unfold maxLen; omega) (by omega) hb
  refine ⟨v', w', hr, ?_, hg, hob⟩
  rw [List.length_append, show numD (L ++ [x]) = numD L ++ [.int .i64 (x : Int)] by simp [numD]]
  exact ho
end
end Go.Proofs.YtaopigjhdkdklaaDoor

namespace Go.Proofs.YtaopigjhdkdklaaDoor
open Go.RowKit

theorem infoP84 : (Tryd.prog.info? 84).map (fun i => (i.zero, i.size, i.bytes)) = some (some (.agg #[.bool false, .int .i64 0, .int .i64 0, .int .i64 0]), 4, 32) := by kernel_rfl
/-- Ops of the program that are owned. -/
def OpP (w : World) (base : Nat) (v : Value) (l : List IOp) : Prop := w.ownsRow base 84 4 v l.length (opC l)
theorem run_appP {w : World} {base B : Nat} {v : Value} {L : List IOp} {o : IOp} (hown : OpP w base v L) (hB : IOpAt w B 0 o) (hb : base ≤ w.heap.size) (hlen : (L.length + 1) * 32 ≤ 140737488355328) (ty : TypeId) :
    ∃ v' w', (Builtin.append_ #[71, 71] ty #[v, .slice (some ⟨B, 0, none⟩) 1 1]).run Tryd.prog w = .ok v' w' ∧ OpP w' base v' (L ++ [o]) ∧ w.grownBy w' v.ownBlock ∧ (v'.ownBlock = v.ownBlock ∨ v'.ownBlock = some w.heap.size) := by
  obtain ⟨i, hi, hz, hsz, hby⟩ := info_parts' infoP84
  have hnews : ∀ j u, (opL o)[j]? = some u → w.cell? ((⟨B, 0, none⟩ : Addr).add j) = some u := by
    intro j u hj
    rw [Addr.add_mid, Nat.zero_add]
    match j, hj with
    | 0, hj => simp [opL] at hj; subst hj; exact hB.1
    | 1, hj => simp [opL] at hj; subst hj; exact hB.2.1
    | 2, hj => simp [opL] at hj; subst hj; exact hB.2.2.1
    | 3, hj => simp [opL] at hj; subst hj; exact hB.2.2.2
    | k + 4, hj => simp [opL] at hj
  obtain ⟨v', w', hr, ho, hg, _, hob⟩ := run_append_own_at (P := Tryd.prog) (w := w) base 71 ty 84 i _ 4 32 Tryd.underlying71 hi hz hsz hby rfl (by decide) v _ _ hown ⟨B, 0, none⟩ 1 1 (opL o) rfl hnews (by simp [opL, Value.oneCell']) (by unfold maxLen; omega) (by omega) hb
  refine ⟨v', w', hr, ?_, hg, hob⟩
  unfold OpP
  rw [opC_app, List.length_append]
  exact ho
theorem opP_q {w : World} {base : Nat} {v : Value} {l : List IOp} (h : OpP w base v l) : ∃ a cap, v = .slice a l.length cap ∧ l.length ≤ cap ∧ IOpsQ w a l := by
  rcases own_cells h with ⟨rfl, h0⟩ | ⟨g, cap, rfl, hc, hg, hk⟩
  · have : l = [] := List.eq_nil_of_length_eq_zero h0
    subst this
    exact ⟨none, 0, rfl, Nat.le_refl _, .inl rfl⟩
  · refine ⟨_, cap, rfl, hc, .inr ⟨g, 0, rfl, hg, fun k hkl => ?_⟩⟩
    have hh : ∀ j, j < 4 → w.cell? ⟨g, 0 + k * 4 + j, none⟩ = (opL l[k])[j]? := fun j hj => by
      rw [Nat.zero_add, hk _ (by omega)]
      exact flat_at (c := opL) (m := 4) (fun _ => rfl) l k j hkl hj
    exact ⟨hh 0 (by omega), hh 1 (by omega), hh 2 (by omega), hh 3 (by omega)⟩
/-- Which blocks and rows the base is made of. -/
structure PrK where
  B : Nat
  T : Nat
  vo : Nat → Value
  vr : Nat → Value
def prO (k : PrK) (c : Bool) (n : Nat) (tm : Int) : Obj := .cells #[.bool c, .int .i64 tm, .slice (some ⟨k.T, 0, none⟩) n n, k.vr 0, k.vr 1, k.vr 2, k.vr 3, k.vr 4, k.vr 5, k.vr 6, k.vr 7] 70 (0, 0)
/-- The program's base in memory. -/
structure PrB (w0 W : World) (k : PrK) (c : Bool) (n : Nat) (st : MvS) : Prop where
  bel : Below w0.heap.size w0 W
  blk : W.heap[k.B]? = some (prO k c n st.tm)
  tb : ∃ cur, W.heap[k.T]? = some (.cells cur 73 (0, 0))
  tx : ∀ t, t < n → W.cell? ⟨k.T, t * 4, none⟩ = some (k.vo t) ∧ W.cell? ⟨k.T, t * 4 + 1, none⟩ = some (.int .i64 (st.bg t)) ∧ W.cell? ⟨k.T, t * 4 + 2, none⟩ = some (.int .i64 (st.en t)) ∧ W.cell? ⟨k.T, t * 4 + 3, none⟩ = some (.bool (st.ov t))
  ops : ∀ t, t < n → OpP W w0.heap.size (k.vo t) (st.ops t)
  rw_ : ∀ q, q < 8 → W.ownsRow w0.heap.size 3 1 (k.vr q) (st.ord q).length (numD (st.ord q))
  lo : w0.heap.size ≤ k.B ∧ w0.heap.size ≤ k.T
  doo : ∀ t u, t < n → u < n → t ≠ u → ∀ b, (k.vo t).ownBlock = some b → (k.vo u).ownBlock ≠ some b
  drr : ∀ p q, p < 8 → q < 8 → p ≠ q → ∀ b, (k.vr p).ownBlock = some b → (k.vr q).ownBlock ≠ some b
/-- The blocks that are its own. -/
def PrK.own (k : PrK) (n b : Nat) : Prop := b = k.B ∨ b = k.T ∨ (∃ t, t < n ∧ (k.vo t).ownBlock = some b) ∨ ∃ q, q < 8 ∧ (k.vr q).ownBlock = some b
section
variable {w0 W W' W1 W2 : World} {k k1 k2 : PrK} {c : Bool} {n : Nat} {st : MvS}
theorem PrB.lt (h : PrB w0 W k c n st) : k.B < W.heap.size := lt_of_heap h.blk
theorem PrB.ltT (h : PrB w0 W k c n st) : k.T < W.heap.size := by
  obtain ⟨_, ht⟩ := h.tb
  exact lt_of_heap ht
theorem PrB.own_lt (h : PrB w0 W k c n st) {b : Nat} (hb : k.own n b) : w0.heap.size ≤ b ∧ b < W.heap.size := by
  rcases hb with rfl | rfl | ⟨t, ht', hb⟩ | ⟨q, hq, hb⟩
  · exact ⟨h.lo.1, h.lt⟩
  · exact ⟨h.lo.2, h.ltT⟩
  · have := ownsRow_block (h.ops t ht') b hb; exact ⟨this.1, this.2.1⟩
  · have := ownsRow_block (h.rw_ q hq) b hb; exact ⟨this.1, this.2.1⟩
/-- What turns no block of it. -/
theorem PrB.keep (h : PrB w0 W k c n st) (hb : Below w0.heap.size w0 W') (hk : ∀ b, k.own n b → W'.heap[b]? = W.heap[b]?) : PrB w0 W' k c n st := by
  obtain ⟨ct, ht⟩ := h.tb
  have eT := hk k.T (.inr (.inl rfl))
  refine ⟨hb, (hk _ (.inl rfl)).trans h.blk, ⟨ct, eT.trans ht⟩, fun t ht' => ?_, fun t ht' => ownsRow_same (h.ops t ht') fun b hb' => hk b (.inr (.inr (.inl ⟨t, ht', hb'⟩))), fun q hq => ownsRow_same (h.rw_ q hq) fun b hb' => hk b (.inr (.inr (.inr ⟨q, hq, hb'⟩))), h.lo, h.doo, h.drr⟩
  obtain ⟨h1, h2, h3, h4⟩ := h.tx t ht'
  exact ⟨(World.cell?_of_block (a := ⟨k.T, t * 4, none⟩) eT).trans h1, (World.cell?_of_block (a := ⟨k.T, t * 4 + 1, none⟩) eT).trans h2, (World.cell?_of_block (a := ⟨k.T, t * 4 + 2, none⟩) eT).trans h3, (World.cell?_of_block (a := ⟨k.T, t * 4 + 3, none⟩) eT).trans h4⟩
theorem PrB.below (h : PrB w0 W k c n st) (hb : Below W.heap.size W W') : PrB w0 W' k c n st :=
  h.keep (belJ h.bel hb) fun b hb' => hb.block b (h.own_lt hb').2
theorem PrB.cells (h : PrB w0 W k c n st) : W.cell? ⟨k.B, 0, none⟩ = some (.bool c) ∧ W.cell? ⟨k.B, 1, none⟩ = some (.int .i64 st.tm) ∧ W.cell? ⟨k.B, 2, none⟩ = some (.slice (some ⟨k.T, 0, none⟩) n n) ∧ ∀ q, q < 8 → W.cell? ⟨k.B, 3 + q, none⟩ = some (k.vr q) := by
  have hb := h.blk
  unfold prO at hb
  refine ⟨?_, ?_, ?_, fun q hq => ?_⟩
  · rw [cell_of_row _ _ _ _ 70 _ hb]; rfl
  · rw [cell_of_row _ _ _ _ 70 _ hb]; rfl
  · rw [cell_of_row _ _ _ _ 70 _ hb]; rfl
  · rw [cell_of_row _ _ _ _ 70 _ hb]
    rcases q with _ | _ | _ | _ | _ | _ | _ | _ | q
    all_goals first | rfl | omega
theorem PrB.fz (h : PrB w0 W k c n st) (i : Nat) : W.frozen? ⟨k.B, i, none⟩ = false := by
  have hb := h.blk
  unfold prO at hb
  exact frozen_of_row _ _ _ _ 70 hb
theorem PrB.fzT (h : PrB w0 W k c n st) (i : Nat) : W.frozen? ⟨k.T, i, none⟩ = false := by
  obtain ⟨cur, hb⟩ := h.tb
  exact frozen_of_row _ _ _ _ 73 hb
/-- A transaction's ops, read. -/
theorem PrB.opq (h : PrB w0 W k c n st) {t : Nat} (ht : t < n) : ∃ a cap, k.vo t = .slice a (st.ops t).length cap ∧ (st.ops t).length ≤ cap ∧ IOpsQ W a (st.ops t) := opP_q (h.ops t ht)
/-- What is turned lies in the base's own blocks; what is its own behind lay so ahead, or is new. -/
def PFr (k : PrK) (n : Nat) (W W' : World) (k' : PrK) : Prop := k'.B = k.B ∧ W.heap.size ≤ W'.heap.size ∧ (∀ b, b < W.heap.size → ¬ k.own n b → W'.heap[b]? = W.heap[b]?) ∧ ∀ b, k'.own n b → k.own n b ∨ W.heap.size ≤ b
theorem PFr.below (h : Below W.heap.size W W') : PFr k n W W' k := ⟨rfl, h.size, fun b hb _ => h.block b hb, fun _ h => .inl h⟩
theorem PFr.trans (h1 : PFr k n W W1 k1) (h2 : PFr k1 n W1 W2 k2) : PFr k n W W2 k2 :=
  ⟨h2.1.trans h1.1, Nat.le_trans h1.2.1 h2.2.1, fun b hb hn => (h2.2.2.1 b (Nat.lt_of_lt_of_le hb h1.2.1) (fun ho => (h1.2.2.2 b ho).elim hn (fun h => by omega))).trans (h1.2.2.1 b hb hn), fun b hb => (h2.2.2.2 b hb).elim (h1.2.2.2 b) fun h => .inr (Nat.le_trans h1.2.1 h)⟩
theorem PFr.set {p : Addr} (hp : k.own n p.block) (u : Value) : PFr k n W (W.setCell p u) k :=
  ⟨rfl, by simp, fun b _ hn => Below.heap_setCell W p u b (fun e => hn (e ▸ hp)), fun _ h => .inl h⟩
theorem PrB.tag (h : PrB w0 W k c n st) : tagD W.heap[k.B]? = 71 ∧ tagD W.heap[k.T]? = 74 := by
  obtain ⟨_, h2⟩ := h.tb
  have h1 := h.blk
  unfold prO at h1
  exact ⟨by rw [h1]; rfl, by rw [h2]; rfl⟩
theorem PrB.tagv (h : PrB w0 W k c n st) : (∀ t, t < n → ∀ b, (k.vo t).ownBlock = some b → tagD W.heap[b]? = 85) ∧ ∀ q, q < 8 → ∀ b, (k.vr q).ownBlock = some b → tagD W.heap[b]? = 4 :=
  ⟨fun t ht _ hb => own_tagD (h.ops t ht) hb, fun q hq _ hb => own_tagD (h.rw_ q hq) hb⟩
theorem PrB.rowsKept (h : PrB w0 W k c n st) {X : Nat → Prop} (hk : ∀ b, b < W.heap.size → ¬ X b → W'.heap[b]? = W.heap[b]?) :
    (∀ t, t < n → (∀ b, (k.vo t).ownBlock = some b → ¬ X b) → OpP W' w0.heap.size (k.vo t) (st.ops t)) ∧
    (∀ q, q < 8 → (∀ b, (k.vr q).ownBlock = some b → ¬ X b) → W'.ownsRow w0.heap.size 3 1 (k.vr q) (st.ord q).length (numD (st.ord q))) :=
  ⟨fun t ht' hx => ownsRow_same (h.ops t ht') fun b hb => hk b (h.own_lt (.inr (.inr (.inl ⟨t, ht', hb⟩)))).2 (hx b hb), fun q hq hx => ownsRow_same (h.rw_ q hq) fun b hb => hk b (h.own_lt (.inr (.inr (.inr ⟨q, hq, hb⟩)))).2 (hx b hb)⟩
/-- The time. -/
theorem PrB.setTm (h : PrB w0 W k c n st) (x : Int) : PrB w0 (W.setCell ⟨k.B, 1, none⟩ (.int .i64 x)) k c n { st with tm := x } := by
  obtain ⟨t1, t2⟩ := h.tag
  obtain ⟨v3, v4⟩ := h.tagv
  have hk : ∀ b, b < W.heap.size → ¬ b = k.B → (W.setCell ⟨k.B, 1, none⟩ (.int .i64 x)).heap[b]? = W.heap[b]? := fun b _ hb => Below.heap_setCell W ⟨k.B, 1, none⟩ _ b hb
  obtain ⟨k3, k5⟩ := h.rowsKept (X := fun b => b = k.B) hk
  have eT := hk k.T h.ltT (ne_tagD t2 t1 (by decide))
  obtain ⟨ct, ht⟩ := h.tb
  refine ⟨h.bel.setCell (p := ⟨k.B, 1, none⟩) h.lo.1 _, ?_, ⟨ct, eT.trans ht⟩, fun t ht' => ?_, fun t ht => k3 t ht fun b hb => ne_tagD (v3 t ht b hb) t1 (by decide), fun q hq => k5 q hq fun b hb => ne_tagD (v4 q hq b hb) t1 (by decide), h.lo, h.doo, h.drr⟩
  · exact heap_setCell_same W k.B 1 _ 70 _ h.blk
  · obtain ⟨h1, h2, h3, h4⟩ := h.tx t ht'
    exact ⟨(World.cell?_of_block (a := ⟨k.T, t * 4, none⟩) eT).trans h1, (World.cell?_of_block (a := ⟨k.T, t * 4 + 1, none⟩) eT).trans h2, (World.cell?_of_block (a := ⟨k.T, t * 4 + 2, none⟩) eT).trans h3, (World.cell?_of_block (a := ⟨k.T, t * 4 + 3, none⟩) eT).trans h4⟩
/-- One of the numbers of a transaction. -/
theorem PrB.setT (h : PrB w0 W k c n st) {t j : Nat} (ht : t < n) (hj : 1 ≤ j ∧ j < 4) (u : Value) {st' : MvS} (e1 : st'.tm = st.tm) (e2 : st'.ops = st.ops) (e3 : st'.ord = st.ord)
    (hb : ∀ x, x < n → st'.bg x = st.bg x ∨ (x = t ∧ j = 1 ∧ u = .int .i64 (st'.bg x))) (he : ∀ x, x < n → st'.en x = st.en x ∨ (x = t ∧ j = 2 ∧ u = .int .i64 (st'.en x))) (ho : ∀ x, x < n → st'.ov x = st.ov x ∨ (x = t ∧ j = 3 ∧ u = .bool (st'.ov x)))
    (hu : (j = 1 → u = .int .i64 (st'.bg t)) ∧ (j = 2 → u = .int .i64 (st'.en t)) ∧ (j = 3 → u = .bool (st'.ov t))) : PrB w0 (W.setCell ⟨k.T, t * 4 + j, none⟩ u) k c n st' := by
  obtain ⟨t1, t2⟩ := h.tag
  obtain ⟨v3, v4⟩ := h.tagv
  have hk : ∀ b, b < W.heap.size → ¬ b = k.T → (W.setCell ⟨k.T, t * 4 + j, none⟩ u).heap[b]? = W.heap[b]? := fun b _ hb => Below.heap_setCell W ⟨k.T, t * 4 + j, none⟩ _ b hb
  obtain ⟨k3, k5⟩ := h.rowsKept (X := fun b => b = k.T) hk
  have eB := hk k.B h.lt (ne_tagD t1 t2 (by decide))
  obtain ⟨ct, hct⟩ := h.tb
  obtain ⟨ct', hct', _⟩ := heap_setCell hct (t * 4 + j) u
  refine ⟨h.bel.setCell (p := ⟨k.T, t * 4 + j, none⟩) h.lo.2 _, by rw [e1]; exact eB.trans h.blk, ⟨ct', hct'⟩, fun x hx => ?_, fun x hx => by rw [e2]; exact k3 x hx fun b hb => ne_tagD (v3 x hx b hb) t2 (by decide), fun q hq => by rw [e3]; exact k5 q hq fun b hb => ne_tagD (v4 q hq b hb) t2 (by decide), h.lo, h.doo, h.drr⟩
  obtain ⟨h1, h2, h3, h4⟩ := h.tx x hx
  have cellJ : ∀ (i : Nat) (v v' : Value), i < 4 → W.cell? ⟨k.T, x * 4 + i, none⟩ = some v → ((¬ (x = t ∧ i = j) → v' = v) ∧ (x = t → i = j → v' = u)) → (W.setCell ⟨k.T, t * 4 + j, none⟩ u).cell? ⟨k.T, x * 4 + i, none⟩ = some v' := fun i v v' hi hv hv' => by
    by_cases e : x = t ∧ i = j
    · obtain ⟨rfl, rfl⟩ := e
      rw [hv'.2 rfl rfl]
      exact World.cell?_setCell_same' _ _ _ (by rw [hv]; rfl)
    · rw [hv'.1 e, World.cell?_setCell_other _ _ _ _ (offNe (by omega))]
      exact hv
  refine ⟨cellJ 0 _ _ (by omega) h1 ⟨fun _ => rfl, fun _ e => by omega⟩, cellJ 1 _ _ (by omega) h2 ⟨fun hn => ?_, fun e1 e2 => ?_⟩, cellJ 2 _ _ (by omega) h3 ⟨fun hn => ?_, fun e1 e2 => ?_⟩, cellJ 3 _ _ (by omega) h4 ⟨fun hn => ?_, fun e1 e2 => ?_⟩⟩
  · rcases hb x hx with e | ⟨e, e', _⟩
    · rw [e]
    · exact absurd ⟨e, e'.symm⟩ hn
  · rw [e1]; exact (hu.1 e2.symm).symm
  · rcases he x hx with e | ⟨e, e', _⟩
    · rw [e]
    · exact absurd ⟨e, e'.symm⟩ hn
  · rw [e1]; exact (hu.2.1 e2.symm).symm
  · rcases ho x hx with e | ⟨e, e', _⟩
    · rw [e]
    · exact absurd ⟨e, e'.symm⟩ hn
  · rw [e1]; exact (hu.2.2 e2.symm).symm
theorem PrB.setBg (h : PrB w0 W k c n st) {t : Nat} (ht : t < n) (x : Int) : PrB w0 (W.setCell ⟨k.T, t * 4 + 1, none⟩ (.int .i64 x)) k c n { st with bg := updM st.bg t x } :=
  h.setT ht (by omega) _ rfl rfl rfl (fun y _ => by
    by_cases e : y = t
    · exact .inr ⟨e, rfl, by rw [e]; show _ = Value.int .i64 (updM st.bg t x t); rw [updM_same]⟩
    · exact .inl (updM_ne _ _ e)) (fun _ _ => .inl rfl) (fun _ _ => .inl rfl) ⟨fun _ => by show _ = Value.int .i64 (updM st.bg t x t); rw [updM_same], fun e => by omega, fun e => by omega⟩
theorem PrB.setEn (h : PrB w0 W k c n st) {t : Nat} (ht : t < n) (x : Int) : PrB w0 (W.setCell ⟨k.T, t * 4 + 2, none⟩ (.int .i64 x)) k c n { st with en := updM st.en t x } :=
  h.setT ht (by omega) _ rfl rfl rfl (fun _ _ => .inl rfl) (fun y _ => by
    by_cases e : y = t
    · exact .inr ⟨e, rfl, by rw [e]; show _ = Value.int .i64 (updM st.en t x t); rw [updM_same]⟩
    · exact .inl (updM_ne _ _ e)) (fun _ _ => .inl rfl) ⟨fun e => by omega, fun _ => by show _ = Value.int .i64 (updM st.en t x t); rw [updM_same], fun e => by omega⟩
theorem PrB.setOv (h : PrB w0 W k c n st) {t : Nat} (ht : t < n) : PrB w0 (W.setCell ⟨k.T, t * 4 + 3, none⟩ (.bool true)) k c n { st with ov := updM st.ov t true } :=
  h.setT ht (by omega) _ rfl rfl rfl (fun _ _ => .inl rfl) (fun _ _ => .inl rfl) (fun y _ => by
    by_cases e : y = t
    · exact .inr ⟨e, rfl, by rw [e]; show _ = Value.bool (updM st.ov t true t); rw [updM_same]⟩
    · exact .inl (updM_ne _ _ e)) ⟨fun e => by omega, fun e => by omega, fun _ => by show _ = Value.bool (updM st.ov t true t); rw [updM_same]⟩
theorem PrB.same (h : PrB w0 W k c n st) {st' : MvS} (e1 : st'.tm = st.tm) (e2 : ∀ t, t < n → st'.ops t = st.ops t ∧ st'.bg t = st.bg t ∧ st'.en t = st.en t ∧ st'.ov t = st.ov t) (e3 : ∀ q, q < 8 → st'.ord q = st.ord q) : PrB w0 W k c n st' :=
  ⟨h.bel, by rw [e1]; exact h.blk, h.tb, fun t ht => by rw [(e2 t ht).2.1, (e2 t ht).2.2.1, (e2 t ht).2.2.2]; exact h.tx t ht, fun t ht => by rw [(e2 t ht).1]; exact h.ops t ht, fun q hq => by rw [e3 q hq]; exact h.rw_ q hq, h.lo, h.doo, h.drr⟩
theorem PrK.updO_own {t : Nat} {v' : Value} {s : Nat} (hv : v'.ownBlock = (k.vo t).ownBlock ∨ v'.ownBlock = some s) (ht : t < n) (b : Nat) (hb : ({ k with vo := updM k.vo t v' } : PrK).own n b) : k.own n b ∨ b = s := by
  rcases hb with hb | hb | ⟨u, hu, hb⟩ | hb
  · exact .inl (.inl hb)
  · exact .inl (.inr (.inl hb))
  · by_cases e : u = t
    · subst e
      have hb : (updM k.vo u v' u).ownBlock = some b := hb
      rw [updM_same] at hb
      rcases hv with e | e
      · exact .inl (.inr (.inr (.inl ⟨u, ht, by rw [← e]; exact hb⟩)))
      · rw [e] at hb; exact .inr (by simpa using hb.symm)
    · have hb : (updM k.vo t v' u).ownBlock = some b := hb
      rw [updM_ne _ _ e] at hb
      exact .inl (.inr (.inr (.inl ⟨u, hu, hb⟩)))
  · exact .inl (.inr (.inr (.inr hb)))
theorem PrK.updR_own {t : Nat} {v' : Value} {s : Nat} (hv : v'.ownBlock = (k.vr t).ownBlock ∨ v'.ownBlock = some s) (ht : t < 8) (b : Nat) (hb : ({ k with vr := updM k.vr t v' } : PrK).own n b) : k.own n b ∨ b = s := by
  rcases hb with hb | hb | hb | ⟨u, hu, hb⟩
  · exact .inl (.inl hb)
  · exact .inl (.inr (.inl hb))
  · exact .inl (.inr (.inr (.inl hb)))
  · by_cases e : u = t
    · subst e
      have hb : (updM k.vr u v' u).ownBlock = some b := hb
      rw [updM_same] at hb
      rcases hv with e | e
      · exact .inl (.inr (.inr (.inr ⟨u, ht, by rw [← e]; exact hb⟩)))
      · rw [e] at hb; exact .inr (by simpa using hb.symm)
    · have hb : (updM k.vr t v' u).ownBlock = some b := hb
      rw [updM_ne _ _ e] at hb
      exact .inl (.inr (.inr (.inr ⟨u, hu, hb⟩)))
/-- One more op. -/
theorem PrB.pushO (h : PrB w0 W k c n st) {t : Nat} (ht : t < n) {o : IOp} {v' : Value} (ho : OpP W1 w0.heap.size v' (st.ops t ++ [o])) (hg : W.grownBy W1 (k.vo t).ownBlock) (hv : v'.ownBlock = (k.vo t).ownBlock ∨ v'.ownBlock = some W.heap.size) :
    PrB w0 (W1.setCell ⟨k.T, t * 4, none⟩ v') { k with vo := updM k.vo t v' } c n { st with ops := updM st.ops t (st.ops t ++ [o]) } ∧ PFr k n W (W1.setCell ⟨k.T, t * 4, none⟩ v') { k with vo := updM k.vo t v' } := by
  obtain ⟨t1, t2⟩ := h.tag
  obtain ⟨v3, v4⟩ := h.tagv
  have hbk : ∀ b, b < W.heap.size → ¬ (b = k.T ∨ (k.vo t).ownBlock = some b) → (W1.setCell ⟨k.T, t * 4, none⟩ v').heap[b]? = W.heap[b]? := fun b hb hn => (Below.heap_setCell W1 ⟨k.T, t * 4, none⟩ v' b fun e => hn (.inl e)).trans (hg.block b hb fun e => hn (.inr e.symm))
  obtain ⟨k3, k5⟩ := h.rowsKept (W' := W1.setCell ⟨k.T, t * 4, none⟩ v') (X := fun b => b = k.T ∨ (k.vo t).ownBlock = some b) hbk
  have nX : ∀ {b x : Nat}, tagD W.heap[b]? = x → x ≠ 74 → x ≠ 85 → ¬ (b = k.T ∨ (k.vo t).ownBlock = some b) := fun hx h1 h2 e => e.elim (fun e => ne_tagD hx t2 h1 e) fun e => ne_tagD hx (v3 t ht _ e) h2 rfl
  have hT : W1.heap[k.T]? = W.heap[k.T]? := hg.block k.T h.ltT fun e => ne_tagD t2 (v3 t ht _ e.symm) (by decide) rfl
  obtain ⟨ct, hct⟩ := h.tb
  obtain ⟨ct', hct', _⟩ := heap_setCell (hT.trans hct) (t * 4) v'
  have hc1 : ∀ i, W1.cell? ⟨k.T, i, none⟩ = W.cell? ⟨k.T, i, none⟩ := fun i => World.cell?_of_block (a := ⟨k.T, i, none⟩) hT
  have hTl := h.ltT
  have off : ∀ {i : Nat}, i ≠ t * 4 → (W1.setCell ⟨k.T, t * 4, none⟩ v').cell? ⟨k.T, i, none⟩ = W.cell? ⟨k.T, i, none⟩ := fun hi => (World.cell?_setCell_other _ _ _ _ (offNe (Ne.symm hi))).trans (hc1 _)
  refine ⟨⟨(h.bel.grown hg h.bel.size fun b hb => (ownsRow_block (h.ops t ht) b hb).1).setCell (p := ⟨k.T, t * 4, none⟩) h.lo.2 _, (hbk _ h.lt (nX t1 (by decide) (by decide))).trans h.blk, ⟨ct', hct'⟩, fun u hu => ?_, fun u hu => ?_, fun q hq => k5 q hq fun b hb => nX (v4 q hq b hb) (by decide) (by decide), h.lo, fun a u ha hu hne b hb => ?_, h.drr⟩, rfl, ?_, fun b hb hn => hbk b hb fun e => hn (e.elim (fun e => .inr (.inl e)) fun e => .inr (.inr (.inl ⟨t, ht, e⟩))), fun b hb => (PrK.updO_own hv ht b hb).imp id fun e => by omega⟩
  · obtain ⟨h1, h2, h3, h4⟩ := h.tx u hu
    refine ⟨?_, (off (by omega)).trans h2, (off (by omega)).trans h3, (off (by omega)).trans h4⟩
    show _ = some (updM k.vo t v' u)
    by_cases e : u = t
    · subst e
      rw [updM_same]
      exact World.cell?_setCell_same' _ _ _ (by rw [hc1, h1]; rfl)
    · rw [updM_ne _ _ e]
      exact (off (by omega)).trans h1
  · show OpP _ _ (updM k.vo t v' u) (updM st.ops t (st.ops t ++ [o]) u)
    by_cases e : u = t
    · subst e
      rw [updM_same, updM_same]
      refine ownsRow_same ho fun b hb => Below.heap_setCell W1 ⟨k.T, u * 4, none⟩ v' b ?_
      rcases hv with e | e
      · rw [e] at hb; exact ne_tagD (v3 u hu b hb) t2 (by decide)
      · rw [e] at hb
        obtain rfl : W.heap.size = b := by simpa using hb
        show W.heap.size ≠ k.T
        omega
    · rw [updM_ne _ _ e, updM_ne _ _ e]
      exact k3 u hu fun b hb hx => hx.elim (fun e' => ne_tagD (v3 u hu b hb) t2 (by decide) e') fun e' => h.doo t u ht hu (Ne.symm e) b e' hb
  · replace hb : (updM k.vo t v' a).ownBlock = some b := hb
    show (updM k.vo t v' u).ownBlock ≠ some b
    by_cases ea : a = t
    · subst ea
      rw [updM_same] at hb
      rw [updM_ne _ _ (Ne.symm hne)]
      intro hc
      rcases hv with e | e
      · rw [e] at hb; exact h.doo a u ha hu hne b hb hc
      · rw [e] at hb
        obtain rfl : W.heap.size = b := by simpa using hb
        have := (ownsRow_block (h.ops u hu) _ hc).2.1
        omega
    · rw [updM_ne _ _ ea] at hb
      by_cases eu : u = t
      · subst eu
        rw [updM_same]
        intro hc
        rcases hv with e | e
        · rw [e] at hc; exact h.doo a u ha hu hne b hb hc
        · rw [e] at hc
          obtain rfl : W.heap.size = b := by simpa using hc
          have := (ownsRow_block (h.ops a ha) _ hb).2.1
          omega
      · rw [updM_ne _ _ eu]; exact h.doo a u ha hu hne b hb
  · have := hg.size
    simp
    exact this
/-- One more that commits a key. -/
theorem PrB.pushR (h : PrB w0 W k c n st) {q : Nat} (hq : q < 8) {t : Nat} {v' : Value} (ho : W1.ownsRow w0.heap.size 3 1 v' (st.ord q ++ [t]).length (numD (st.ord q ++ [t]))) (hg : W.grownBy W1 (k.vr q).ownBlock) (hv : v'.ownBlock = (k.vr q).ownBlock ∨ v'.ownBlock = some W.heap.size) :
    PrB w0 (W1.setCell ⟨k.B, 3 + q, none⟩ v') { k with vr := updM k.vr q v' } c n { st with ord := updM st.ord q (st.ord q ++ [t]) } ∧ PFr k n W (W1.setCell ⟨k.B, 3 + q, none⟩ v') { k with vr := updM k.vr q v' } := by
  obtain ⟨t1, t2⟩ := h.tag
  obtain ⟨v3, v4⟩ := h.tagv
  have hbk : ∀ b, b < W.heap.size → ¬ (b = k.B ∨ (k.vr q).ownBlock = some b) → (W1.setCell ⟨k.B, 3 + q, none⟩ v').heap[b]? = W.heap[b]? := fun b hb hn => (Below.heap_setCell W1 ⟨k.B, 3 + q, none⟩ v' b fun e => hn (.inl e)).trans (hg.block b hb fun e => hn (.inr e.symm))
  obtain ⟨k3, k5⟩ := h.rowsKept (W' := W1.setCell ⟨k.B, 3 + q, none⟩ v') (X := fun b => b = k.B ∨ (k.vr q).ownBlock = some b) hbk
  have nX : ∀ {b x : Nat}, tagD W.heap[b]? = x → x ≠ 71 → x ≠ 4 → ¬ (b = k.B ∨ (k.vr q).ownBlock = some b) := fun hx h1 h2 e => e.elim (fun e => ne_tagD hx t1 h1 e) fun e => ne_tagD hx (v4 q hq _ e) h2 rfl
  have hB : W1.heap[k.B]? = W.heap[k.B]? := hg.block k.B h.lt fun e => ne_tagD t1 (v4 q hq _ e.symm) (by decide) rfl
  have eT := hbk k.T h.ltT (nX t2 (by decide) (by decide))
  obtain ⟨ct, hct⟩ := h.tb
  have hBl := h.lt
  refine ⟨⟨(h.bel.grown hg h.bel.size fun b hb => (ownsRow_block (h.rw_ q hq) b hb).1).setCell (p := ⟨k.B, 3 + q, none⟩) h.lo.1 _, ?_, ⟨ct, eT.trans hct⟩, fun u hu => ?_, fun u hu => k3 u hu fun b hb => nX (v3 u hu b hb) (by decide) (by decide), fun p hp => ?_, h.lo, h.doo, fun a u ha hu hne b hb => ?_⟩, rfl, ?_, fun b hb hn => hbk b hb fun e => hn (e.elim (fun e => .inl e) fun e => .inr (.inr (.inr ⟨q, hq, e⟩))), fun b hb => (PrK.updR_own hv hq b hb).imp id fun e => by omega⟩
  · refine (heap_setCell_same W1 k.B (3 + q) _ 70 _ (hB.trans h.blk)).trans ?_
    unfold prO
    rcases q with _ | _ | _ | _ | _ | _ | _ | _ | q
    all_goals first | rfl | omega
  · obtain ⟨h1, h2, h3, h4⟩ := h.tx u hu
    exact ⟨(World.cell?_of_block (a := ⟨k.T, u * 4, none⟩) eT).trans h1, (World.cell?_of_block (a := ⟨k.T, u * 4 + 1, none⟩) eT).trans h2, (World.cell?_of_block (a := ⟨k.T, u * 4 + 2, none⟩) eT).trans h3, (World.cell?_of_block (a := ⟨k.T, u * 4 + 3, none⟩) eT).trans h4⟩
  · show World.ownsRow _ _ _ _ (updM k.vr q v' p) (updM st.ord q (st.ord q ++ [t]) p).length (numD (updM st.ord q (st.ord q ++ [t]) p))
    by_cases e : p = q
    · subst e
      rw [updM_same, updM_same]
      refine ownsRow_same ho fun b hb => Below.heap_setCell W1 ⟨k.B, 3 + p, none⟩ v' b ?_
      rcases hv with e | e
      · rw [e] at hb; exact ne_tagD (v4 p hp b hb) t1 (by decide)
      · rw [e] at hb
        obtain rfl : W.heap.size = b := by simpa using hb
        show W.heap.size ≠ k.B
        omega
    · rw [updM_ne _ _ e, updM_ne _ _ e]
      exact k5 p hp fun b hb hx => hx.elim (fun e' => ne_tagD (v4 p hp b hb) t1 (by decide) e') fun e' => h.drr q p hq hp (Ne.symm e) b e' hb
  · replace hb : (updM k.vr q v' a).ownBlock = some b := hb
    show (updM k.vr q v' u).ownBlock ≠ some b
    by_cases ea : a = q
    · subst ea
      rw [updM_same] at hb
      rw [updM_ne _ _ (Ne.symm hne)]
      intro hc
      rcases hv with e | e
      · rw [e] at hb; exact h.drr a u ha hu hne b hb hc
      · rw [e] at hb
        obtain rfl : W.heap.size = b := by simpa using hb
        have := (ownsRow_block (h.rw_ u hu) _ hc).2.1
        omega
    · rw [updM_ne _ _ ea] at hb
      by_cases eu : u = q
      · subst eu
        rw [updM_same]
        intro hc
        rcases hv with e | e
        · rw [e] at hc; exact h.drr a u ha hu hne b hb hc
        · rw [e] at hc
          obtain rfl : W.heap.size = b := by simpa using hc
          have := (ownsRow_block (h.rw_ a ha) _ hb).2.1
          omega
      · rw [updM_ne _ _ eu]; exact h.drr a u ha hu hne b hb
  · have := hg.size
    simp
    exact this
end
end Go.Proofs.YtaopigjhdkdklaaDoor
