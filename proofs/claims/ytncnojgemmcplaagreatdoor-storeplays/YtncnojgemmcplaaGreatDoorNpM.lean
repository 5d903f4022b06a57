/-
  The program's net in memory: mails on their way, and who can talk.
-/
import Derived.Test.YtncnojgemmcplaaGreatDoorMpKZ
import Derived.Test.YtncnojgemmcplaaGreatDoorRgLZ
import Derived.Laws.AppendOwn
import Derived.ArgAppend
import Derived.Deep.DeepCutAuto
namespace Go.Proofs.YtncnojgemmcplaaGreatDoor.St
open Go.RowKit

/-- A mail of the program's. -/
structure Mq where
  fr : Int
  tt : Int
  key : Int
  rd : Int
  tells : Bool
  t : Int
  c : Int
  v : Int
def mqC (m : Mq) : List Value := [.int .i64 m.fr, .int .i64 m.tt, .int .i64 m.key, .int .i64 m.rd, .bool m.tells, .int .i64 m.t, .int .i64 m.c, .int .i64 m.v]
def mqV (m : Mq) : Value := .agg #[.int .i64 m.fr, .int .i64 m.tt, .int .i64 m.key, .int .i64 m.rd, .bool m.tells, .int .i64 m.t, .int .i64 m.c, .int .i64 m.v]
def mq0 : Mq := ⟨0, 0, 0, 0, false, 0, 0, 0⟩
def mqCs (L : List Mq) : List Value := L.flatMap mqC
theorem mqCs_app (L M : List Mq) : mqCs (L ++ M) = mqCs L ++ mqCs M := by simp [mqCs]
theorem mqCs_one (m : Mq) : mqCs [m] = mqC m := by simp [mqCs]
theorem mqCs_len (L : List Mq) : (mqCs L).length = L.length * 8 := by
  induction L with
  | nil => rfl
  | cons m L ih => rw [show m :: L = [m] ++ L from rfl, mqCs_app, List.length_append, ih, mqCs_one]; simp [mqC]; omega
theorem mqC_one {m : Mq} {u : Value} (h : u ∈ mqC m) : u.oneCell' = true := by
  simp [mqC] at h
  rcases h with rfl | rfl | rfl | rfl | rfl | rfl | rfl | rfl <;> rfl
theorem mqCs_ones {L : List Mq} {u : Value} (h : u ∈ mqCs L) : u.oneCell' = true := by
  obtain ⟨m, _, hm⟩ := List.mem_flatMap.1 h
  exact mqC_one hm
theorem infoMq : (Tryz.prog.info? 127).map (fun i => (i.zero, i.size, i.bytes)) = some (some (Value.agg #[.int .i64 0, .int .i64 0, .int .i64 0, .int .i64 0, .bool false, .int .i64 0, .int .i64 0, .int .i64 0]), 8, 64) := by kernel_rfl
theorem sizeMq : (Tryz.prog.info? 127).map (·.size) = some 8 := by kernel_rfl
theorem blkMq {w : World} {b : Nat} {t : TypeId} {m : Mq} (h : w.heap[b]? = some (.cells #[.int .i64 m.fr, .int .i64 m.tt, .int .i64 m.key, .int .i64 m.rd, .bool m.tells, .int .i64 m.t, .int .i64 m.c, .int .i64 m.v] t)) : w.cell? ⟨b, 0, none⟩ = some (.int .i64 m.fr) ∧ w.cell? ⟨b, 1, none⟩ = some (.int .i64 m.tt) ∧ w.cell? ⟨b, 2, none⟩ = some (.int .i64 m.key) ∧ w.cell? ⟨b, 3, none⟩ = some (.int .i64 m.rd) ∧ w.cell? ⟨b, 4, none⟩ = some (.bool m.tells) ∧ w.cell? ⟨b, 5, none⟩ = some (.int .i64 m.t) ∧ w.cell? ⟨b, 6, none⟩ = some (.int .i64 m.c) ∧ w.cell? ⟨b, 7, none⟩ = some (.int .i64 m.v) :=
  ⟨by rw [cell_of_row _ _ _ _ t _ h]; rfl, by rw [cell_of_row _ _ _ _ t _ h]; rfl, by rw [cell_of_row _ _ _ _ t _ h]; rfl, by rw [cell_of_row _ _ _ _ t _ h]; rfl, by rw [cell_of_row _ _ _ _ t _ h]; rfl, by rw [cell_of_row _ _ _ _ t _ h]; rfl, by rw [cell_of_row _ _ _ _ t _ h]; rfl, by rw [cell_of_row _ _ _ _ t _ h]; rfl⟩
theorem mqCs_at {L : List Mq} {k j : Nat} (hk : k < L.length) {u : Value} (h : (mqC L[k])[j]? = some u) : (mqCs L)[k * 8 + j]? = some u := by
  have := flat_at (c := mqC) (m := 8) (fun _ => rfl) L k j hk (by have := (List.getElem?_eq_some_iff.1 h).1; exact this)
  unfold mqCs
  rw [this]; exact h
theorem mqCs_drop {L : List Mq} {k j : Nat} (hk : k ≤ L.length) {u : Value} (h : (mqCs (L.drop k))[j]? = some u) : (mqCs L)[k * 8 + j]? = some u := by
  have hl : (mqCs (L.take k)).length = k * 8 := by rw [mqCs_len, List.length_take, Nat.min_eq_left hk]
  rw [← List.take_append_drop k L, mqCs_app, List.getElem?_append_right (by omega), hl, show k * 8 + j - k * 8 = j by omega]
  exact h
/-- A block of one mail, set whole. -/
theorem setMq {W : World} {b : Nat} {t : TypeId} {x0 x1 x2 x3 x4 x5 x6 x7 y0 y1 y2 y3 y4 y5 y6 y7 : Value} (h : W.heap[b]? = some (.cells #[x0, x1, x2, x3, x4, x5, x6, x7] t (0, 0))) : (((((((((W).setCell ⟨b, 0, none⟩ (y0)).setCell ⟨b, 1, none⟩ (y1)).setCell ⟨b, 2, none⟩ (y2)).setCell ⟨b, 3, none⟩ (y3)).setCell ⟨b, 4, none⟩ (y4)).setCell ⟨b, 5, none⟩ (y5)).setCell ⟨b, 6, none⟩ (y6)).setCell ⟨b, 7, none⟩ (y7)).heap[b]? = some (.cells #[y0, y1, y2, y3, y4, y5, y6, y7] t (0, 0)) := by
  have h0 : ((W).setCell ⟨b, 0, none⟩ y0).heap[b]? = some (.cells #[y0, x1, x2, x3, x4, x5, x6, x7] t (0, 0)) := heap_setCell_same _ b 0 _ t _ h
  have h1 : (((W).setCell ⟨b, 0, none⟩ y0).setCell ⟨b, 1, none⟩ y1).heap[b]? = some (.cells #[y0, y1, x2, x3, x4, x5, x6, x7] t (0, 0)) := heap_setCell_same _ b 1 _ t _ h0
  have h2 : ((((W).setCell ⟨b, 0, none⟩ y0).setCell ⟨b, 1, none⟩ y1).setCell ⟨b, 2, none⟩ y2).heap[b]? = some (.cells #[y0, y1, y2, x3, x4, x5, x6, x7] t (0, 0)) := heap_setCell_same _ b 2 _ t _ h1
  have h3 : (((((W).setCell ⟨b, 0, none⟩ y0).setCell ⟨b, 1, none⟩ y1).setCell ⟨b, 2, none⟩ y2).setCell ⟨b, 3, none⟩ y3).heap[b]? = some (.cells #[y0, y1, y2, y3, x4, x5, x6, x7] t (0, 0)) := heap_setCell_same _ b 3 _ t _ h2
  have h4 : ((((((W).setCell ⟨b, 0, none⟩ y0).setCell ⟨b, 1, none⟩ y1).setCell ⟨b, 2, none⟩ y2).setCell ⟨b, 3, none⟩ y3).setCell ⟨b, 4, none⟩ y4).heap[b]? = some (.cells #[y0, y1, y2, y3, y4, x5, x6, x7] t (0, 0)) := heap_setCell_same _ b 4 _ t _ h3
  have h5 : (((((((W).setCell ⟨b, 0, none⟩ y0).setCell ⟨b, 1, none⟩ y1).setCell ⟨b, 2, none⟩ y2).setCell ⟨b, 3, none⟩ y3).setCell ⟨b, 4, none⟩ y4).setCell ⟨b, 5, none⟩ y5).heap[b]? = some (.cells #[y0, y1, y2, y3, y4, y5, x6, x7] t (0, 0)) := heap_setCell_same _ b 5 _ t _ h4
  have h6 : ((((((((W).setCell ⟨b, 0, none⟩ y0).setCell ⟨b, 1, none⟩ y1).setCell ⟨b, 2, none⟩ y2).setCell ⟨b, 3, none⟩ y3).setCell ⟨b, 4, none⟩ y4).setCell ⟨b, 5, none⟩ y5).setCell ⟨b, 6, none⟩ y6).heap[b]? = some (.cells #[y0, y1, y2, y3, y4, y5, y6, x7] t (0, 0)) := heap_setCell_same _ b 6 _ t _ h5
  have h7 : (((((((((W).setCell ⟨b, 0, none⟩ y0).setCell ⟨b, 1, none⟩ y1).setCell ⟨b, 2, none⟩ y2).setCell ⟨b, 3, none⟩ y3).setCell ⟨b, 4, none⟩ y4).setCell ⟨b, 5, none⟩ y5).setCell ⟨b, 6, none⟩ y6).setCell ⟨b, 7, none⟩ y7).heap[b]? = some (.cells #[y0, y1, y2, y3, y4, y5, y6, y7] t (0, 0)) := heap_setCell_same _ b 7 _ t _ h6
  exact h7
theorem setMq_bel {B : Nat} {w W : World} {b : Nat} (y0 y1 y2 y3 y4 y5 y6 y7 : Value) (h : Below B w W) (hb : B ≤ b) : Below B w (((((((((W).setCell ⟨b, 0, none⟩ (y0)).setCell ⟨b, 1, none⟩ (y1)).setCell ⟨b, 2, none⟩ (y2)).setCell ⟨b, 3, none⟩ (y3)).setCell ⟨b, 4, none⟩ (y4)).setCell ⟨b, 5, none⟩ (y5)).setCell ⟨b, 6, none⟩ (y6)).setCell ⟨b, 7, none⟩ (y7)) :=
  ((((((((h).setCell (p := ⟨b, 0, none⟩) hb _).setCell (p := ⟨b, 1, none⟩) hb _).setCell (p := ⟨b, 2, none⟩) hb _).setCell (p := ⟨b, 3, none⟩) hb _).setCell (p := ⟨b, 4, none⟩) hb _).setCell (p := ⟨b, 5, none⟩) hb _).setCell (p := ⟨b, 6, none⟩) hb _).setCell (p := ⟨b, 7, none⟩) hb _
theorem grown_setCell (w : World) (a : Addr) (u : Value) : w.grownBy (w.setCell a u) (some a.block) :=
  ⟨rfl, rfl, rfl, by simp [World.setCell], fun k _ hne => by
    have : a.block ≠ k := fun e => hne (by rw [e])
    simp [World.setCell, Array.getElem?_modify, this]⟩
theorem grown_drew (w : World) : w.grownBy w.drew none := ⟨rfl, rfl, rfl, Nat.le_refl _, fun _ _ _ => rfl⟩
theorem grown_below {w w' : World} (h : Below w.heap.size w w') : w.grownBy w' none := ⟨h.os, h.tape, h.output, h.size, fun k hk _ => h.block k hk⟩
/-- The net lies in block B from cell o on. -/
structure NetP (w : World) (base B o : Nat) (lv v : Value) (L : List Mq) : Prop where
  c0 : w.cell? ⟨B, o, none⟩ = some v
  c1 : w.cell? ⟨B, o + 1, none⟩ = some lv
  f0 : w.frozen? ⟨B, o, none⟩ = false
  row : w.ownsRow base 127 8 v L.length (mqCs L)
  lo : base ≤ w.heap.size
  ne : v.ownBlock ≠ some B
section
variable {w w' : World} {base B o : Nat} {lv v : Value} {L : List Mq}
theorem NetP.slice (h : NetP w base B o lv v L) : ∃ a cap, v = .slice a L.length cap := ownsRow_slice h.row
theorem NetP.lt (h : NetP w base B o lv v L) : B < w.heap.size := World.block_lt_of_cell? w _ h.c0
theorem NetP.keep (h : NetP w base B o lv v L) (hb : w'.heap[B]? = w.heap[B]?) (hv : ∀ b, v.ownBlock = some b → w'.heap[b]? = w.heap[b]?) (hs : w.heap.size ≤ w'.heap.size) : NetP w' base B o lv v L :=
  ⟨(World.cell?_of_block (a := ⟨B, o, none⟩) hb).trans h.c0, (World.cell?_of_block (a := ⟨B, o + 1, none⟩) hb).trans h.c1, (World.frozen?_of_block (a := ⟨B, o, none⟩) hb).trans h.f0, ownsRow_same h.row hv, Nat.le_trans h.lo hs, h.ne⟩
theorem NetP.below (h : NetP w base B o lv v L) (hb : Below w.heap.size w w') : NetP w' base B o lv v L :=
  h.keep (hb.block B h.lt) (fun b hv => hb.block b (ownsRow_block h.row b hv).2.1) hb.size
/-- A mail that is there. -/
theorem NetP.at (h : NetP w base B o lv v L) {k : Nat} (hk : k < L.length) : ∃ g cap, v = .slice (some ⟨g, 0, none⟩) L.length cap ∧ L.length ≤ cap ∧ base ≤ g ∧ ∀ m, L[k]? = some m → w.cell? ⟨g, k * 8, none⟩ = some (.int .i64 m.fr) ∧ w.cell? ⟨g, k * 8 + 1, none⟩ = some (.int .i64 m.tt) ∧ w.cell? ⟨g, k * 8 + 2, none⟩ = some (.int .i64 m.key) ∧ w.cell? ⟨g, k * 8 + 3, none⟩ = some (.int .i64 m.rd) ∧ w.cell? ⟨g, k * 8 + 4, none⟩ = some (.bool m.tells) ∧ w.cell? ⟨g, k * 8 + 5, none⟩ = some (.int .i64 m.t) ∧ w.cell? ⟨g, k * 8 + 6, none⟩ = some (.int .i64 m.c) ∧ w.cell? ⟨g, k * 8 + 7, none⟩ = some (.int .i64 m.v) := by
  rcases h.row.2 with ⟨_, e⟩ | ⟨g, cap, cur, e, hb, _, h1, _⟩
  · omega
  · refine ⟨g, cap, e, h1, hb, fun m hm => ?_⟩
    obtain rfl : L[k] = m := by rw [List.getElem?_eq_getElem hk] at hm; exact Option.some.inj hm
    have hcel := h.row.cells (g := g) (by rw [e]; rfl)
    have hh : ∀ j u, (mqC L[k])[j]? = some u → w.cell? ⟨g, k * 8 + j, none⟩ = some u := fun j u hj => by
      have := hcel _ _ (mqCs_at hk hj)
      rwa [Addr.add_lit, Nat.zero_add] at this
    exact ⟨hh 0 _ rfl, hh 1 _ rfl, hh 2 _ rfl, hh 3 _ rfl, hh 4 _ rfl, hh 5 _ rfl, hh 6 _ rfl, hh 7 _ rfl⟩
/-- What is on its way is another list: nothing else turns that was there. -/
structure MailT (base B o : Nat) (v : Value) (L' : List Mq) (w w' : World) (v' : Value) : Prop where
  blk : w'.heap[B]? = (w.setCell ⟨B, o, none⟩ v').heap[B]?
  row : w'.ownsRow base 127 8 v' L'.length (mqCs L')
  own : v'.ownBlock = v.ownBlock ∨ ∃ b, v'.ownBlock = some b ∧ w.heap.size ≤ b
  rest : ∀ b, b < w.heap.size → b ≠ B → v.ownBlock ≠ some b → w'.heap[b]? = w.heap[b]?
  size : w.heap.size ≤ w'.heap.size
  os : w'.os = w.os
  tape : w'.tape = w.tape
  output : w'.output = w.output
def MailTold (base B o : Nat) (v : Value) (L' : List Mq) (w w' : World) : Prop := ∃ v', MailT base B o v L' w w' v'
theorem MailT.of {w1 : World} {v' : Value} {L' : List Mq} (h : NetP w base B o lv v L) (hg : w.grownBy w1 v.ownBlock) (hr : w1.ownsRow base 127 8 v' L'.length (mqCs L')) (hv : v'.ownBlock = v.ownBlock ∨ ∃ b, v'.ownBlock = some b ∧ w.heap.size ≤ b) : MailT base B o v L' w (w1.setCell ⟨B, o, none⟩ v') v' := by
  have hB := h.lt
  have e1 : w1.heap[B]? = w.heap[B]? := hg.block B hB fun e => h.ne e.symm
  have hne : v'.ownBlock ≠ some B := by
    rcases hv with e | ⟨b, e, hb⟩
    · rw [e]; exact h.ne
    · rw [e]; intro e'; cases e'; omega
  refine ⟨?_, ownsRow_same hr fun b hb => Below.heap_setCell _ _ _ b (fun e => hne (by rw [hb]; exact congrArg some e)), hv, fun b hb h1 h2 => (Below.heap_setCell w1 ⟨B, o, none⟩ v' b h1).trans (hg.block b hb (fun e => h2 e.symm)), by have := hg.size; simpa using this, hg.os, hg.tape, hg.output⟩
  simp only [World.setCell, Array.getElem?_modify, if_true, e1]
/-- What is made ahead. -/
theorem MailT.pre {w0 : World} {v' : Value} {L' : List Mq} (h : NetP w0 base B o lv v L) (hb : Below w0.heap.size w0 w) (ht : MailT base B o v L' w w' v') : MailT base B o v L' w0 w' v' := by
  refine ⟨?_, ht.row, ht.own.imp id fun ⟨b, e, hb'⟩ => ⟨b, e, Nat.le_trans hb.size hb'⟩, fun b h1 h2 h3 => (ht.rest b (Nat.lt_of_lt_of_le h1 hb.size) h2 h3).trans (hb.block b h1), Nat.le_trans hb.size ht.size, ht.os.trans hb.os, ht.tape.trans hb.tape, ht.output.trans hb.output⟩
  rw [ht.blk]
  simp only [World.setCell, Array.getElem?_modify, if_true, hb.block B h.lt]
/-- What turns behind in blocks that are none of these. -/
theorem MailT.past {w2 : World} {v' : Value} {L' : List Mq} (h : NetP w base B o lv v L) (ht : MailT base B o v L' w w' v') (hk : ∀ b, (b < w.heap.size ∨ v'.ownBlock = some b) → w2.heap[b]? = w'.heap[b]?) (hs : w'.heap.size ≤ w2.heap.size) (h1 : w2.os = w'.os) (h2 : w2.tape = w'.tape) (h3 : w2.output = w'.output) : MailT base B o v L' w w2 v' :=
  ⟨(hk B (.inl h.lt)).trans ht.blk, ownsRow_same ht.row fun b hb => hk b (.inr hb), ht.own, fun b hb h1 h2 => (hk b (.inl hb)).trans (ht.rest b hb h1 h2), Nat.le_trans ht.size hs, h1.trans ht.os, h2.trans ht.tape, h3.trans ht.output⟩
theorem MailT.set {v' : Value} {L' : List Mq} (ht : MailT base B o v L' w w' v') (h : NetP w base B o lv v L) {p : Addr} (hp : w.heap.size ≤ p.block) (hne : v'.ownBlock ≠ some p.block) (u : Value) : MailT base B o v L' w (w'.setCell p u) v' :=
  ht.past h (fun b hb => Below.heap_setCell w' p u b (fun e => hb.elim (fun h1 => by omega) (fun h1 => hne (by rw [h1, e])))) (by simp) rfl rfl rfl
theorem MailT.below {B0 : Nat} {w0 : World} {v' : Value} {L' : List Mq} (ht : MailT base B o v L' w w' v') (hb : Below B0 w0 w) (h1 : B0 ≤ B) (h2 : ∀ b, v.ownBlock = some b → B0 ≤ b) (hs : B0 ≤ w.heap.size) : Below B0 w0 w' :=
  ⟨ht.os.trans hb.os, ht.tape.trans hb.tape, ht.output.trans hb.output, Nat.le_trans hb.size ht.size, fun b hb' => (ht.rest b (Nat.lt_of_lt_of_le hb' hs) (by omega) (fun e => by have := h2 b e; omega)).trans (hb.block b hb')⟩
end
end Go.Proofs.YtncnojgemmcplaaGreatDoor.St
