/-
  The statement NetPlays: both nets in memory, apart.
-/
import Derived.Test.YtggdjongbmdefaaDoorNcP
import Derived.Test.YtggdjongbmdefaaDoorNbW
import Derived.Test.YtggdjongbmdefaaDoorLiW
import Derived.Test.YtggdjongbmdefaaDoorJaW
import Derived.Test.YtggdjongbmdefaaDoorMvM
import Derived.Deep.CutBlock
namespace Go.Proofs.YtggdjongbmdefaaDoor
open Go.RowKit

def toQ (m : Md) : Mq := ⟨m.fr, m.to, m.wh⟩
/-- The document's mails are another list: nothing else turns that was there. -/
structure DocT (base B : Nat) (v : Value) (L' : List Md) (w w' : World) (v' : Value) : Prop where
  blk : w'.heap[B]? = (w.setCell ⟨B, 2, none⟩ v').heap[B]?
  row : w'.ownsRow base 49 3 v' L'.length (mdCs L')
  ne : v'.ownBlock ≠ some B
  rest : ∀ b, b < w.heap.size → b ≠ B → v.ownBlock ≠ some b → w'.heap[b]? = w.heap[b]?
  size : w.heap.size ≤ w'.heap.size
  os : w'.os = w.os
  tape : w'.tape = w.tape
  output : w'.output = w.output
theorem tagD_setCell {W : World} {B o : Nat} {v : Value} {t : TypeId} (h : tagD W.heap[B]? = t + 1) : tagD (W.setCell ⟨B, o, none⟩ v).heap[B]? = t + 1 := by
  cases e : W.heap[B]? with
  | none => rw [e] at h; cases h
  | some x =>
    rw [e] at h
    cases x with
    | cells cur t' fr =>
      obtain ⟨cur', h', _⟩ := heap_setCell e o v
      rw [h']; exact h
    | _ => cases h
section
variable {w w' : World} {base B : Nat} {cut : Bool} {lv v : Value} {L : List Md}
theorem DocT.of {w1 : World} {v' : Value} {L' : List Md} {row : Option Nat} (hB : B < w.heap.size) (hne : v.ownBlock ≠ some B) (hg : w.grownBy w1 row) (hrow : row = v.ownBlock ∨ row = none) (hr : w1.ownsRow base 49 3 v' L'.length (mdCs L')) (hT : tagD w.heap[B]? = 43) : DocT base B v L' w (w1.setCell ⟨B, 0 + 2, none⟩ v') v' := by
  have hrw : ∀ b, v.ownBlock ≠ some b → some b ≠ row := fun b hb e => by
    rcases hrow with e' | e'
    · rw [e'] at e; exact hb e.symm
    · rw [e'] at e; cases e
  have e1 : w1.heap[B]? = w.heap[B]? := hg.block B hB (hrw B hne)
  have hne' : v'.ownBlock ≠ some B := fun e => by
    have := own_tagD hr e
    rw [e1, hT] at this; cases this
  refine ⟨?_, ownsRow_same hr fun b hb => Below.heap_setCell _ _ _ b (fun e => hne' (by rw [hb]; exact congrArg some e)), hne', fun b hb h1 h2 => (Below.heap_setCell w1 ⟨B, 0 + 2, none⟩ v' b h1).trans (hg.block b hb (hrw b h2)), by have := hg.size; simpa using this, hg.os, hg.tape, hg.output⟩
  show (w1.setCell ⟨B, 2, none⟩ v').heap[B]? = _
  simp only [World.setCell, Array.getElem?_modify, if_true, e1]
theorem NetD.told {v' : Value} {L' : List Md} (h : NetD w base B 0 cut lv v L) (ht : DocT base B v L' w w' v') : NetD w' base B 0 cut lv v' L' := by
  have c : ∀ i, w'.cell? ⟨B, i, none⟩ = (w.setCell ⟨B, 2, none⟩ v').cell? ⟨B, i, none⟩ := fun i => World.cell?_of_block (a := ⟨B, i, none⟩) ht.blk
  refine ⟨?_, ?_, ?_, ?_, ht.row, Nat.le_trans h.lo ht.size, ?_⟩
  · rw [c, World.cell?_setCell_other _ _ _ _ (offNe (by omega))]; exact h.c0
  · rw [c, World.cell?_setCell_other _ _ _ _ (offNe (by omega))]; exact h.c1
  · rw [c]; exact World.cell?_setCell_same' _ _ _ (by have := h.c2; rw [show (0 + 2 : Nat) = 2 from rfl] at this; rw [this]; rfl)
  · rw [World.frozen?_of_block (a := ⟨B, 0 + 2, none⟩) ht.blk, World.frozen?_setCell]; exact h.f2
  · exact ht.ne
end
/-- Both nets. -/
structure PlayI (w W : World) (nil : Bool) (n : Nat) (r : Nat → Nat → Bool) (lv v lvd vd : Value) (L : List Mq) (Ld : List Md) : Prop where
  bel : Below w.heap.size w W
  pn : NetP W w.heap.size w.heap.size 0 lv v L
  pt : tagD W.heap[w.heap.size]? = 39
  dn : NetD W w.heap.size (w.heap.size + 1) 0 (!nil) lvd vd Ld
  dt : tagD W.heap[w.heap.size + 1]? = 43
  lk : (nil = true ∧ lv = .slice none 0 0) ∨ (nil = false ∧ LnkT W lv (tabL n r) ∧ (∃ a m c, lv = .slice (some a) m c) ∧ LnkT W lvd (tabL n r))
  nn : 1 ≤ n ∧ n ≤ 7
  pf : ∀ i, W.frozen? ⟨w.heap.size, i, none⟩ = false
  df : ∀ i, W.frozen? ⟨w.heap.size + 1, i, none⟩ = false
section
variable {w W W' : World} {nil : Bool} {n : Nat} {r : Nat → Nat → Bool} {lv v lvd vd : Value} {L : List Mq} {Ld : List Md}
theorem PlayI.ptag (h : PlayI w W nil n r lv v lvd vd L Ld) : ∀ b, v.ownBlock = some b → tagD W.heap[b]? = 48 := fun _ hb => own_tagD h.pn.row hb
theorem PlayI.dtag (h : PlayI w W nil n r lv v lvd vd L Ld) : ∀ b, vd.ownBlock = some b → tagD W.heap[b]? = 50 := fun _ hb => own_tagD h.dn.row hb
theorem PlayI.dlt (h : PlayI w W nil n r lv v lvd vd L Ld) : w.heap.size + 1 < W.heap.size := World.block_lt_of_cell? W _ h.dn.c2
theorem PlayI.below (h : PlayI w W nil n r lv v lvd vd L Ld) (hb : Below W.heap.size W W') : PlayI w W' nil n r lv v lvd vd L Ld :=
  ⟨belJ h.bel hb, h.pn.below hb, by rw [hb.block _ h.pn.lt]; exact h.pt, h.dn.new (grown_below hb), by rw [hb.block _ h.dlt]; exact h.dt, h.lk.imp id fun ⟨e, h1, h2, h3⟩ => ⟨e, h1.below hb, h2, h3.below hb⟩, h.nn, fun i => (World.frozen?_of_block (a := ⟨w.heap.size, i, none⟩) (hb.block _ h.pn.lt)).trans (h.pf i), fun i => (World.frozen?_of_block (a := ⟨w.heap.size + 1, i, none⟩) (hb.block _ h.dlt)).trans (h.df i)⟩
/-- The program's net turns. -/
theorem PlayI.prog {L' : List Mq} {v' : Value} (h : PlayI w W nil n r lv v lvd vd L Ld) (ht : MailT w.heap.size w.heap.size 0 v L' W W' v') : PlayI w W' nil n r lv v' lvd vd L' Ld := by
  have hk : ∀ b x, tagD W.heap[b]? = x + 1 → x + 1 ≠ 39 → x + 1 ≠ 48 → W'.heap[b]? = W.heap[b]? := fun b x hb h1 h2 => by
    have hl : b < W.heap.size := by
      rcases Nat.lt_or_ge b W.heap.size with h' | h'
      · exact h'
      · rw [Array.getElem?_eq_none h'] at hb; cases hb
    exact ht.rest b hl (fun e => by rw [e, h.pt] at hb; exact h1 hb.symm) (fun e => by rw [h.ptag b e] at hb; exact h2 hb.symm)
  have hl : ∀ b, LTg W b → W'.heap[b]? = W.heap[b]? := fun b hb => hb.elim (fun e => hk b 32 e (by decide) (by decide)) (fun e => hk b 4 e (by decide) (by decide))
  have eD := hk (w.heap.size + 1) 42 h.dt (by decide) (by decide)
  refine ⟨ht.below h.bel (Nat.le_refl _) (fun b hb => (ownsRow_block h.pn.row b hb).1) h.bel.size, h.pn.told ht, ?_, ?_, by rw [eD]; exact h.dt, h.lk.imp id fun ⟨e, h1, h2, h3⟩ => ⟨e, h1.keep hl, h2, h3.keep hl⟩, h.nn, fun i => ?_, fun i => (World.frozen?_of_block (a := ⟨w.heap.size + 1, i, none⟩) eD).trans (h.df i)⟩
  · rw [ht.blk]; exact tagD_setCell h.pt
  · exact ⟨(World.cell?_of_block (a := ⟨w.heap.size + 1, 0, none⟩) eD).trans h.dn.c0, (World.cell?_of_block (a := ⟨w.heap.size + 1, 0 + 1, none⟩) eD).trans h.dn.c1, (World.cell?_of_block (a := ⟨w.heap.size + 1, 0 + 2, none⟩) eD).trans h.dn.c2, (World.frozen?_of_block (a := ⟨w.heap.size + 1, 0 + 2, none⟩) eD).trans h.dn.f2, ownsRow_same h.dn.row (fun b hb => hk b 49 (h.dtag b hb) (by decide) (by decide)), Nat.le_trans h.dn.lo ht.size, h.dn.ne⟩
  · rw [World.frozen?_of_block (a := ⟨w.heap.size, i, none⟩) ht.blk, World.frozen?_setCell]; exact h.pf i
/-- The document's net turns. -/
theorem PlayI.doc {L' : List Md} {v' : Value} (h : PlayI w W nil n r lv v lvd vd L Ld) (ht : DocT w.heap.size (w.heap.size + 1) vd L' W W' v') : PlayI w W' nil n r lv v lvd v' L L' := by
  have hk : ∀ b x, tagD W.heap[b]? = x + 1 → x + 1 ≠ 43 → x + 1 ≠ 50 → W'.heap[b]? = W.heap[b]? := fun b x hb h1 h2 => by
    have hl : b < W.heap.size := by
      rcases Nat.lt_or_ge b W.heap.size with h' | h'
      · exact h'
      · rw [Array.getElem?_eq_none h'] at hb; cases hb
    exact ht.rest b hl (fun e => by rw [e, h.dt] at hb; exact h1 hb.symm) (fun e => by rw [h.dtag b e] at hb; exact h2 hb.symm)
  have hl : ∀ b, LTg W b → W'.heap[b]? = W.heap[b]? := fun b hb => hb.elim (fun e => hk b 32 e (by decide) (by decide)) (fun e => hk b 4 e (by decide) (by decide))
  have eP := hk w.heap.size 38 h.pt (by decide) (by decide)
  refine ⟨⟨ht.os.trans h.bel.os, ht.tape.trans h.bel.tape, ht.output.trans h.bel.output, Nat.le_trans h.bel.size ht.size, fun b hb => (ht.rest b (Nat.lt_of_lt_of_le hb h.bel.size) (by omega) (fun e => by have := (ownsRow_block h.dn.row b e).1; omega)).trans (h.bel.block b hb)⟩, h.pn.keep eP (fun b hb => hk b 47 (h.ptag b hb) (by decide) (by decide)) ht.size, by rw [eP]; exact h.pt, h.dn.told ht, ?_, h.lk.imp id fun ⟨e, h1, h2, h3⟩ => ⟨e, h1.keep hl, h2, h3.keep hl⟩, h.nn, fun i => (World.frozen?_of_block (a := ⟨w.heap.size, i, none⟩) eP).trans (h.pf i), fun i => ?_⟩
  · rw [ht.blk]; exact tagD_setCell h.dt
  · rw [World.frozen?_of_block (a := ⟨w.heap.size + 1, i, none⟩) ht.blk, World.frozen?_setCell]; exact h.df i
/-- All can talk. -/
theorem PlayI.all (h : PlayI w W nil n r lv v lvd vd L Ld) {W1 : World} (hb : Below W.heap.size W W1) : PlayI w ((W1.setCell ⟨w.heap.size, 1, none⟩ (.slice none 0 0)).setCell ⟨w.heap.size + 1, 0, none⟩ (.bool false)) true n r (.slice none 0 0) v lvd vd L Ld := by
  have h1 := h.below hb
  have hP : ∀ b, b ≠ w.heap.size → b ≠ w.heap.size + 1 → ((W1.setCell ⟨w.heap.size, 1, none⟩ (.slice none 0 0)).setCell ⟨w.heap.size + 1, 0, none⟩ (.bool false)).heap[b]? = W1.heap[b]? := fun b hb1 hb2 => (Below.heap_setCell _ ⟨w.heap.size + 1, 0, none⟩ _ b hb2).trans (Below.heap_setCell W1 ⟨w.heap.size, 1, none⟩ _ b hb1)
  have eB : ((W1.setCell ⟨w.heap.size, 1, none⟩ (.slice none 0 0)).setCell ⟨w.heap.size + 1, 0, none⟩ (.bool false)).heap[w.heap.size]? = (W1.setCell ⟨w.heap.size, 1, none⟩ (.slice none 0 0)).heap[w.heap.size]? := Below.heap_setCell _ ⟨w.heap.size + 1, 0, none⟩ _ _ (show w.heap.size ≠ w.heap.size + 1 by omega)
  have eD : (W1.setCell ⟨w.heap.size, 1, none⟩ (.slice none 0 0)).heap[w.heap.size + 1]? = W1.heap[w.heap.size + 1]? := Below.heap_setCell W1 ⟨w.heap.size, 1, none⟩ _ _ (show w.heap.size + 1 ≠ w.heap.size by omega)
  have cB : ∀ i, i ≠ 1 → ((W1.setCell ⟨w.heap.size, 1, none⟩ (.slice none 0 0)).setCell ⟨w.heap.size + 1, 0, none⟩ (.bool false)).cell? ⟨w.heap.size, i, none⟩ = W1.cell? ⟨w.heap.size, i, none⟩ := fun i hi => (World.cell?_of_block (a := ⟨w.heap.size, i, none⟩) eB).trans (World.cell?_setCell_other _ _ _ _ (offNe (Ne.symm hi)))
  have cD : ∀ i, i ≠ 0 → ((W1.setCell ⟨w.heap.size, 1, none⟩ (.slice none 0 0)).setCell ⟨w.heap.size + 1, 0, none⟩ (.bool false)).cell? ⟨w.heap.size + 1, i, none⟩ = W1.cell? ⟨w.heap.size + 1, i, none⟩ := fun i hi => (World.cell?_setCell_other _ _ _ _ (offNe (Ne.symm hi))).trans (World.cell?_of_block (a := ⟨w.heap.size + 1, i, none⟩) eD)
  refine ⟨(h1.bel.setCell (p := ⟨w.heap.size, 1, none⟩) (Nat.le_refl _) _).setCell (p := ⟨w.heap.size + 1, 0, none⟩) (show w.heap.size ≤ w.heap.size + 1 by omega) _, ⟨(cB 0 (by omega)).trans h1.pn.c0, ?_, ?_, ownsRow_same h1.pn.row fun b hb => hP b (fun e => h1.pn.ne (by rw [hb, e])) (fun e => by have := h1.ptag b hb; rw [e, h1.dt] at this; cases this), ?_, h1.pn.ne⟩, ?_, ⟨?_, (cD 1 (by omega)).trans h1.dn.c1, (cD 2 (by omega)).trans h1.dn.c2, ?_, ownsRow_same h1.dn.row fun b hb => hP b (fun e => by have := h1.dtag b hb; rw [e, h1.pt] at this; cases this) (fun e => h1.dn.ne (by rw [hb, e])), ?_, h1.dn.ne⟩, ?_, .inl ⟨rfl, rfl⟩, h1.nn, fun i => ?_, fun i => ?_⟩
  · rw [World.cell?_of_block (a := ⟨w.heap.size, 0 + 1, none⟩) eB]
    exact World.cell?_setCell_same' _ _ _ (by have := h1.pn.c1; rw [show (0 + 1 : Nat) = 1 from rfl] at this; rw [this]; rfl)
  · rw [World.frozen?_setCell, World.frozen?_setCell]; exact h1.pn.f0
  · have := h1.pn.lo; simpa using this
  · rw [eB]; exact tagD_setCell h1.pt
  · exact World.cell?_setCell_same' _ _ _ (by rw [World.cell?_of_block (a := ⟨w.heap.size + 1, 0, none⟩) eD, h1.dn.c0]; rfl)
  · rw [World.frozen?_setCell, World.frozen?_setCell]; exact h1.dn.f2
  · have := h1.dn.lo; simpa using this
  · exact tagD_setCell (by rw [eD]; exact h1.dt)
  · rw [World.frozen?_setCell, World.frozen?_setCell]; exact h1.pf i
  · rw [World.frozen?_setCell, World.frozen?_setCell]; exact h1.df i
/-- Some can talk. -/
theorem PlayI.some_ (h : PlayI w W nil n r lv v lvd vd L Ld) {W1 : World} (hb : Below W.heap.size W W1) {n' : Nat} {r' : Nat → Nat → Bool} {lp ld : Value} (hn : 1 ≤ n' ∧ n' ≤ 7) (hlp : LnkT W1 lp (tabL n' r')) (hs : ∃ a m c, lp = .slice (some a) m c) (hld : LnkT W1 ld (tabL n' r')) :
    PlayI w (((W1.setCell ⟨w.heap.size, 1, none⟩ lp).setCell ⟨w.heap.size + 1, 0, none⟩ (.bool true)).setCell ⟨w.heap.size + 1, 1, none⟩ ld) false n' r' lp v ld vd L Ld := by
  have h1 := h.below hb
  generalize hW2 : ((W1.setCell ⟨w.heap.size, 1, none⟩ lp).setCell ⟨w.heap.size + 1, 0, none⟩ (.bool true)).setCell ⟨w.heap.size + 1, 1, none⟩ ld = W2
  have hP : ∀ b, b ≠ w.heap.size → b ≠ w.heap.size + 1 → W2.heap[b]? = W1.heap[b]? := fun b hb1 hb2 => by
    rw [← hW2]
    exact (Below.heap_setCell _ ⟨w.heap.size + 1, 1, none⟩ _ b hb2).trans ((Below.heap_setCell _ ⟨w.heap.size + 1, 0, none⟩ _ b hb2).trans (Below.heap_setCell W1 ⟨w.heap.size, 1, none⟩ _ b hb1))
  have eB : W2.heap[w.heap.size]? = (W1.setCell ⟨w.heap.size, 1, none⟩ lp).heap[w.heap.size]? := by
    rw [← hW2]
    exact (Below.heap_setCell _ ⟨w.heap.size + 1, 1, none⟩ _ _ (show w.heap.size ≠ w.heap.size + 1 by omega)).trans (Below.heap_setCell _ ⟨w.heap.size + 1, 0, none⟩ _ _ (show w.heap.size ≠ w.heap.size + 1 by omega))
  have eD : (W1.setCell ⟨w.heap.size, 1, none⟩ lp).heap[w.heap.size + 1]? = W1.heap[w.heap.size + 1]? := Below.heap_setCell W1 ⟨w.heap.size, 1, none⟩ _ _ (show w.heap.size + 1 ≠ w.heap.size by omega)
  have d1 : ∀ i, (W1.setCell ⟨w.heap.size, 1, none⟩ lp).cell? ⟨w.heap.size + 1, i, none⟩ = W1.cell? ⟨w.heap.size + 1, i, none⟩ := fun i => World.cell?_of_block (a := ⟨w.heap.size + 1, i, none⟩) eD
  have hfz : ∀ a, W2.frozen? a = W1.frozen? a := fun a => by rw [← hW2, World.frozen?_setCell, World.frozen?_setCell, World.frozen?_setCell]
  have hsz : W2.heap.size = W1.heap.size := by rw [← hW2]; simp
  have hl : ∀ b, LTg W1 b → W2.heap[b]? = W1.heap[b]? := fun b hb => hP b (fun e => by rcases hb with hb | hb <;> (rw [e, h1.pt] at hb; cases hb)) (fun e => by rcases hb with hb | hb <;> (rw [e, h1.dt] at hb; cases hb))
  refine ⟨?_, ⟨?_, ?_, (hfz _).trans h1.pn.f0, ownsRow_same h1.pn.row fun b hb => hP b (fun e => h1.pn.ne (by rw [hb, e])) (fun e => by have := h1.ptag b hb; rw [e, h1.dt] at this; cases this), by rw [hsz]; exact h1.pn.lo, h1.pn.ne⟩, ?_, ⟨?_, ?_, ?_, (hfz _).trans h1.dn.f2, ownsRow_same h1.dn.row fun b hb => hP b (fun e => by have := h1.dtag b hb; rw [e, h1.pt] at this; cases this) (fun e => h1.dn.ne (by rw [hb, e])), by rw [hsz]; exact h1.dn.lo, h1.dn.ne⟩, ?_, .inr ⟨rfl, hlp.keep hl, hs, hld.keep hl⟩, hn, fun i => (hfz _).trans (h1.pf i), fun i => (hfz _).trans (h1.df i)⟩
  · rw [← hW2]
    exact ((h1.bel.setCell (p := ⟨w.heap.size, 1, none⟩) (Nat.le_refl _) _).setCell (p := ⟨w.heap.size + 1, 0, none⟩) (show w.heap.size ≤ w.heap.size + 1 by omega) _).setCell (p := ⟨w.heap.size + 1, 1, none⟩) (show w.heap.size ≤ w.heap.size + 1 by omega) _
  · rw [World.cell?_of_block (a := ⟨w.heap.size, 0, none⟩) eB, World.cell?_setCell_other _ _ _ _ (offNe (by omega))]; exact h1.pn.c0
  · rw [World.cell?_of_block (a := ⟨w.heap.size, 0 + 1, none⟩) eB]
    exact World.cell?_setCell_same' _ _ _ (by have := h1.pn.c1; rw [show (0 + 1 : Nat) = 1 from rfl] at this; rw [this]; rfl)
  · rw [eB]; exact tagD_setCell h1.pt
  · rw [← hW2, World.cell?_setCell_other _ _ _ _ (offNe (by omega))]
    exact World.cell?_setCell_same' _ _ _ (by rw [d1, h1.dn.c0]; rfl)
  · rw [← hW2]
    exact World.cell?_setCell_same' _ _ _ (by rw [World.cell?_setCell_other _ _ _ _ (offNe (by omega)), d1]; have := h1.dn.c1; rw [show (0 + 1 : Nat) = 1 from rfl] at this; rw [this]; rfl)
  · rw [← hW2, World.cell?_setCell_other _ _ _ _ (offNe (by omega)), World.cell?_setCell_other _ _ _ _ (offNe (by omega)), d1]; exact h1.dn.c2
  · rw [← hW2]; exact tagD_setCell (tagD_setCell (by rw [eD]; exact h1.dt))
end
end Go.Proofs.YtggdjongbmdefaaDoor
