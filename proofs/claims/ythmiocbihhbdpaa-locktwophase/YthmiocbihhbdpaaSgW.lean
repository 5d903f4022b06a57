/-
  The document's graph of clashes, walked.
-/
import Derived.Test.YthmiocbihhbdpaaRgLZ
import Derived.Test.YthmiocbihhbdpaaCsW
namespace Go.Proofs.Ythmiocbihhbdpaa
open Go.RowKit

/-- Two steps clash. -/
def clB (a b : Stp) : Bool := a.p != b.p && (a.m == b.m && decide (2 < a.k + b.k))
/-- What of the graph is laid behind i steps, and j that stand behind the next one. -/
def SgK (d : List Stp) (i j : Nat) (t u : Nat) : Prop := ∃ p q, p < q ∧ q < d.length ∧ (p < i ∨ (p = i ∧ q < i + 1 + j)) ∧ (stZ d p).p = (t : Int) ∧ (stZ d q).p = (u : Int) ∧ clB (stZ d p) (stZ d q) = true
theorem sgK_zero (d : List Stp) (t u : Nat) : ¬ SgK d 0 0 t u := by
  rintro ⟨p, q, h1, h2, h3 | ⟨h3, h4⟩, _⟩ <;> omega
theorem sgK_next {d : List Stp} {i j : Nat} (h : i + 1 + j < d.length) (t u : Nat) : SgK d i (j + 1) t u ↔ SgK d i j t u ∨ ((stZ d i).p = (t : Int) ∧ (stZ d (i + 1 + j)).p = (u : Int) ∧ clB (stZ d i) (stZ d (i + 1 + j)) = true) := by
  constructor
  · rintro ⟨p, q, h1, h2, h3, h4, h5, h6⟩
    by_cases e : p = i ∧ q = i + 1 + j
    · obtain ⟨rfl, rfl⟩ := e
      exact .inr ⟨h4, h5, h6⟩
    · exact .inl ⟨p, q, h1, h2, by omega, h4, h5, h6⟩
  · rintro (⟨p, q, h1, h2, h3, h4, h5, h6⟩ | ⟨h4, h5, h6⟩)
    · exact ⟨p, q, h1, h2, by omega, h4, h5, h6⟩
    · exact ⟨i, i + 1 + j, by omega, h, by omega, h4, h5, h6⟩
theorem sgK_over {d : List Stp} {i j : Nat} (h : d.length ≤ i + 1 + j) (t u : Nat) : SgK d i j t u ↔ SgK d (i + 1) 0 t u := by
  constructor
  · rintro ⟨p, q, h1, h2, h3, h4⟩
    exact ⟨p, q, h1, h2, by omega, h4⟩
  · rintro ⟨p, q, h1, h2, h3, h4⟩
    exact ⟨p, q, h1, h2, by omega, h4⟩
/-- Steps in memory, from a block on. -/
def DAt (w : World) (a : Option Addr) (S : Nat) (d : List Stp) : Prop := d = [] ∨ ∃ b off, a = some ⟨b, off, none⟩ ∧ S ≤ b ∧ b < w.heap.size ∧ StpsAt w b off d
theorem DAt.below {w w' : World} {a : Option Addr} {S : Nat} {d : List Stp} (h : DAt w a S d) (hb : Below w.heap.size w w') : DAt w' a S d := by
  rcases h with h | ⟨b, off, e, h1, h2, h3⟩
  · exact .inl h
  · exact .inr ⟨b, off, e, h1, Nat.lt_of_lt_of_le h2 hb.size, h3.below h2 hb⟩
theorem StpAt.other {w : World} {b off g k : Nat} {s : Stp} (h : StpAt w b off s) (hne : g ≠ b) (u : Value) : StpAt (w.setCell ⟨g, k, none⟩ u) b off s :=
  ⟨(World.cell?_setCell_other _ _ _ _ (blkNe hne)).trans h.1, (World.cell?_setCell_other _ _ _ _ (blkNe hne)).trans h.2.1, (World.cell?_setCell_other _ _ _ _ (blkNe hne)).trans h.2.2⟩
theorem DAt.set {w : World} {a : Option Addr} {S : Nat} {d : List Stp} (h : DAt w a S d) {g : Nat} (hg : g < S) (k : Nat) (u : Value) : DAt (w.setCell ⟨g, k, none⟩ u) a S d := by
  rcases h with h | ⟨b, off, e, h1, h2, h3⟩
  · exact .inl h
  · exact .inr ⟨b, off, e, h1, by simpa using h2, fun i hi => (h3 i hi).other (by omega) u⟩

theorem OutAt.hdr {w : World} {base n g off cap k : Nat} {gs : List Nat} {A : Nat → Nat → Bool} (h : OutAt w base n (.slice (some ⟨g, off, none⟩) k cap) gs A) {t : Nat} (ht : t < gs.length) :
    w.cell? ⟨g, off + t, none⟩ = some (.slice (some ⟨gs[t], 0, none⟩) n n) := by
  rcases h.row with ⟨e, _⟩ | ⟨g', off', cap', cur, e, _, _, _, _, _, hc⟩
  · cases e
  · injection e with e1 e2 e3
    injection e1 with e1
    injection e1 with e1 e4
    subst e1 e4
    have := hc t (by simpa using ht)
    rwa [List.getElem_map] at this
theorem OutAt.blk {w : World} {base n g off cap k : Nat} {gs : List Nat} {A : Nat → Nat → Bool} (h : OutAt w base n (.slice (some ⟨g, off, none⟩) k cap) gs A) {t : Nat} (ht : t < gs.length) : g ≠ gs[t] := fun e => (h.bits t ht).2.2 (by rw [← e]; rfl)

/-- What is so behind j of those that stand behind number i. -/
structure SgAt (w w1 : World) (v : Value) (gs : List Nat) (d : List Stp) (a : Option Addr) (i Z : Nat) (x : Stp) (j : Nat) (wi : World) : Prop where
  out : ∃ A, OutAt wi w.heap.size 8 v gs A ∧ ∀ t u, t < 8 → u < 8 → (A t u = true ↔ SgK d i j t u)
  row : DAt wi a w1.heap.size d
  own : StpN wi Z x
  lt : Z < wi.heap.size
  size : w1.heap.size ≤ wi.heap.size
  below : Below w.heap.size w wi
theorem SgAt.alloc {w w1 wi : World} {v : Value} {gs : List Nat} {d : List Stp} {a : Option Addr} {i Z j : Nat} {x : Stp} (h : SgAt w w1 v gs d a i Z x j wi) (o : Obj) : SgAt w w1 v gs d a i Z x j (wi.alloc o) := by
  obtain ⟨A, h1, h2⟩ := h.out
  have hb : Below wi.heap.size wi (wi.alloc o) := belA (Below.refl _ _) _
  exact ⟨⟨A, h1.below hb (Nat.le_refl _), h2⟩, h.row.below hb, h.own.below hb h.lt, Nat.lt_of_lt_of_le h.lt hb.size, Nat.le_trans h.size hb.size, belA h.below _⟩
theorem SgAt.skip {w w1 wi : World} {v : Value} {gs : List Nat} {d : List Stp} {a : Option Addr} {i Z j : Nat} {x : Stp} (h : SgAt w w1 v gs d a i Z x j wi) (hj : i + 1 + j < d.length) (hc : clB (stZ d i) (stZ d (i + 1 + j)) = false) : SgAt w w1 v gs d a i Z x (j + 1) wi := by
  obtain ⟨A, h1, h2⟩ := h.out
  refine ⟨⟨A, h1, fun t u ht hu => ?_⟩, h.row, h.own, h.lt, h.size, h.below⟩
  rw [h2 t u ht hu, sgK_next hj, hc]
  simp
theorem SgAt.put {w w1 wi : World} {v : Value} {gs : List Nat} {d : List Stp} {a : Option Addr} {i Z j : Nat} {x : Stp} (h : SgAt w w1 v gs d a i Z x j wi) (hnd : gs.Nodup) (hlo : ∀ i (h : i < gs.length), gs[i] < w1.heap.size) (hZ : w1.heap.size ≤ Z) (hj : i + 1 + j < d.length) (hc : clB (stZ d i) (stZ d (i + 1 + j)) = true)
    {t u : Nat} (ht : t < gs.length) (hu : u < 8) (et : (stZ d i).p = (t : Int)) (eu : (stZ d (i + 1 + j)).p = (u : Int)) : SgAt w w1 v gs d a i Z x (j + 1) (wi.setCell ⟨gs[t], u, none⟩ (.bool true)).drew := by
  obtain ⟨A, h1, h2⟩ := h.out
  have hg := hlo t ht
  have hO := h1.put hnd ht hu true
  have hD := h.row.set hg u (.bool true)
  obtain ⟨n0, n1, n2⟩ := h.own
  have hne : gs[t] ≠ Z := by omega
  have hsz : w1.heap.size ≤ (wi.setCell ⟨gs[t], u, none⟩ (.bool true)).heap.size := by simpa using h.size
  have hlt : Z < (wi.setCell ⟨gs[t], u, none⟩ (.bool true)).heap.size := by simpa using h.lt
  refine ⟨⟨fun p q => if p = t ∧ q = u then true else A p q, ⟨hO.row, fun j hj => ⟨⟨(hO.bits j hj).1.blk, (hO.bits j hj).1.bit⟩, (hO.bits j hj).2⟩⟩, fun p q hp hq => ?_⟩, hD, ⟨(World.cell?_setCell_other _ _ _ _ (blkNe hne)).trans n0, (World.cell?_setCell_other _ _ _ _ (blkNe hne)).trans n1, (World.cell?_setCell_other _ _ _ _ (blkNe hne)).trans n2⟩, hlt, hsz, (h.below.setCell (h1.bits t ht).2.1 _).drew⟩
  show (if p = t ∧ q = u then true else A p q) = true ↔ _
  rw [sgK_next hj, hc, et, eu]
  by_cases e : p = t ∧ q = u
  · obtain ⟨rfl, rfl⟩ := e
    simp
  · rw [if_neg e, h2 p q hp hq]
    constructor
    · exact fun h => .inl h
    · rintro (h | ⟨h3, h4, _⟩)
      · exact h
      · exact absurd ⟨by omega, by omega⟩ e

/-- What the document's graph tells. -/
def SgTold (l : List Stp) (w : World) (e : Ending) (w' : World) : Prop :=
  ∃ v gs A, e = .returned v ∧ OutAt w' w.heap.size 8 v gs A ∧ gs.length = 8 ∧ (∀ t u, t < 8 → u < 8 → (A t u = true ↔ SgK (doneL l) (doneL l).length 0 t u)) ∧ Below w.heap.size w w'

end Go.Proofs.Ythmiocbihhbdpaa
