/-
  The document's reader: a generator.
-/
import Derived.Test.YthblokfiojccmaaGreatDoorPrN
import Derived.Test.YthblokfiojccmaaGreatDoorLpP
import Derived.Test.YthblokfiojccmaaGreatDoorDnC
namespace Go.Proofs.YthblokfiojccmaaGreatDoor.Gn
open Go.RowKit

/-- What the document's reader of a generator tells, f deep at most. -/
def PgTold (f base : Nat) (w : World) (P S : Nat) (L : List Bt) (a : Nat) (e : Ending) (w' : World) : Prop :=
  (∃ r v a' bs, gF f (L.drop a ++ [[]]) = some r ∧ e = .returned v ∧ PrAt w' P S L a' 0 ∧ L.drop a' ++ [[]] = r.s ∧ a < a' ∧ DgAt f w' base v r.g bs ∧ (∀ b ∈ bs, w.heap.size ≤ b) ∧ Fr [P] w w') ∨
  (gF f (L.drop a ++ [[]]) = none ∧ ∃ x fl' a', e = .returned (.pointer x) ∧ fl' ≠ 0 ∧ PrAt w' P S L a' fl' ∧ Fr [P] w w')
def PgOk (f : Nat) : Prop := ∀ (A : Int), A = 20 - (f : Int) → ∀ (base : Nat) (w : World) (P S : Nat) (L : List Bt) (a : Nat), PrAt w P S L a 0 → PrEnv w P L → base ≤ w.heap.size →
  Calls Tryz.prog 10 #[.pointer (some ⟨P, 0, none⟩), .int .i64 A] w (PgTold f base w P S L a)

set_option maxHeartbeats 1000000 in
/-- Behind a fault nothing is read. -/
theorem pgen_bad (w : World) (P S : Nat) (L : List Bt) (a : Nat) (fl A : Int) (h : PrAt w P S L a fl) (hf : fl ≠ 0) :
    Calls Tryz.prog 10 #[.pointer (some ⟨P, 0, none⟩), .int .i64 A] w fun e w' => e = .returned (.pointer none) ∧ w' = w := by
  have c2 := h.c2
  have hb : (fl == 0) = false := by simp [hf]
  clear h
  go_enter Tryz.func10, Tryz.ntmps10
  go_wp2
  go_ret
  exact ⟨rfl, rfl⟩

set_option maxHeartbeats 1000000 in
theorem pgen_deep : PgOk 0 := by
  intro A hA base w P S L a h he hb
  have c2 := h.c2
  have HH := hideIt h
  subst hA
  clear h he
  go_enter Tryz.func10, Tryz.ntmps10
  go_wp2_with fail
  refine (pfail_any w P S L a 0 4 HH.out).mono ?_
  rintro y w2 ⟨rfl, h2, hf2⟩
  have H2 := hideIt h2
  have HF2 := hideIt hf2
  clear h2 hf2
  go_wp2
  go_ret
  exact .inr ⟨rfl, none, 4, a, rfl, by decide, H2.out, HF2.out⟩

theorem gF_skip {f : Nat} {t : Bt} {s : List Bt} (h1 : t ≠ nmRead) (h2 : t ≠ nmWrite) (h3 : t ≠ nmLimit) (h4 : t ≠ nmMix) (h5 : t ≠ nmThen) : gF (f + 1) (t :: s) = none := by
  rw [gF, if_neg h1, if_neg h2, if_neg h3, if_neg h4, if_neg h5]

/-- A new generator's own block. -/
structure GB (w : World) (G : Nat) (nm : ByteArray) (x1 x2 x3 : Int) (kv : Value) : Prop where
  c0 : w.cell? ⟨G, 0, none⟩ = some (.string nm)
  c1 : w.cell? ⟨G, 1, none⟩ = some (.int .i64 x1)
  c2 : w.cell? ⟨G, 2, none⟩ = some (.int .i64 x2)
  c3 : w.cell? ⟨G, 3, none⟩ = some (.int .i64 x3)
  c4 : w.cell? ⟨G, 4, none⟩ = some kv
  c5 : w.cell? ⟨G, 5, none⟩ = some (.int .i64 0)
  fz : ∀ j, w.frozen? ⟨G, j, none⟩ = false
theorem GB.new (w : World) (nm : ByteArray) : GB (w.alloc (.cells #[.string nm, .int .i64 0, .int .i64 0, .int .i64 0, .slice none 0 0, .int .i64 0, .int .i64 0] 76)) w.heap.size nm 0 0 0 (.slice none 0 0) := by
  have h := heap_new w (.cells #[.string nm, .int .i64 0, .int .i64 0, .int .i64 0, .slice none 0 0, .int .i64 0, .int .i64 0] 76)
  exact ⟨by rw [cell_of_row _ _ _ _ _ _ h]; rfl, by rw [cell_of_row _ _ _ _ _ _ h]; rfl, by rw [cell_of_row _ _ _ _ _ _ h]; rfl, by rw [cell_of_row _ _ _ _ _ _ h]; rfl, by rw [cell_of_row _ _ _ _ _ _ h]; rfl, by rw [cell_of_row _ _ _ _ _ _ h]; rfl, fun j => frozen_of_row _ _ j _ _ h⟩
theorem GB.blk {w w' : World} {G : Nat} {nm : ByteArray} {x1 x2 x3 : Int} {kv : Value} (h : GB w G nm x1 x2 x3 kv) (e : w'.heap[G]? = w.heap[G]?) : GB w' G nm x1 x2 x3 kv :=
  ⟨(World.cell?_of_block (a := ⟨G, 0, none⟩) e).trans h.c0, (World.cell?_of_block (a := ⟨G, 1, none⟩) e).trans h.c1, (World.cell?_of_block (a := ⟨G, 2, none⟩) e).trans h.c2, (World.cell?_of_block (a := ⟨G, 3, none⟩) e).trans h.c3, (World.cell?_of_block (a := ⟨G, 4, none⟩) e).trans h.c4, (World.cell?_of_block (a := ⟨G, 5, none⟩) e).trans h.c5, fun j => (World.frozen?_of_block (a := ⟨G, j, none⟩) e).trans (h.fz j)⟩
theorem GB.lt {w : World} {G : Nat} {nm : ByteArray} {x1 x2 x3 : Int} {kv : Value} (h : GB w G nm x1 x2 x3 kv) : G < w.heap.size := World.block_lt_of_cell? w _ h.c0
theorem GB.fr {w w' : World} {G P : Nat} {nm : ByteArray} {x1 x2 x3 : Int} {kv : Value} (h : GB w G nm x1 x2 x3 kv) (hg : Fr [P] w w') (hn : G ≠ P) : GB w' G nm x1 x2 x3 kv := h.blk (hg.block G h.lt (by simpa using hn))
theorem GB.set1 {w : World} {G : Nat} {nm : ByteArray} {x1 x2 x3 : Int} {kv : Value} (h : GB w G nm x1 x2 x3 kv) (y : Int) : GB (w.setCell ⟨G, 1, none⟩ (.int .i64 y)) G nm y x2 x3 kv :=
  ⟨(World.cell?_setCell_other _ _ _ _ (offN (by omega))).trans h.c0, World.cell?_setCell_same' _ _ _ (by rw [h.c1]; rfl), (World.cell?_setCell_other _ _ _ _ (offN (by omega))).trans h.c2, (World.cell?_setCell_other _ _ _ _ (offN (by omega))).trans h.c3, (World.cell?_setCell_other _ _ _ _ (offN (by omega))).trans h.c4, (World.cell?_setCell_other _ _ _ _ (offN (by omega))).trans h.c5, fun j => by rw [frozen_setCell]; exact h.fz j⟩
theorem GB.set2 {w : World} {G : Nat} {nm : ByteArray} {x1 x2 x3 : Int} {kv : Value} (h : GB w G nm x1 x2 x3 kv) (y : Int) : GB (w.setCell ⟨G, 2, none⟩ (.int .i64 y)) G nm x1 y x3 kv :=
  ⟨(World.cell?_setCell_other _ _ _ _ (offN (by omega))).trans h.c0, (World.cell?_setCell_other _ _ _ _ (offN (by omega))).trans h.c1, World.cell?_setCell_same' _ _ _ (by rw [h.c2]; rfl), (World.cell?_setCell_other _ _ _ _ (offN (by omega))).trans h.c3, (World.cell?_setCell_other _ _ _ _ (offN (by omega))).trans h.c4, (World.cell?_setCell_other _ _ _ _ (offN (by omega))).trans h.c5, fun j => by rw [frozen_setCell]; exact h.fz j⟩
theorem GB.set3 {w : World} {G : Nat} {nm : ByteArray} {x1 x2 x3 : Int} {kv : Value} (h : GB w G nm x1 x2 x3 kv) (y : Int) : GB (w.setCell ⟨G, 3, none⟩ (.int .i64 y)) G nm x1 x2 y kv :=
  ⟨(World.cell?_setCell_other _ _ _ _ (offN (by omega))).trans h.c0, (World.cell?_setCell_other _ _ _ _ (offN (by omega))).trans h.c1, (World.cell?_setCell_other _ _ _ _ (offN (by omega))).trans h.c2, World.cell?_setCell_same' _ _ _ (by rw [h.c3]; rfl), (World.cell?_setCell_other _ _ _ _ (offN (by omega))).trans h.c4, (World.cell?_setCell_other _ _ _ _ (offN (by omega))).trans h.c5, fun j => by rw [frozen_setCell]; exact h.fz j⟩
theorem GB.set4 {w : World} {G : Nat} {nm : ByteArray} {x1 x2 x3 : Int} {kv : Value} (h : GB w G nm x1 x2 x3 kv) (y : Value) : GB (w.setCell ⟨G, 4, none⟩ y) G nm x1 x2 x3 y :=
  ⟨(World.cell?_setCell_other _ _ _ _ (offN (by omega))).trans h.c0, (World.cell?_setCell_other _ _ _ _ (offN (by omega))).trans h.c1, (World.cell?_setCell_other _ _ _ _ (offN (by omega))).trans h.c2, (World.cell?_setCell_other _ _ _ _ (offN (by omega))).trans h.c3, World.cell?_setCell_same' _ _ _ (by rw [h.c4]; rfl), (World.cell?_setCell_other _ _ _ _ (offN (by omega))).trans h.c5, fun j => by rw [frozen_setCell]; exact h.fz j⟩
theorem gF_read (f : Nat) (s : List Bt) : gF (f + 1) (nmRead :: s) = match numF 0 7 s with | none => none | some k => some ⟨.rd k.v, k.s⟩ := rfl
theorem gF_write (f : Nat) (s : List Bt) : gF (f + 1) (nmWrite :: s) = wrF s := rfl
theorem gF_limit (f : Nat) (s : List Bt) : gF (f + 1) (nmLimit :: s) = match numF 0 1000 s with | none => none | some k => match gF f k.s with | none => none | some r => some ⟨.lim r.g k.v.toNat, r.s⟩ := rfl
theorem gF_mix (f : Nat) (s : List Bt) : gF (f + 1) (nmMix :: s) = match listF (gF f) s with | none => none | some r => some ⟨.mix r.l, r.s⟩ := rfl
theorem gF_then (f : Nat) (s : List Bt) : gF (f + 1) (nmThen :: s) = match listF (gF f) s with | none => none | some r => some ⟨.thn r.l, r.s⟩ := rfl

/-- Where the look for the name stands. -/
structure NmI (w : World) (NB P S : Nat) (L : List Bt) (a : Nat) (wx : World) : Prop where
  pr : PrAt wx P S L a 0
  nb : wx.heap[NB]? = some (.cells #[.string ⟨#[114, 101, 97, 100]⟩, .string ⟨#[119, 114, 105, 116, 101]⟩, .string ⟨#[108, 105, 109, 105, 116]⟩, .string ⟨#[109, 105, 120]⟩, .string ⟨#[116, 104, 101, 110]⟩] 9)
  fr : Fr [P] w wx
theorem isS_0 {L : List Bt} {a : Nat} {x : Bt} (h : isS L a 0 x = true) : a < L.length ∧ L.getD a [] = x := (of_decide_eq_true h).2
theorem drop_is {L : List Bt} {a : Nat} {x : Bt} (h : isS L a 0 x = true) : L.drop a ++ [[]] = x :: (L.drop (a + 1) ++ [[]]) := by
  obtain ⟨h1, h2⟩ := isS_0 h
  rw [drop_at h1]
  rw [List.getD_eq_getElem?_getD, List.getElem?_eq_getElem h1] at h2
  have h2 : L[a] = x := h2
  rw [h2]; rfl
theorem drop_isnt {L : List Bt} {a : Nat} {x : Bt} (hx : x ≠ []) (h : isS L a 0 x = false) : ∀ z, L.drop a ++ [[]] ≠ x :: z := by
  intro z e
  rcases Nat.lt_or_ge a L.length with hl | hl
  · rw [drop_at hl] at e
    injection e with e1 e2
    have := of_decide_eq_false h
    exact this ⟨rfl, hl, by rw [List.getD_eq_getElem?_getD, List.getElem?_eq_getElem hl]; exact e1⟩
  · rw [List.drop_eq_nil_of_le hl] at e
    injection e with e1 _
    exact hx e1.symm
theorem gF_no {f : Nat} {L : List Bt} {a : Nat} (h1 : isS L a 0 nmRead = false) (h2 : isS L a 0 nmWrite = false) (h3 : isS L a 0 nmLimit = false) (h4 : isS L a 0 nmMix = false) (h5 : isS L a 0 nmThen = false) : gF (f + 1) (L.drop a ++ [[]]) = none := by
  cases hd : L.drop a ++ [[]] with
  | nil => rfl
  | cons t s => exact gF_skip (fun e => drop_isnt (by decide) h1 s (by rw [hd, e])) (fun e => drop_isnt (by decide) h2 s (by rw [hd, e])) (fun e => drop_isnt (by decide) h3 s (by rw [hd, e])) (fun e => drop_isnt (by decide) h4 s (by rw [hd, e])) (fun e => drop_isnt (by decide) h5 s (by rw [hd, e]))
theorem own_form1 {w : World} {base : Nat} {e : TypeId} {z n : Nat} {v : Value} {xs : List Value} (h : w.ownsRow base e z v (n + 1) xs) : ∃ g cap, v = .slice (some ⟨g, 0, none⟩) (n + 1) cap ∧ base ≤ g ∧ g < w.heap.size ∧ v.ownBlock = some g := by
  rcases h.2 with ⟨_, h0⟩ | ⟨g, cap, cur, e, h1, h2, _⟩
  · omega
  · exact ⟨g, cap, e, h1, (Array.getElem?_eq_some_iff.1 h2).1, by rw [e]; rfl⟩
/-- One more kid, behind those that there are. -/
theorem kid_append (w : World) (B0 : Nat) (kv : Value) (n : Nat) (us : List Value) (x : Option Addr) (h : w.ownsRow B0 23 1 kv n us) (hb : B0 ≤ w.heap.size) (hn : n ≤ 2500) :
    ∃ g cap Y, (Builtin.append_ #[74, 74] 74 #[kv, .slice (some ⟨w.heap.size, 0, none⟩) 1 1]).run Tryz.prog (w.alloc (.cells #[.pointer x] 23)) = .ok (.slice (some ⟨g, 0, none⟩) (n + 1) cap) Y ∧
      Y.ownsRow B0 23 1 (.slice (some ⟨g, 0, none⟩) (n + 1) cap) (n + 1) (us ++ [.pointer x]) ∧ B0 ≤ g ∧ g < Y.heap.size ∧ (kv.ownBlock = some g ∨ w.heap.size ≤ g) ∧ Fr kv.ownBlock.toList w Y := by
  have hrow := h.alloc (.cells #[.pointer x] 23)
  have hnew := heap_new w (.cells #[.pointer x] 23)
  obtain ⟨v', Y, h1, h2, h3, h4⟩ := run_append_kids B0 kv n us hrow w.heap.size 0 1 1 [.pointer x] rfl (fun j hj => by
    have hj0 : j = 0 := by simp at hj; exact hj
    subst hj0
    rw [cell_of_row _ _ _ _ _ _ hnew]; rfl) (fun y hy => by rw [List.mem_singleton] at hy; rw [hy]; rfl) (by omega) (by rw [World.size_alloc]; omega) 74
  obtain ⟨g, cap, rfl, h5, h6, h7⟩ := own_form1 h2
  have hs := h3.size
  rw [World.size_alloc] at hs
  refine ⟨g, cap, Y, h1, h2, h5, h6, ?_, ⟨h3.os, h3.tape, h3.output, by omega, fun k hk hn => ?_⟩⟩
  · rcases h4 with e | e
    · exact .inl (e.symm.trans h7)
    · rw [h7] at e
      injection e with e
      rw [World.size_alloc] at e
      exact .inr (by omega)
  · refine (h3.block k (by rw [World.size_alloc]; omega) (fun e => hn ?_)).trans (Below.heap_alloc _ _ _ hk)
    rw [← e]; simp

/-- What the reader of one part tells. -/
def PkTold (f base : Nat) (w : World) (P S : Nat) (L : List Bt) (p : Nat) (x : Option Addr) (w' : World) : Prop :=
  (∃ r a' bs, gF f (L.drop p ++ [[]]) = some r ∧ PrAt w' P S L a' 0 ∧ L.drop a' ++ [[]] = r.s ∧ p < a' ∧ DgAt f w' base (.pointer x) r.g bs ∧ ∀ b ∈ bs, w.heap.size ≤ b) ∨
  (gF f (L.drop p ++ [[]]) = none ∧ ∃ fl' a', fl' ≠ 0 ∧ PrAt w' P S L a' fl')
theorem pk_of {f base : Nat} {w : World} {P S : Nat} {L : List Bt} {p : Nat} {e : Ending} {w' : World} (h : PgTold f base w P S L p e w') : ∃ x, e = .returned (.pointer x) ∧ PkTold f base w P S L p x w' ∧ Fr [P] w w' := by
  rcases h with ⟨r, v, a', bs, h1, h2, h3, h4, h5, h6, h7, h8⟩ | ⟨h1, x, fl', a', h2, h3, h4, h5⟩
  · obtain ⟨b, hb, _⟩ := h6.ptr
    subst hb
    exact ⟨_, h2, .inl ⟨r, a', bs, h1, h3, h4, h5, h6, h7⟩, h8⟩
  · exact ⟨x, h2, .inr ⟨h1, fl', a', h3, h4⟩, h5⟩

/-- The parts that are read so far. -/
structure DlK (f base : Nat) (w : World) (P G : Nat) (nm : ByteArray) (wx : World) (gs : List Gt) (us : List Value) (cs : List Nat) (kv : Value) : Prop where
  gb : GB wx G nm 0 0 0 kv
  row : wx.ownsRow (G + 1) 23 1 kv gs.length us
  parts : Parts (DgAt f wx base) us gs cs
  apart : ∀ x, kv.ownBlock = some x → x ∉ cs
  news : ∀ b ∈ cs, G < b
  fr : Fr [P] w wx
theorem DlK.go {f base : Nat} {w : World} {P G : Nat} {nm : ByteArray} {wx wy : World} {gs : List Gt} {us : List Value} {cs : List Nat} {kv : Value} (h : DlK f base w P G nm wx gs us cs kv) (hg : Fr [P] wx wy) (hP : P < G) : DlK f base w P G nm wy gs us cs kv :=
  ⟨h.gb.fr hg (by omega), ownsRow_blk h.row (fun y hy => hg.block y (World.ownsRow.lt h.row y hy).2 (by have := (World.ownsRow.lt h.row y hy).1; simp; omega)), h.parts.mono (fun v g ds has hp => hp.fr hg (fun b hb => by have := h.news b (has b hb); simp; omega)), h.apart, h.news, h.fr.trans hg⟩
/-- Where the list stands. -/
structure DlI (f base : Nat) (w : World) (P S G : Nat) (nm : ByteArray) (L : List Bt) (a0 : Nat) (wx : World) (gs : List Gt) (us : List Value) (cs : List Nat) (kv : Value) (a' : Nat) : Prop where
  k : DlK f base w P G nm wx gs us cs kv
  pr : PrAt wx P S L a' 0
  few : gs.length + 2 ≤ a'
  lo : a0 < a'
  ls : ∃ m, (L.drop a' ++ [[]]).length < m + 1 ∧ listF (gF f) (L.drop a0 ++ [[]]) = loopF (gF f) (m + 1) gs (L.drop a' ++ [[]])
/-- Something was wrong. -/
structure DlB (f : Nat) (w : World) (P S : Nat) (L : List Bt) (a0 : Nat) (wx : World) : Prop where
  ls : listF (gF f) (L.drop a0 ++ [[]]) = none
  pr : ∃ fl' a', fl' ≠ 0 ∧ PrAt wx P S L a' fl'
  fr : Fr [P] w wx
theorem exp_no {L : List Bt} {a : Nat} {x : Bt} (hx : x ≠ []) (h : isS L a 0 x = false) : expF x (L.drop a ++ [[]]) = none := by
  have h2 := drop_isnt hx h
  cases hd : L.drop a ++ [[]] with
  | nil => rfl
  | cons t z =>
    rw [hd] at h2
    simp only [expF]
    rw [if_neg (fun e => h2 z (by rw [e]))]
theorem exp_yes {L : List Bt} {a : Nat} {x : Bt} (h : isS L a 0 x = true) : expF x (L.drop a ++ [[]]) = some (L.drop (a + 1) ++ [[]]) := by
  rw [drop_is h]; simp only [expF, if_true]
theorem isS_bad {L : List Bt} {a : Nat} {fl : Int} {x : Bt} (h : fl ≠ 0) : isS L a fl x = false := decide_eq_false (fun e => h e.1)
theorem failS_no {fl n : Int} (h : fl ≠ 0) : failS fl n = fl := if_neg h
theorem Parts.snoc' {Q : Value → Gt → List Nat → Prop} {vs : List Value} {gs : List Gt} {cs : List Nat} (h : Parts Q vs gs cs) {v : Value} {g : Gt} {bs : List Nat} (hv : Q v g bs) (ha : ∀ b ∈ cs, b ∉ bs) : ∃ ds, Parts Q (vs ++ [v]) (gs ++ [g]) ds ∧ ∀ b, b ∈ ds ↔ b ∈ cs ∨ b ∈ bs := by
  induction h with
  | nil => exact ⟨bs ++ [], .cons hv .nil (by simp), by simp⟩
  | @cons u k ds us ks cs h hs hx ih =>
    obtain ⟨es, h1, h2⟩ := ih (fun b hb => ha b (List.mem_append_right _ hb))
    refine ⟨ds ++ es, .cons h h1 (fun b hb he => ?_), fun b => ?_⟩
    · rcases (h2 b).1 he with e | e
      · exact hx b hb e
      · exact ha b (List.mem_append_left _ hb) e
    · rw [List.mem_append, h2 b, List.mem_append]
      constructor
      · rintro (e | e | e)
        · exact .inl (.inl e)
        · exact .inl (.inr e)
        · exact .inr e
      · rintro ((e | e) | e)
        · exact .inl e
        · exact .inr (.inl e)
        · exact .inr (.inr e)

set_option maxHeartbeats 16000000 in
set_option maxRecDepth 100000 in
theorem pgen_more {f : Nat} (ih : PgOk f) (hf20 : f < 20) : PgOk (f + 1) := by
  intro A hA base w P S L a h he hb
  have HIh := hideIt ih
  have hA19 : ¬ (19 : Int) < A := by omega
  have HA1 : Hid (A + 1 = 20 - (f : Int)) := hideIt (by omega)
  have hwA : IntKind.i64.wrap (A + 1) = A + 1 := by rw [IntKind.wrap_i64]; omega
  have c2 := h.c2
  have hPlt := h.ltP
  have hSlt := h.ltS
  have hSP := h.ne
  have hfr0 : Fr [] w (w.alloc (.cells #[.string ⟨#[114, 101, 97, 100]⟩, .string ⟨#[119, 114, 105, 116, 101]⟩, .string ⟨#[108, 105, 109, 105, 116]⟩, .string ⟨#[109, 105, 120]⟩, .string ⟨#[116, 104, 101, 110]⟩] 9)) := Fr.alloc _ _ _
  have HI : Hid (NmI w w.heap.size P S L a (w.alloc (.cells #[.string ⟨#[114, 101, 97, 100]⟩, .string ⟨#[119, 114, 105, 116, 101]⟩, .string ⟨#[108, 105, 109, 105, 116]⟩, .string ⟨#[109, 105, 120]⟩, .string ⟨#[116, 104, 101, 110]⟩] 9))) := hideIt ⟨h.fr hfr0 (by simp) (by simp), heap_new _ _, hfr0.more (by simp)⟩
  have HE := hideIt he
  have hle := h.le
  have hfew := h.few
  clear h he ih hfr0 hA
  go_enter Tryz.func10, Tryz.ntmps10
  go_wp2
  clear c2
  go_loopg [20, 6, 7] 5 (fun k idx _ _ wx => NmI w w.heap.size P S L a wx ∧ (
    (k = 5 ∧ idx = .int .i64 0) ∨
    (k = 4 ∧ idx = .int .i64 1 ∧ isS L a 0 nmRead = false) ∨
    (k = 3 ∧ idx = .int .i64 2 ∧ isS L a 0 nmRead = false ∧ isS L a 0 nmWrite = false) ∨
    (k = 2 ∧ idx = .int .i64 3 ∧ isS L a 0 nmRead = false ∧ isS L a 0 nmWrite = false ∧ isS L a 0 nmLimit = false) ∨
    (k = 1 ∧ idx = .int .i64 4 ∧ isS L a 0 nmRead = false ∧ isS L a 0 nmWrite = false ∧ isS L a 0 nmLimit = false ∧ isS L a 0 nmMix = false) ∨
    (k = 0 ∧ idx = .int .i64 5 ∧ isS L a 0 nmRead = false ∧ isS L a 0 nmWrite = false ∧ isS L a 0 nmLimit = false ∧ isS L a 0 nmMix = false ∧ isS L a 0 nmThen = false)))
  case atStart => exact ⟨HI.out, .inl ⟨rfl, rfl⟩⟩
  case round =>
    obtain ⟨hI, hrel⟩ := hrel
    have HM := hideIt hI
    have hnb := hI.nb
    have hNB : w.heap.size < wr.heap.size := (Array.getElem?_eq_some_iff.1 hnb).1
    have HEr := hideIt (HE.out.fr hI.fr (by simp))
    clear hI
    rcases hrel with ⟨rfl, rfl⟩ | ⟨rfl, rfl, hn0⟩ | ⟨rfl, rfl, hn0, hn1⟩ | ⟨rfl, rfl, hn0, hn1, hn2⟩ | ⟨rfl, rfl, hn0, hn1, hn2, hn3⟩ | ⟨rfl, rfl, hn0, hn1, hn2, hn3, hn4⟩
    · -- nmRead
      have hcell : wr.cell? ⟨w.heap.size, 0, none⟩ = some (.string ⟨#[114, 101, 97, 100]⟩) := by rw [cell_of_row _ _ _ _ _ _ hnb]; rfl
      have HIs := hideIt (pis_any wr P S L a 0 nmRead HM.out.pr)
      go_wp2_with fail
      refine HIs.out.mono ?_
      rintro y w2 ⟨rfl, h2, hf2⟩
      have hnb2 : w2.heap[w.heap.size]? = _ := (hf2.block w.heap.size hNB (by simp; omega)).trans hnb
      cases hq : isS L a 0 nmRead with
      | false =>
        rw [isA_f hq] at h2
        have HN : Hid (NmI w w.heap.size P S L a w2) := hideIt ⟨h2, hnb2, HM.out.fr.trans hf2⟩
        clear h2 hf2 hnb2
        go_wp2
        go_roundg 4
        case measure => omega
        case rel => exact ⟨HN.out, .inr (.inl ⟨rfl, rfl, hq⟩)⟩
      | true =>
        rw [isA_t hq] at h2
        have HD := hideIt (drop_is hq)
        have HP2 := hideIt h2
        have HF02 := hideIt (HM.out.fr.trans hf2)
        have HE2 := hideIt (HEr.out.fr hf2 (by simp))
        have hs2 := HF02.out.size
        have haL := (isS_0 hq).1
        clear h2 hf2 hnb2 hq
        have hal : Fr [] w2 (w2.alloc (.cells #[.string ⟨#[114, 101, 97, 100]⟩, .int .i64 0, .int .i64 0, .int .i64 0, .slice none 0 0, .int .i64 0, .int .i64 0] 76)) := Fr.alloc _ _ _
        have HB3 := hideIt (GB.new w2 ⟨#[114, 101, 97, 100]⟩)
        have HP3 := hideIt (HP2.out.fr hal (by simp) (by simp))
        have HE3 := hideIt (HE2.out.fr hal (by simp))
        have HF3 := hideIt (HF02.out.trans (hal.more (by simp)))
        have hGP : w2.heap.size ≠ P := by have := HP2.out.ltP; omega
        have hGS : w2.heap.size ≠ S := by have := HP2.out.ltS; omega
        have hs3 : w2.heap.size < (w2.alloc (.cells #[.string ⟨#[114, 101, 97, 100]⟩, .int .i64 0, .int .i64 0, .int .i64 0, .slice none 0 0, .int .i64 0, .int .i64 0] 76)).heap.size := by simp
        clear hal
        go_wp2_with fail
        generalize w2.alloc (.cells #[.string ⟨#[114, 101, 97, 100]⟩, .int .i64 0, .int .i64 0, .int .i64 0, .slice none 0 0, .int .i64 0, .int .i64 0] 76) = W3 at *
        generalize w2.heap.size = G at *
        refine (pnumber_any W3 P S L (a + 1) 0 7 HP3.out HE3.out).mono ?_
        rintro y w4 htold
        have hcase : ∃ n, y = .returned (.int .i64 n) ∧ ((∃ r, numF 0 7 (L.drop (a + 1) ++ [[]]) = some r ∧ r.s = L.drop (a + 2) ++ [[]] ∧ r.v = n ∧ PrAt w4 P S L (a + 2) 0) ∨ (numF 0 7 (L.drop (a + 1) ++ [[]]) = none ∧ ∃ fl', fl' ≠ 0 ∧ PrAt w4 P S L (a + 1) fl')) ∧ Fr [P] W3 w4 := by
          rcases htold with ⟨r, k1, k2, k3, k4, k5⟩ | ⟨k1, n, fl', k2, k3, k4, k5⟩
          · exact ⟨r.v, k3, .inl ⟨r, k1, k2, rfl, k4⟩, k5⟩
          · exact ⟨n, k2, .inr ⟨k1, fl', k3, k4⟩, k5⟩
        obtain ⟨n, rfl, hcs, hf4⟩ := hcase
        have HB4 := hideIt (HB3.out.fr hf4 hGP)
        have q1 := HB4.out.c1
        have qf := HB4.out.fz 1
        have HC := hideIt hcs
        have HF4 := hideIt (HF3.out.trans hf4)
        clear htold hcs hf4
        go_wp2
        go_ret
        have hfs : Fr [G] w4 (w4.setCell ⟨G, 1, none⟩ (.int .i64 n)) := Fr.set _ _ _ (by simp)
        have hff : Fr [P] w (w4.setCell ⟨G, 1, none⟩ (.int .i64 n)) := HF4.out.app2 hfs (by simp; omega)
        rcases HC.out with ⟨r, k1, k2, k3, k4⟩ | ⟨k1, fl', k2, k3⟩
        · refine .inl ⟨⟨.rd r.v, r.s⟩, _, a + 2, [G], ?_, rfl, k4.fr hfs (by simpa using Ne.symm hGP) (by simpa using Ne.symm hGS), k2.symm, by omega, ?_, by simp; omega, hff⟩
          · rw [HD.out, gF_read, k1]
          · exact ⟨G, rfl, rfl, by omega, (HB4.out.set1 n).c0, by rw [k3]; exact (HB4.out.set1 n).c1⟩
        · exact .inr ⟨by rw [HD.out, gF_read, k1], _, fl', a + 1, rfl, k2, k3.fr hfs (by simpa using Ne.symm hGP) (by simpa using Ne.symm hGS), hff⟩
    · -- nmWrite
      have hcell : wr.cell? ⟨w.heap.size, 1, none⟩ = some (.string ⟨#[119, 114, 105, 116, 101]⟩) := by rw [cell_of_row _ _ _ _ _ _ hnb]; rfl
      have HIs := hideIt (pis_any wr P S L a 0 nmWrite HM.out.pr)
      go_wp2_with fail
      refine HIs.out.mono ?_
      rintro y w2 ⟨rfl, h2, hf2⟩
      have hnb2 : w2.heap[w.heap.size]? = _ := (hf2.block w.heap.size hNB (by simp; omega)).trans hnb
      cases hq : isS L a 0 nmWrite with
      | false =>
        rw [isA_f hq] at h2
        have HN : Hid (NmI w w.heap.size P S L a w2) := hideIt ⟨h2, hnb2, HM.out.fr.trans hf2⟩
        clear h2 hf2 hnb2
        go_wp2
        go_roundg 3
        case measure => omega
        case rel => exact ⟨HN.out, .inr (.inr (.inl ⟨rfl, rfl, hn0, hq⟩))⟩
      | true =>
        rw [isA_t hq] at h2
        have HD := hideIt (drop_is hq)
        have HP2 := hideIt h2
        have HF02 := hideIt (HM.out.fr.trans hf2)
        have HE2 := hideIt (HEr.out.fr hf2 (by simp))
        have hs2 := HF02.out.size
        have haL := (isS_0 hq).1
        clear h2 hf2 hnb2 hq
        have hal : Fr [] w2 (w2.alloc (.cells #[.string ⟨#[119, 114, 105, 116, 101]⟩, .int .i64 0, .int .i64 0, .int .i64 0, .slice none 0 0, .int .i64 0, .int .i64 0] 76)) := Fr.alloc _ _ _
        have HB3 := hideIt (GB.new w2 ⟨#[119, 114, 105, 116, 101]⟩)
        have HP3 := hideIt (HP2.out.fr hal (by simp) (by simp))
        have HE3 := hideIt (HE2.out.fr hal (by simp))
        have HF3 := hideIt (HF02.out.trans (hal.more (by simp)))
        have hGP : w2.heap.size ≠ P := by have := HP2.out.ltP; omega
        have hGS : w2.heap.size ≠ S := by have := HP2.out.ltS; omega
        have hs3 : w2.heap.size < (w2.alloc (.cells #[.string ⟨#[119, 114, 105, 116, 101]⟩, .int .i64 0, .int .i64 0, .int .i64 0, .slice none 0 0, .int .i64 0, .int .i64 0] 76)).heap.size := by simp
        clear hal
        have HPl : Hid (P ≤ w2.heap.size) := hideIt (Nat.le_of_lt HP2.out.ltP)
        go_wp2_with fail
        generalize w2.alloc (.cells #[.string ⟨#[119, 114, 105, 116, 101]⟩, .int .i64 0, .int .i64 0, .int .i64 0, .slice none 0 0, .int .i64 0, .int .i64 0] 76) = W3 at *
        generalize w2.heap.size = G at *
        refine (pnumber_any W3 P S L (a + 1) 0 7 HP3.out HE3.out).mono ?_
        rintro y w4 htold
        have hcase : ∃ n, y = .returned (.int .i64 n) ∧ ((∃ r, numF 0 7 (L.drop (a + 1) ++ [[]]) = some r ∧ r.s = L.drop (a + 2) ++ [[]] ∧ r.v = n ∧ PrAt w4 P S L (a + 2) 0) ∨ (numF 0 7 (L.drop (a + 1) ++ [[]]) = none ∧ ∃ fl', fl' ≠ 0 ∧ PrAt w4 P S L (a + 1) fl')) ∧ Fr [P] W3 w4 := by
          rcases htold with ⟨r, k1, k2, k3, k4, k5⟩ | ⟨k1, n, fl', k2, k3, k4, k5⟩
          · exact ⟨r.v, k3, .inl ⟨r, k1, k2, rfl, k4⟩, k5⟩
          · exact ⟨n, k2, .inr ⟨k1, fl', k3, k4⟩, k5⟩
        obtain ⟨n4, rfl, hcs, hf⟩ := hcase
        have HB4 := hideIt (HB3.out.fr hf hGP)
        have HF4 := hideIt (HF3.out.trans hf)
        have HE4 := hideIt (HE3.out.fr hf (by simp))
        clear htold hf
        have q1 := HB4.out.c1
        have z1 := HB4.out.fz 1
        rcases hcs with ⟨r1, k1, k2, k3, k4⟩ | ⟨k1, fl', k2, k3⟩
        · have K1 := hideIt k1
          have K2 := hideIt k2
          subst k3
          have hfs : Fr [G] w4 (w4.setCell ⟨G, 1, none⟩ (.int .i64 r1.v)) := Fr.set _ _ _ (by simp)
          have HB5 := hideIt (HB4.out.set1 r1.v)
          have HF5 := hideIt (HF4.out.app2 hfs (by simp; omega))
          have HE5 := hideIt (HE4.out.fr hfs (by simp; have := HPl.out; omega))
          have HP5 := hideIt (k4.fr hfs (by simpa using Ne.symm hGP) (by simpa using Ne.symm hGS))
          clear hfs
          clear k1 k2 k4
          go_wp2_with fail
          clear q1 z1
          generalize w4.setCell ⟨G, 1, none⟩ (.int .i64 r1.v) = W5 at *
          refine (pnumber_any W5 P S L (a + 2) (-1000000) 1000000 HP5.out HE5.out).mono ?_
          rintro y w6 htold
          have hcase : ∃ n, y = .returned (.int .i64 n) ∧ ((∃ r, numF (-1000000) 1000000 (L.drop (a + 2) ++ [[]]) = some r ∧ r.s = L.drop (a + 3) ++ [[]] ∧ r.v = n ∧ PrAt w6 P S L (a + 3) 0) ∨ (numF (-1000000) 1000000 (L.drop (a + 2) ++ [[]]) = none ∧ ∃ fl', fl' ≠ 0 ∧ PrAt w6 P S L (a + 2) fl')) ∧ Fr [P] W5 w6 := by
            rcases htold with ⟨r, k1, k2, k3, k4, k5⟩ | ⟨k1, n, fl', k2, k3, k4, k5⟩
            · exact ⟨r.v, k3, .inl ⟨r, k1, k2, rfl, k4⟩, k5⟩
            · exact ⟨n, k2, .inr ⟨k1, fl', k3, k4⟩, k5⟩
          obtain ⟨n6, rfl, hcs, hf⟩ := hcase
          have HB6 := hideIt (HB5.out.fr hf hGP)
          have HF6 := hideIt (HF5.out.trans hf)
          have HE6 := hideIt (HE5.out.fr hf (by simp))
          clear htold hf
          have q2 := HB6.out.c2
          have z2 := HB6.out.fz 2
          rcases hcs with ⟨r2, k1, k2, k3, k4⟩ | ⟨k1, fl', k2, k3⟩
          · have K3 := hideIt k1
            have K4 := hideIt k2
            subst k3
            have hfs : Fr [G] w6 (w6.setCell ⟨G, 2, none⟩ (.int .i64 r2.v)) := Fr.set _ _ _ (by simp)
            have HB7 := hideIt (HB6.out.set2 r2.v)
            have HF7 := hideIt (HF6.out.app2 hfs (by simp; omega))
            have HE7 := hideIt (HE6.out.fr hfs (by simp; have := HPl.out; omega))
            have HP7 := hideIt (k4.fr hfs (by simpa using Ne.symm hGP) (by simpa using Ne.symm hGS))
            clear hfs
            have p2 := HB7.out.c2
            clear k1 k2 k4
            go_wp2_with fail
            clear q2 z2 p2
            generalize w6.setCell ⟨G, 2, none⟩ (.int .i64 r2.v) = W7 at *
            refine (pnumber_any W7 P S L (a + 3) r2.v 1000000 HP7.out HE7.out).mono ?_
            rintro y w8 htold
            have hcase : ∃ n, y = .returned (.int .i64 n) ∧ ((∃ r, numF r2.v 1000000 (L.drop (a + 3) ++ [[]]) = some r ∧ r.s = L.drop (a + 4) ++ [[]] ∧ r.v = n ∧ PrAt w8 P S L (a + 4) 0) ∨ (numF r2.v 1000000 (L.drop (a + 3) ++ [[]]) = none ∧ ∃ fl', fl' ≠ 0 ∧ PrAt w8 P S L (a + 3) fl')) ∧ Fr [P] W7 w8 := by
              rcases htold with ⟨r, k1, k2, k3, k4, k5⟩ | ⟨k1, n, fl', k2, k3, k4, k5⟩
              · exact ⟨r.v, k3, .inl ⟨r, k1, k2, rfl, k4⟩, k5⟩
              · exact ⟨n, k2, .inr ⟨k1, fl', k3, k4⟩, k5⟩
            obtain ⟨n8, rfl, hcs, hf⟩ := hcase
            have HB8 := hideIt (HB7.out.fr hf hGP)
            have HF8 := hideIt (HF7.out.trans hf)
            have HE8 := hideIt (HE7.out.fr hf (by simp))
            clear htold hf
            have q3 := HB8.out.c3
            have z3 := HB8.out.fz 3
            have HC := hideIt hcs
            clear hcs
            go_wp2
            go_ret
            have hfs : Fr [G] w8 (w8.setCell ⟨G, 3, none⟩ (.int .i64 n8)) := Fr.set _ _ _ (by simp)
            have hff : Fr [P] w (w8.setCell ⟨G, 3, none⟩ (.int .i64 n8)) := HF8.out.app2 hfs (by simp; omega)
            have hw : gF (f + 1) (L.drop a ++ [[]]) = match numF r2.v 1000000 (L.drop (a + 3) ++ [[]]) with | none => none | some b => some ⟨.wr r1.v r2.v b.v, b.s⟩ := by
              rw [HD.out, gF_write, wrF, K1.out]
              simp only
              rw [K2.out, K3.out]
              simp only
              rw [K4.out]
              cases numF r2.v 1000000 (L.drop (a + 3) ++ [[]]) <;> rfl
            rcases HC.out with ⟨r, k1, k2, k3, k4⟩ | ⟨k1, fl', k2, k3⟩
            · have l2 := numF_len K3.out
              have l3 := numF_len k1
              subst k3
              have hb8 := HB8.out.set3 r.v
              refine .inl ⟨⟨.wr r1.v r2.v r.v, r.s⟩, _, a + 4, [G], ?_, rfl, k4.fr hfs (by simpa using Ne.symm hGP) (by simpa using Ne.symm hGS), k2.symm, by omega, ?_, by simp; omega, hff⟩
              · rw [hw, k1]
              · exact ⟨G, rfl, rfl, by omega, hb8.c0, hb8.c1, hb8.c2, hb8.c3, l2.2.1, l3.2.1, l3.2.2⟩
            · exact .inr ⟨by rw [hw, k1], _, fl', a + 3, rfl, k2, k3.fr hfs (by simpa using Ne.symm hGP) (by simpa using Ne.symm hGS), hff⟩
          · have hfl := k2
            have hw : gF (f + 1) (L.drop a ++ [[]]) = none := by
              rw [HD.out, gF_write, wrF, K1.out]
              simp only
              rw [K2.out, k1]
            have HW := hideIt hw
            have hfs : Fr [G] w6 (w6.setCell ⟨G, 2, none⟩ (.int .i64 n6)) := Fr.set _ _ _ (by simp)
            have HB7 := hideIt (HB6.out.set2 n6)
            have HP7 := hideIt (k3.fr hfs (by simpa using Ne.symm hGP) (by simpa using Ne.symm hGS))
            have HF7 := hideIt (HF6.out.app2 hfs (by simp; omega))
            have p2 := HB7.out.c2
            clear hfs hw k1 k3
            go_wp2_with fail
            clear q2 z2 p2
            generalize w6.setCell ⟨G, 2, none⟩ (.int .i64 n6) = W7 at *
            refine (pnumber_bad W7 P S L _ fl' _ _ HP7.out hfl).mono ?_
            rintro y w8 ⟨rfl, rfl⟩
            have q3 := HB7.out.c3
            have z3 := HB7.out.fz 3
            go_wp2
            go_ret
            have hfs : Fr [G] w8 (w8.setCell ⟨G, 3, none⟩ (.int .i64 0)) := Fr.set _ _ _ (by simp)
            exact .inr ⟨HW.out, _, fl', _, rfl, hfl, HP7.out.fr hfs (by simpa using Ne.symm hGP) (by simpa using Ne.symm hGS), HF7.out.app2 hfs (by simp; omega)⟩
        · have hfl := k2
          have hw : gF (f + 1) (L.drop a ++ [[]]) = none := by rw [HD.out, gF_write, wrF, k1]
          have HW := hideIt hw
          have hfs : Fr [G] w4 (w4.setCell ⟨G, 1, none⟩ (.int .i64 n4)) := Fr.set _ _ _ (by simp)
          have HB5 := hideIt (HB4.out.set1 n4)
          have HP5 := hideIt (k3.fr hfs (by simpa using Ne.symm hGP) (by simpa using Ne.symm hGS))
          have HF5 := hideIt (HF4.out.app2 hfs (by simp; omega))
          clear hfs hw k1 k3
          go_wp2_with fail
          clear q1 z1
          generalize w4.setCell ⟨G, 1, none⟩ (.int .i64 n4) = W5 at *
          refine (pnumber_bad W5 P S L _ fl' _ _ HP5.out hfl).mono ?_
          rintro y w6 ⟨rfl, rfl⟩
          have q2 := HB5.out.c2
          have z2 := HB5.out.fz 2
          have hfs : Fr [G] w6 (w6.setCell ⟨G, 2, none⟩ (.int .i64 0)) := Fr.set _ _ _ (by simp)
          have HB7 := hideIt (HB5.out.set2 0)
          have HP7 := hideIt (HP5.out.fr hfs (by simpa using Ne.symm hGP) (by simpa using Ne.symm hGS))
          have HF7 := hideIt (HF5.out.app2 hfs (by simp; omega))
          have p2 := HB7.out.c2
          clear hfs
          go_wp2_with fail
          clear q2 z2 p2
          generalize w6.setCell ⟨G, 2, none⟩ (.int .i64 0) = W7 at *
          refine (pnumber_bad W7 P S L _ fl' _ _ HP7.out hfl).mono ?_
          rintro y w8 ⟨rfl, rfl⟩
          have q3 := HB7.out.c3
          have z3 := HB7.out.fz 3
          go_wp2
          go_ret
          have hfs : Fr [G] w8 (w8.setCell ⟨G, 3, none⟩ (.int .i64 0)) := Fr.set _ _ _ (by simp)
          exact .inr ⟨HW.out, _, fl', _, rfl, hfl, HP7.out.fr hfs (by simpa using Ne.symm hGP) (by simpa using Ne.symm hGS), HF7.out.app2 hfs (by simp; omega)⟩
    · -- nmLimit
      have hcell : wr.cell? ⟨w.heap.size, 2, none⟩ = some (.string ⟨#[108, 105, 109, 105, 116]⟩) := by rw [cell_of_row _ _ _ _ _ _ hnb]; rfl
      have HIs := hideIt (pis_any wr P S L a 0 nmLimit HM.out.pr)
      go_wp2_with fail
      refine HIs.out.mono ?_
      rintro y w2 ⟨rfl, h2, hf2⟩
      have hnb2 : w2.heap[w.heap.size]? = _ := (hf2.block w.heap.size hNB (by simp; omega)).trans hnb
      cases hq : isS L a 0 nmLimit with
      | false =>
        rw [isA_f hq] at h2
        have HN : Hid (NmI w w.heap.size P S L a w2) := hideIt ⟨h2, hnb2, HM.out.fr.trans hf2⟩
        clear h2 hf2 hnb2
        go_wp2
        go_roundg 2
        case measure => omega
        case rel => exact ⟨HN.out, .inr (.inr (.inr (.inl ⟨rfl, rfl, hn0, hn1, hq⟩)))⟩
      | true =>
        rw [isA_t hq] at h2
        have HD := hideIt (drop_is hq)
        have HP2 := hideIt h2
        have HF02 := hideIt (HM.out.fr.trans hf2)
        have HE2 := hideIt (HEr.out.fr hf2 (by simp))
        have hs2 := HF02.out.size
        have haL := (isS_0 hq).1
        clear h2 hf2 hnb2 hq
        have hal : Fr [] w2 (w2.alloc (.cells #[.string ⟨#[108, 105, 109, 105, 116]⟩, .int .i64 0, .int .i64 0, .int .i64 0, .slice none 0 0, .int .i64 0, .int .i64 0] 76)) := Fr.alloc _ _ _
        have HB3 := hideIt (GB.new w2 ⟨#[108, 105, 109, 105, 116]⟩)
        have HP3 := hideIt (HP2.out.fr hal (by simp) (by simp))
        have HE3 := hideIt (HE2.out.fr hal (by simp))
        have HF3 := hideIt (HF02.out.trans (hal.more (by simp)))
        have hGP : w2.heap.size ≠ P := by have := HP2.out.ltP; omega
        have hGS : w2.heap.size ≠ S := by have := HP2.out.ltS; omega
        have hs3 : w2.heap.size < (w2.alloc (.cells #[.string ⟨#[108, 105, 109, 105, 116]⟩, .int .i64 0, .int .i64 0, .int .i64 0, .slice none 0 0, .int .i64 0, .int .i64 0] 76)).heap.size := by simp
        clear hal
        have HPl : Hid (P < w2.heap.size) := hideIt HP2.out.ltP
        have HSl : Hid (S < w2.heap.size) := hideIt HP2.out.ltS
        go_wp2_with fail
        generalize w2.alloc (.cells #[.string ⟨#[108, 105, 109, 105, 116]⟩, .int .i64 0, .int .i64 0, .int .i64 0, .slice none 0 0, .int .i64 0, .int .i64 0] 76) = W3 at *
        generalize w2.heap.size = G at *
        refine (pnumber_any W3 P S L (a + 1) 0 1000 HP3.out HE3.out).mono ?_
        rintro y w4 htold
        have hcase : ∃ n, y = .returned (.int .i64 n) ∧ ((∃ r, numF 0 1000 (L.drop (a + 1) ++ [[]]) = some r ∧ r.s = L.drop (a + 2) ++ [[]] ∧ r.v = n ∧ PrAt w4 P S L (a + 2) 0) ∨ (numF 0 1000 (L.drop (a + 1) ++ [[]]) = none ∧ ∃ fl', fl' ≠ 0 ∧ PrAt w4 P S L (a + 1) fl')) ∧ Fr [P] W3 w4 := by
          rcases htold with ⟨r, k1, k2, k3, k4, k5⟩ | ⟨k1, n, fl', k2, k3, k4, k5⟩
          · exact ⟨r.v, k3, .inl ⟨r, k1, k2, rfl, k4⟩, k5⟩
          · exact ⟨n, k2, .inr ⟨k1, fl', k3, k4⟩, k5⟩
        obtain ⟨n4, rfl, hcs, hf⟩ := hcase
        have HB4 := hideIt (HB3.out.fr hf hGP)
        have HF4 := hideIt (HF3.out.trans hf)
        have HE4 := hideIt (HE3.out.fr hf (by simp))
        clear htold hf
        have q1 := HB4.out.c1
        have z1 := HB4.out.fz 1
        have hfs : Fr [G] w4 (w4.setCell ⟨G, 1, none⟩ (.int .i64 n4)) := Fr.set _ _ _ (by simp)
        have HB5 := hideIt (HB4.out.set1 n4)
        have HF5 := hideIt (HF4.out.app2 hfs (by simp; omega))
        have HE5 := hideIt (HE4.out.fr hfs (by simp; have := HPl.out; omega))
        have HC5 : Hid ((∃ r, numF 0 1000 (L.drop (a + 1) ++ [[]]) = some r ∧ r.s = L.drop (a + 2) ++ [[]] ∧ r.v = n4 ∧ PrAt (w4.setCell ⟨G, 1, none⟩ (.int .i64 n4)) P S L (a + 2) 0) ∨ (numF 0 1000 (L.drop (a + 1) ++ [[]]) = none ∧ ∃ fl', fl' ≠ 0 ∧ PrAt (w4.setCell ⟨G, 1, none⟩ (.int .i64 n4)) P S L (a + 1) fl')) := hideIt (by
          rcases hcs with ⟨r, k1, k2, k3, k4⟩ | ⟨k1, fl', k2, k3⟩
          · exact .inl ⟨r, k1, k2, k3, k4.fr hfs (by simpa using Ne.symm hGP) (by simpa using Ne.symm hGS)⟩
          · exact .inr ⟨k1, fl', k2, k3.fr hfs (by simpa using Ne.symm hGP) (by simpa using Ne.symm hGS)⟩)
        have hs5 : G < (w4.setCell ⟨G, 1, none⟩ (.int .i64 n4)).heap.size := HB5.out.lt
        clear hcs hfs
        go_upto_region 27 with fail
        clear q1 z1
        generalize w4.setCell ⟨G, 1, none⟩ (.int .i64 n4) = W5 at *
        have HRow5 : Hid (W5.ownsRow (G + 1) 23 1 (.slice none 0 0) 0 []) := hideIt (World.ownsRow_nil _ _ _ _)
        have HNn : Hid (0 ≤ 2400) := hideIt (by omega)
        have HCall : Hid (Calls Tryz.prog 10 #[.pointer (some ⟨P, 0, none⟩), .int .i64 (A + 1)] W5.drew fun e w' => ∃ x, e = .returned (.pointer x) ∧ ((∃ k r a' bs, numF 0 1000 (L.drop (a + 1) ++ [[]]) = some k ∧ k.v = n4 ∧ gF f k.s = some r ∧ PrAt w' P S L a' 0 ∧ L.drop a' ++ [[]] = r.s ∧ a + 2 < a' ∧ DgAt f w' base (.pointer x) r.g bs ∧ ∀ b ∈ bs, W5.drew.heap.size ≤ b) ∨ (gF (f + 1) (L.drop a ++ [[]]) = none ∧ ∃ fl' a', fl' ≠ 0 ∧ PrAt w' P S L a' fl')) ∧ Fr [P] W5.drew w') := hideIt (by
          rcases HC5.out with ⟨k, k1, k2, k3, k4⟩ | ⟨k1, fl', k2, k3⟩
          · refine (HIh.out (A + 1) HA1.out base W5.drew P S L (a + 2) (k4.drewN 1) (HE5.out.fr (Fr.drewN [] W5 1) (by simp)) (by show base ≤ W5.heap.size; omega)).mono ?_
            intro e w' ht
            obtain ⟨x, h1, h2, h3⟩ := pk_of ht
            refine ⟨x, h1, ?_, h3⟩
            rcases h2 with ⟨r, a', bs, g1, g2, g3, g4, g5, g6⟩ | ⟨g1, fl', a', g2, g3⟩
            · exact .inl ⟨k, r, a', bs, k1, k3, by rw [k2]; exact g1, g2, g3, g4, g5, g6⟩
            · refine .inr ⟨?_, fl', a', g2, g3⟩
              rw [HD.out, gF_limit, k1]
              simp only
              rw [k2, g1]
          · refine (pgen_bad W5.drew P S L (a + 1) fl' (A + 1) (k3.drewN 1) k2).mono ?_
            rintro e w' ⟨rfl, rfl⟩
            exact ⟨none, rfl, .inr ⟨by rw [HD.out, gF_limit, k1], fl', a + 1, k2, k3.drewN 1⟩, Fr.refl _ _⟩)
        refine wp_region_L (B := [13]) (S := fun _ => True) (T := fun Z => Z.cell? ⟨G, 4, none⟩ = some (.slice none 0 0)) (by kernel_rfl) ⟨trivial, HB5.out.c4⟩ (fun hHeld => ?_)
        refine wpAnyL_takeS (i := 0) (v := ?_) rfl (by kernel_rfl) (by kernel_rfl) (by kernel_rfl) (by kernel_rfl) (fun _ _ _ h => h) (Or.inl ⟨by rfl, ?_⟩) (by assumption) ?_
        rotate_left 1
        · intro wz sb
          go_simp
          all_goals with_reducible rfl
        simp only [Act.put, List.setIfInBounds_toArray, List.set_cons_zero, List.set_cons_succ, List.getElem_toArray, List.getElem_cons_zero]
        refine wpAnyL_takeS (i := 1) (v := ?_) rfl (by kernel_rfl) (by kernel_rfl) (by kernel_rfl) (by kernel_rfl) (fun _ _ _ h => h) (Or.inl ⟨by rfl, ?_⟩) (by assumption) ?_
        rotate_left 1
        · intro wz sb
          go_simp
          all_goals with_reducible rfl
        simp only [Act.put, List.setIfInBounds_toArray, List.set_cons_zero, List.set_cons_succ, List.getElem_toArray, List.getElem_cons_zero, List.getElem_cons_succ]
        refine wpAnyL_takeS (i := 2) (v := ?_) rfl (by kernel_rfl) (by kernel_rfl) (by kernel_rfl) (by kernel_rfl) (fun _ _ _ h => h) (Or.inl ⟨by rfl, ?_⟩) (by assumption) ?_
        rotate_left 1
        · intro wz sb
          go_simp
          all_goals with_reducible rfl
        simp only [Act.put, List.setIfInBounds_toArray, List.set_cons_zero, List.set_cons_succ, List.getElem_toArray, List.getElem_cons_zero, List.getElem_cons_succ]
        refine wpAnyL_takeS (i := 3) (v := ?_) rfl (by kernel_rfl) (by kernel_rfl) (by kernel_rfl) (by kernel_rfl) (fun _ _ _ h => h) (Or.inl ⟨by rfl, ?_⟩) (by assumption) ?_
        rotate_left 1
        · intro wz sb
          go_simp
          all_goals with_reducible rfl
        simp only [Act.put, List.setIfInBounds_toArray, List.set_cons_zero, List.set_cons_succ, List.getElem_toArray, List.getElem_cons_zero, List.getElem_cons_succ]
        refine wpAnyL_take [10, 13] (i := 4) (v := ?_) rfl (by kernel_rfl) (by kernel_rfl) (by kernel_rfl) (by kernel_rfl) (fun _ _ _ h => h) (Or.inl ⟨by rfl, ?_⟩) (by assumption) ?_
        rotate_left 1
        · intro wz sb
          have y4 := sb.2
          go_simp
          all_goals with_reducible rfl
        simp only [Act.put, List.setIfInBounds_toArray, List.set_cons_zero, List.set_cons_succ, List.getElem_toArray, List.getElem_cons_zero, List.getElem_cons_succ]
        refine wpAnyL_takeS (i := 5) (v := ?_) rfl (by kernel_rfl) (by kernel_rfl) (by kernel_rfl) (by kernel_rfl) (fun _ _ _ h => h) (Or.inl ⟨by rfl, ?_⟩) (by assumption) ?_
        rotate_left 1
        · intro wz sb
          go_simp
          all_goals with_reducible rfl
        simp only [Act.put, List.setIfInBounds_toArray, List.set_cons_zero, List.set_cons_succ, List.getElem_toArray, List.getElem_cons_zero, List.getElem_cons_succ]
        refine wpAnyL_takeS (i := 6) (v := ?_) rfl (by kernel_rfl) (by kernel_rfl) (by kernel_rfl) (by kernel_rfl) (fun _ _ _ h => h) (Or.inl ⟨by rfl, ?_⟩) (by assumption) ?_
        rotate_left 1
        · intro wz sb
          go_simp
          all_goals with_reducible rfl
        simp only [Act.put, List.setIfInBounds_toArray, List.set_cons_zero, List.set_cons_succ, List.getElem_toArray, List.getElem_cons_zero, List.getElem_cons_succ]
        refine wpAnyL_takeS (i := 7) (v := ?_) rfl (by kernel_rfl) (by kernel_rfl) (by kernel_rfl) (by kernel_rfl) (fun _ _ _ h => h) (Or.inl ⟨by rfl, ?_⟩) (by assumption) ?_
        rotate_left 1
        · intro wz sb
          go_simp
          all_goals with_reducible rfl
        simp only [Act.put, List.setIfInBounds_toArray, List.set_cons_zero, List.set_cons_succ, List.getElem_toArray, List.getElem_cons_zero, List.getElem_cons_succ]
        refine wpAnyL_ready (rs := [8]) (by kernel_rfl) (by simp) (AllReadyL.cons rfl (fun Q hQ => ?_) AllReadyL.nil)
        go_simp
        refine HCall.out.mono ?_
        rintro y w6 ⟨x, rfl, hk6, hf6⟩
        have HK6 := hideIt hk6
        have HB5d := hideIt (GB.blk HB5.out (w' := W5.drew) rfl)
        have HB6 := hideIt (HB5d.out.fr hf6 hGP)
        have HRow6 := hideIt (ownsRow_blk (w' := w6) HRow5.out (fun y hy => hf6.block y (World.ownsRow.lt HRow5.out y hy).2 (by have := (World.ownsRow.lt HRow5.out y hy).1; have := HPl.out; simp; omega)))
        have hs6 : W5.heap.size ≤ w6.heap.size := hf6.size
        have HF6 := hideIt hf6
        clear hk6 hf6
        refine hQ.out _ _ ⟨trivial, HB6.out.c4⟩ (fun _ => ?_)
        clear hQ Q
        have hT7 : (w6.alloc (.cells #[.pointer x] 23)).cell? ⟨G, 4, none⟩ = some (.slice none 0 0) := (World.cell?_alloc_lt _ _ _ HB6.out.lt).trans HB6.out.c4
        obtain ⟨g, cap, Y8, hrun, ho8, hg8, hgl8, hgo8, hf8⟩ := kid_append w6 (G + 1) (.slice none 0 0) 0 [] x HRow6.out (by have := HB6.out.lt; omega) (by have := HNn.out; omega)
        have hGr : G ∉ (Value.ownBlock (.slice none 0 0)).toList := fun e => by
          have e2 : Value.ownBlock (.slice none 0 0) = some G := by simpa using e
          have := (World.ownsRow.lt HRow6.out G e2).1
          omega
        have kb8 : Y8.heap[G]? = w6.heap[G]? := hf8.block G HB6.out.lt hGr
        have HB8 := hideIt (HB6.out.blk kb8)
        refine wpAnyL_ready (rs := [9]) (by kernel_rfl) (by simp) (AllReadyL.cons rfl (fun Q hQ => ?_) AllReadyL.nil)
        go_simp
        refine hQ.out _ _ ⟨trivial, hT7⟩ (fun _ => ?_)
        clear hQ Q
        refine wpAnyL_ready (rs := [10]) (by kernel_rfl) (by simp) (AllReadyL.cons rfl (fun Q hQ => ?_) AllReadyL.nil)
        refine step_append_run (by rfl) _ _ 74 rfl _ _ _ Y8 rfl rfl hrun ?_
        refine hQ.out _ _ ⟨trivial, HB8.out.c4⟩ (fun _ => ?_)
        clear hQ Q
        simp only [Act.put, List.setIfInBounds_toArray, List.set_cons_zero, List.set_cons_succ, List.getElem_toArray, List.getElem_cons_zero, List.getElem_cons_succ]
        refine wpAnyL_takeS (i := 11) (v := ?_) rfl (by kernel_rfl) (by kernel_rfl) (by kernel_rfl) (by kernel_rfl) (fun _ _ _ h => h) (Or.inl ⟨by rfl, ?_⟩) (by assumption) ?_
        rotate_left 1
        · intro wz sb
          go_simp
          all_goals with_reducible rfl
        simp only [Act.put, List.setIfInBounds_toArray, List.set_cons_zero, List.set_cons_succ, List.getElem_toArray, List.getElem_cons_zero, List.getElem_cons_succ]
        refine wpAnyL_takeS (i := 12) (v := ?_) rfl (by kernel_rfl) (by kernel_rfl) (by kernel_rfl) (by kernel_rfl) (fun _ _ _ h => h) (Or.inl ⟨by rfl, ?_⟩) (by assumption) ?_
        rotate_left 1
        · intro wz sb
          go_simp
          all_goals with_reducible rfl
        simp only [Act.put, List.setIfInBounds_toArray, List.set_cons_zero, List.set_cons_succ, List.getElem_toArray, List.getElem_cons_zero, List.getElem_cons_succ]
        have q4 := HB8.out.c4
        have z4 := HB8.out.fz 4
        have HO8 := hideIt ho8
        have HF8 := hideIt hf8
        clear hrun ho8 hf8 kb8
        refine wpAnyL_ready (rs := [13]) (by kernel_rfl) (by simp) (AllReadyL.last rfl (by kernel_rfl) (fun Q hQ => ?_) AllReadyL.nil)
        go_simp
        refine hQ.out _ _ trivial (fun _ => ?_)
        clear hQ Q
        refine wpAnyL_done (by kernel_rfl) ?_ _
        have HB9 := hideIt (HB8.out.set4 (.slice (some ⟨g, 0, none⟩) (0 + 1) cap))
        have hf9 : Fr [G] Y8 (Y8.setCell ⟨G, 4, none⟩ (.slice (some ⟨g, 0, none⟩) (0 + 1) cap)) := Fr.set _ _ _ (by simp)
        have HO9 := hideIt (ownsRow_blk HO8.out (w' := Y8.setCell ⟨G, 4, none⟩ (.slice (some ⟨g, 0, none⟩) (0 + 1) cap)) (fun y hy => by have hy' : some g = some y := hy; cases hy'; exact hf9.block g hgl8 (by simp; omega)))
        have hk9 : ∀ k, k < w6.heap.size → k ≠ G → Value.ownBlock (.slice none 0 0) ≠ some k → (Y8.setCell ⟨G, 4, none⟩ (.slice (some ⟨g, 0, none⟩) (0 + 1) cap)).heap[k]? = w6.heap[k]? := fun k h1 h2 h3 => (hf9.block k (Nat.lt_of_lt_of_le h1 HF8.out.size) (by simpa using h2)).trans (HF8.out.block k h1 (fun e => h3 (by simpa using e)))
        have HK9 := hideIt hk9
        have HS9 : Hid (w6.heap.size ≤ (Y8.setCell ⟨G, 4, none⟩ (.slice (some ⟨g, 0, none⟩) (0 + 1) cap)).heap.size) := hideIt (Nat.le_trans HF8.out.size hf9.size)
        have HPS : Hid (∀ fl' a', PrAt w6 P S L a' fl' → PrAt (Y8.setCell ⟨G, 4, none⟩ (.slice (some ⟨g, 0, none⟩) (0 + 1) cap)) P S L a' fl') := hideIt (fun fl' a' h => h.blk (hk9 P h.ltP (Ne.symm hGP) (fun e => by have := (World.ownsRow.lt HRow6.out P e).1; have := HPl.out; omega)) (hk9 S h.ltS (Ne.symm hGS) (fun e => by have := (World.ownsRow.lt HRow6.out S e).1; have := HSl.out; omega)) HS9.out)
        have HF9 : Hid (Fr [P] w6 w6 → Fr [P] w (Y8.setCell ⟨G, 4, none⟩ (.slice (some ⟨g, 0, none⟩) (0 + 1) cap))) := hideIt (fun _ => by
          have h1 : Fr [P] w w6 := (HF5.out.trans (Fr.drewN _ _ 1)).trans HF6.out
          have h2 : Fr (G :: (Value.ownBlock (.slice none 0 0)).toList) w6 (Y8.setCell ⟨G, 4, none⟩ (.slice (some ⟨g, 0, none⟩) (0 + 1) cap)) := (HF8.out.more (fun y hy => .inl (List.mem_cons_of_mem _ hy))).trans (hf9.more (by simp))
          refine h1.app2 h2 (fun y hy => ?_)
          rcases List.mem_cons.1 hy with e | e
          · exact .inr (by omega)
          · have e2 : Value.ownBlock (.slice none 0 0) = some y := by simpa using e
            have := (World.ownsRow.lt HRow6.out y e2).1
            exact .inr (by omega))
        clear hf9 hk9 q4 z4
        generalize Y8.setCell ⟨G, 4, none⟩ (.slice (some ⟨g, 0, none⟩) (0 + 1) cap) = Y9 at *
        go_wp2
        go_ret
        rcases HK6.out with ⟨k, r, a', bs, k1, k2, k3, k4, k5, k6, k7, k8⟩ | ⟨k1, fl', a', k2, k3⟩
        · have hl := numF_len k1
          have hg6 : w6.heap.size ≤ g := by
            rcases hgo8 with e | e
            · cases e
            · exact e
          have hbl : ∀ b ∈ bs, b < w6.heap.size := fun b hb => (k7.in_ b hb).2
          have hW5 : W5.drew.heap.size = W5.heap.size := rfl
          have hbG : ∀ b ∈ bs, G < b := fun b hb => by have := k8 b hb; omega
          refine .inl ⟨⟨.lim r.g k.v.toNat, r.s⟩, _, a', G :: g :: bs, ?_, rfl, HPS.out _ _ k4, k5, by omega, ?_, ?_, HF9.out (Fr.refl _ _)⟩
          · rw [HD.out, gF_limit, k1]
            simp only
            rw [k3]
          · refine ⟨G, g, .pointer x, cap, bs, 0, rfl, rfl, by omega, by omega, by omega, fun e => by have := hbG G e; omega, fun e => by have := hbl g e; omega, HB9.out.c0, ?_, HB9.out.c4, HB9.out.c5, HB9.out.fz 5, by omega, ?_, k7.low (fun b hb => HK9.out b (hbl b hb) (by have := hbG b hb; omega) (fun e => by cases e))⟩
            · rw [show ((0 + k.v.toNat : Nat) : Int) = n4 by omega]; exact HB9.out.c1
            · exact (HO9.out.cellAt 0 (by simp)).trans rfl
          · intro b hb
            rcases List.mem_cons.1 hb with e | hb
            · omega
            rcases List.mem_cons.1 hb with e | hb
            · omega
            · have := hbG b hb; omega
        · exact .inr ⟨k1, _, fl', a', rfl, k2, HPS.out _ _ k3, HF9.out (Fr.refl _ _)⟩
    · -- nmMix
      have hcell : wr.cell? ⟨w.heap.size, 3, none⟩ = some (.string ⟨#[109, 105, 120]⟩) := by rw [cell_of_row _ _ _ _ _ _ hnb]; rfl
      have HIs := hideIt (pis_any wr P S L a 0 nmMix HM.out.pr)
      go_wp2_with fail
      refine HIs.out.mono ?_
      rintro y w2 ⟨rfl, h2, hf2⟩
      have hnb2 : w2.heap[w.heap.size]? = _ := (hf2.block w.heap.size hNB (by simp; omega)).trans hnb
      cases hq : isS L a 0 nmMix with
      | false =>
        rw [isA_f hq] at h2
        have HN : Hid (NmI w w.heap.size P S L a w2) := hideIt ⟨h2, hnb2, HM.out.fr.trans hf2⟩
        clear h2 hf2 hnb2
        go_wp2
        go_roundg 1
        case measure => omega
        case rel => exact ⟨HN.out, .inr (.inr (.inr (.inr (.inl ⟨rfl, rfl, hn0, hn1, hn2, hq⟩))))⟩
      | true =>
        rw [isA_t hq] at h2
        have HD := hideIt (drop_is hq)
        have HP2 := hideIt h2
        have HF02 := hideIt (HM.out.fr.trans hf2)
        have HE2 := hideIt (HEr.out.fr hf2 (by simp))
        have hs2 := HF02.out.size
        have haL := (isS_0 hq).1
        clear h2 hf2 hnb2 hq
        have hal : Fr [] w2 (w2.alloc (.cells #[.string ⟨#[109, 105, 120]⟩, .int .i64 0, .int .i64 0, .int .i64 0, .slice none 0 0, .int .i64 0, .int .i64 0] 76)) := Fr.alloc _ _ _
        have HB3 := hideIt (GB.new w2 ⟨#[109, 105, 120]⟩)
        have HP3 := hideIt (HP2.out.fr hal (by simp) (by simp))
        have HE3 := hideIt (HE2.out.fr hal (by simp))
        have HF3 := hideIt (HF02.out.trans (hal.more (by simp)))
        have hGP : w2.heap.size ≠ P := by have := HP2.out.ltP; omega
        have hGS : w2.heap.size ≠ S := by have := HP2.out.ltS; omega
        have hs3 : w2.heap.size < (w2.alloc (.cells #[.string ⟨#[109, 105, 120]⟩, .int .i64 0, .int .i64 0, .int .i64 0, .slice none 0 0, .int .i64 0, .int .i64 0] 76)).heap.size := by simp
        clear hal
        have HPl : Hid (P < w2.heap.size) := hideIt HP2.out.ltP
        have HSl : Hid (S < w2.heap.size) := hideIt HP2.out.ltS
        have HGw : Hid (w.heap.size ≤ w2.heap.size) := hideIt hs2
        go_wp2_with fail
        generalize w2.alloc (.cells #[.string ⟨#[109, 105, 120]⟩, .int .i64 0, .int .i64 0, .int .i64 0, .slice none 0 0, .int .i64 0, .int .i64 0] 76) = W3 at *
        generalize w2.heap.size = G at *
        have HGF : Hid (gF (f + 1) (L.drop a ++ [[]]) = match listF (gF f) (L.drop (a + 1) ++ [[]]) with | none => none | some r => some ⟨.mix r.l, r.s⟩) := hideIt (by rw [HD.out, gF_mix])
        refine (pis_any W3 P S L (a + 1) 0 [40] HP3.out).mono ?_
        rintro y w4 ⟨rfl, h4, hf4⟩
        have HB4 := hideIt (HB3.out.fr hf4 hGP)
        have HF4 := hideIt (HF3.out.trans hf4)
        clear hf4
        cases hq2 : isS L (a + 1) 0 [40] with
        | false =>
          rw [isA_f hq2] at h4
          have H4 := hideIt h4
          have HLs : Hid (listF (gF f) (L.drop (a + 1) ++ [[]]) = none) := hideIt (by rw [listF_loop (gF_takes f), exp_no (by decide) hq2])
          clear h4 hq2
          go_wp2_with fail
          refine (pfail_any w4 P S L (a + 1) 0 3 H4.out).mono ?_
          rintro y w5 ⟨rfl, h5, hf5⟩
          have HI5 : Hid (DlB f w P S L (a + 1) w5) := hideIt ⟨HLs.out, ⟨3, a + 1, by decide, h5⟩, HF4.out.trans hf5⟩
          clear h5 hf5
          go_wp2
          go_loopg [] 0 (fun k wx => DlB f w P S L (a + 1) wx)
          case atStart => exact HI5.out
          case round =>
            obtain ⟨hl, ⟨fl', a', h1, h2⟩, h3⟩ := hrel
            have c2 := h2.c2
            have hb : (fl' == 0) = false := by simp [h1]
            have H2 := hideIt h2
            have H3 := hideIt h3
            clear h2 h3
            go_wp2
            go_ret
            exact .inr ⟨by rw [HGF.out, hl], _, fl', a', rfl, h1, H2.out, H3.out⟩
        | true =>
          rw [isA_t hq2] at h4
          have haL1 := (isS_0 hq2).1
          have HI4 : Hid (DlI f base w P S G ⟨#[109, 105, 120]⟩ L (a + 1) w4 [] [] [] (.slice none 0 0) (a + 2)) := hideIt ⟨⟨HB4.out, World.ownsRow_nil _ _ _ _, .nil, (fun x e => by cases e), (by simp), HF4.out⟩, h4, by simp, by omega, (L.drop (a + 2) ++ [[]]).length, by omega, by rw [listF_loop (gF_takes f), exp_yes hq2]⟩
          clear h4 hq2
          go_wp2
          go_loopg [] (L.length + 1 - (a + 2)) (fun k wx => (∃ gs us cs kv a', k = L.length + 1 - a' ∧ DlI f base w P S G ⟨#[109, 105, 120]⟩ L (a + 1) wx gs us cs kv a') ∨ DlB f w P S L (a + 1) wx)
          case atStart => exact .inl ⟨_, _, _, _, _, rfl, HI4.out⟩
          case round =>
            clear HI4
            rcases hrel with ⟨gs, us, cs, kv, a', hk, hI⟩ | ⟨hl, ⟨fl', a', h1, h2⟩, h3⟩
            rotate_left 1
            · have c2 := h2.c2
              have hb : (fl' == 0) = false := by simp [h1]
              have H2 := hideIt h2
              have H3 := hideIt h3
              clear h2 h3
              go_wp2
              go_ret
              exact .inr ⟨by rw [HGF.out, hl], _, fl', a', rfl, h1, H2.out, H3.out⟩
            · have HM2 := hideIt hI
              obtain ⟨⟨hgb, hrow, hparts, hapart, hnews, hfr⟩, hpr, hfew, hlo, m, hm, hls⟩ := hI
              have c2 := hpr.c2
              have hale := hpr.le
              have HB5 := hideIt hgb
              have HRow5 := hideIt hrow
              have HF5 := hideIt hfr
              have HLs := hideIt hls
              have HMm := hideIt hm
              have HNn : Hid (gs.length ≤ 2400) := hideIt (by omega)
              have hwl : w.heap.size ≤ wr.heap.size := hfr.size
              have HCall : Hid (Calls Tryz.prog 10 #[.pointer (some ⟨P, 0, none⟩), .int .i64 (A + 1)] wr.drew fun e w' => ∃ x, e = .returned (.pointer x) ∧ PkTold f base wr.drew P S L a' x w' ∧ Fr [P] wr.drew w') := hideIt ((HIh.out (A + 1) HA1.out base wr.drew P S L a' (hpr.drewN 1) (HE.out.fr (hfr.trans (Fr.drewN [P] wr 1)) (by simp)) (by show base ≤ wr.heap.size; omega)).mono (fun e w' h => pk_of h))
              clear hgb hrow hparts hapart hnews hfr hls hpr hm
              go_upto_region 15 with fail
              clear c2
              refine wp_region_L (B := [13]) (S := fun _ => True) (T := fun Z => Z.cell? ⟨G, 4, none⟩ = some kv) (by kernel_rfl) ⟨trivial, HB5.out.c4⟩ (fun hHeld => ?_)
              refine wpAnyL_takeS (i := 0) (v := ?_) rfl (by kernel_rfl) (by kernel_rfl) (by kernel_rfl) (by kernel_rfl) (fun _ _ _ h => h) (Or.inl ⟨by rfl, ?_⟩) (by assumption) ?_
              rotate_left 1
              · intro wz sb
                go_simp
                all_goals with_reducible rfl
              simp only [Act.put, List.setIfInBounds_toArray, List.set_cons_zero, List.set_cons_succ, List.getElem_toArray, List.getElem_cons_zero]
              refine wpAnyL_takeS (i := 1) (v := ?_) rfl (by kernel_rfl) (by kernel_rfl) (by kernel_rfl) (by kernel_rfl) (fun _ _ _ h => h) (Or.inl ⟨by rfl, ?_⟩) (by assumption) ?_
              rotate_left 1
              · intro wz sb
                go_simp
                all_goals with_reducible rfl
              simp only [Act.put, List.setIfInBounds_toArray, List.set_cons_zero, List.set_cons_succ, List.getElem_toArray, List.getElem_cons_zero, List.getElem_cons_succ]
              refine wpAnyL_takeS (i := 2) (v := ?_) rfl (by kernel_rfl) (by kernel_rfl) (by kernel_rfl) (by kernel_rfl) (fun _ _ _ h => h) (Or.inl ⟨by rfl, ?_⟩) (by assumption) ?_
              rotate_left 1
              · intro wz sb
                go_simp
                all_goals with_reducible rfl
              simp only [Act.put, List.setIfInBounds_toArray, List.set_cons_zero, List.set_cons_succ, List.getElem_toArray, List.getElem_cons_zero, List.getElem_cons_succ]
              refine wpAnyL_takeS (i := 3) (v := ?_) rfl (by kernel_rfl) (by kernel_rfl) (by kernel_rfl) (by kernel_rfl) (fun _ _ _ h => h) (Or.inl ⟨by rfl, ?_⟩) (by assumption) ?_
              rotate_left 1
              · intro wz sb
                go_simp
                all_goals with_reducible rfl
              simp only [Act.put, List.setIfInBounds_toArray, List.set_cons_zero, List.set_cons_succ, List.getElem_toArray, List.getElem_cons_zero, List.getElem_cons_succ]
              refine wpAnyL_take [10, 13] (i := 4) (v := ?_) rfl (by kernel_rfl) (by kernel_rfl) (by kernel_rfl) (by kernel_rfl) (fun _ _ _ h => h) (Or.inl ⟨by rfl, ?_⟩) (by assumption) ?_
              rotate_left 1
              · intro wz sb
                have y4 := sb.2
                go_simp
                all_goals with_reducible rfl
              simp only [Act.put, List.setIfInBounds_toArray, List.set_cons_zero, List.set_cons_succ, List.getElem_toArray, List.getElem_cons_zero, List.getElem_cons_succ]
              refine wpAnyL_takeS (i := 5) (v := ?_) rfl (by kernel_rfl) (by kernel_rfl) (by kernel_rfl) (by kernel_rfl) (fun _ _ _ h => h) (Or.inl ⟨by rfl, ?_⟩) (by assumption) ?_
              rotate_left 1
              · intro wz sb
                go_simp
                all_goals with_reducible rfl
              simp only [Act.put, List.setIfInBounds_toArray, List.set_cons_zero, List.set_cons_succ, List.getElem_toArray, List.getElem_cons_zero, List.getElem_cons_succ]
              refine wpAnyL_takeS (i := 6) (v := ?_) rfl (by kernel_rfl) (by kernel_rfl) (by kernel_rfl) (by kernel_rfl) (fun _ _ _ h => h) (Or.inl ⟨by rfl, ?_⟩) (by assumption) ?_
              rotate_left 1
              · intro wz sb
                go_simp
                all_goals with_reducible rfl
              simp only [Act.put, List.setIfInBounds_toArray, List.set_cons_zero, List.set_cons_succ, List.getElem_toArray, List.getElem_cons_zero, List.getElem_cons_succ]
              refine wpAnyL_takeS (i := 7) (v := ?_) rfl (by kernel_rfl) (by kernel_rfl) (by kernel_rfl) (by kernel_rfl) (fun _ _ _ h => h) (Or.inl ⟨by rfl, ?_⟩) (by assumption) ?_
              rotate_left 1
              · intro wz sb
                go_simp
                all_goals with_reducible rfl
              simp only [Act.put, List.setIfInBounds_toArray, List.set_cons_zero, List.set_cons_succ, List.getElem_toArray, List.getElem_cons_zero, List.getElem_cons_succ]
              refine wpAnyL_ready (rs := [8]) (by kernel_rfl) (by simp) (AllReadyL.cons rfl (fun Q hQ => ?_) AllReadyL.nil)
              go_simp
              refine HCall.out.mono ?_
              rintro y w6 ⟨x, rfl, hk6, hf6⟩
              have HK6 := hideIt hk6
              have HB5d := hideIt (GB.blk HB5.out (w' := wr.drew) rfl)
              have HB6 := hideIt (HB5d.out.fr hf6 hGP)
              have HRow6 := hideIt (ownsRow_blk (w' := w6) HRow5.out (fun y hy => hf6.block y (World.ownsRow.lt HRow5.out y hy).2 (by have := (World.ownsRow.lt HRow5.out y hy).1; have := HPl.out; simp; omega)))
              have hs6 : wr.heap.size ≤ w6.heap.size := hf6.size
              have HF6 := hideIt hf6
              clear hk6 hf6
              refine hQ.out _ _ ⟨trivial, HB6.out.c4⟩ (fun _ => ?_)
              clear hQ Q
              have hT7 : (w6.alloc (.cells #[.pointer x] 23)).cell? ⟨G, 4, none⟩ = some kv := (World.cell?_alloc_lt _ _ _ HB6.out.lt).trans HB6.out.c4
              obtain ⟨g, cap, Y8, hrun, ho8, hg8, hgl8, hgo8, hf8⟩ := kid_append w6 (G + 1) kv gs.length us x HRow6.out (by have := HB6.out.lt; omega) (by have := HNn.out; omega)
              have hGr : G ∉ (Value.ownBlock kv).toList := fun e => by
                have e2 : Value.ownBlock kv = some G := by simpa using e
                have := (World.ownsRow.lt HRow6.out G e2).1
                omega
              have kb8 : Y8.heap[G]? = w6.heap[G]? := hf8.block G HB6.out.lt hGr
              have HB8 := hideIt (HB6.out.blk kb8)
              refine wpAnyL_ready (rs := [9]) (by kernel_rfl) (by simp) (AllReadyL.cons rfl (fun Q hQ => ?_) AllReadyL.nil)
              go_simp
              refine hQ.out _ _ ⟨trivial, hT7⟩ (fun _ => ?_)
              clear hQ Q
              refine wpAnyL_ready (rs := [10]) (by kernel_rfl) (by simp) (AllReadyL.cons rfl (fun Q hQ => ?_) AllReadyL.nil)
              refine step_append_run (by rfl) _ _ 74 rfl _ _ _ Y8 rfl rfl hrun ?_
              refine hQ.out _ _ ⟨trivial, HB8.out.c4⟩ (fun _ => ?_)
              clear hQ Q
              simp only [Act.put, List.setIfInBounds_toArray, List.set_cons_zero, List.set_cons_succ, List.getElem_toArray, List.getElem_cons_zero, List.getElem_cons_succ]
              refine wpAnyL_takeS (i := 11) (v := ?_) rfl (by kernel_rfl) (by kernel_rfl) (by kernel_rfl) (by kernel_rfl) (fun _ _ _ h => h) (Or.inl ⟨by rfl, ?_⟩) (by assumption) ?_
              rotate_left 1
              · intro wz sb
                go_simp
                all_goals with_reducible rfl
              simp only [Act.put, List.setIfInBounds_toArray, List.set_cons_zero, List.set_cons_succ, List.getElem_toArray, List.getElem_cons_zero, List.getElem_cons_succ]
              refine wpAnyL_takeS (i := 12) (v := ?_) rfl (by kernel_rfl) (by kernel_rfl) (by kernel_rfl) (by kernel_rfl) (fun _ _ _ h => h) (Or.inl ⟨by rfl, ?_⟩) (by assumption) ?_
              rotate_left 1
              · intro wz sb
                go_simp
                all_goals with_reducible rfl
              simp only [Act.put, List.setIfInBounds_toArray, List.set_cons_zero, List.set_cons_succ, List.getElem_toArray, List.getElem_cons_zero, List.getElem_cons_succ]
              have q4 := HB8.out.c4
              have z4 := HB8.out.fz 4
              have HO8 := hideIt ho8
              have HF8 := hideIt hf8
              clear hrun ho8 hf8 kb8
              refine wpAnyL_ready (rs := [13]) (by kernel_rfl) (by simp) (AllReadyL.last rfl (by kernel_rfl) (fun Q hQ => ?_) AllReadyL.nil)
              go_simp
              refine hQ.out _ _ trivial (fun _ => ?_)
              clear hQ Q
              refine wpAnyL_done (by kernel_rfl) ?_ _
              have HB9 := hideIt (HB8.out.set4 (.slice (some ⟨g, 0, none⟩) (gs.length + 1) cap))
              have hf9 : Fr [G] Y8 (Y8.setCell ⟨G, 4, none⟩ (.slice (some ⟨g, 0, none⟩) (gs.length + 1) cap)) := Fr.set _ _ _ (by simp)
              have HO9 := hideIt (ownsRow_blk HO8.out (w' := Y8.setCell ⟨G, 4, none⟩ (.slice (some ⟨g, 0, none⟩) (gs.length + 1) cap)) (fun y hy => by have hy' : some g = some y := hy; cases hy'; exact hf9.block g hgl8 (by simp; omega)))
              have hk9 : ∀ k, k < w6.heap.size → k ≠ G → Value.ownBlock kv ≠ some k → (Y8.setCell ⟨G, 4, none⟩ (.slice (some ⟨g, 0, none⟩) (gs.length + 1) cap)).heap[k]? = w6.heap[k]? := fun k h1 h2 h3 => (hf9.block k (Nat.lt_of_lt_of_le h1 HF8.out.size) (by simpa using h2)).trans (HF8.out.block k h1 (fun e => h3 (by simpa using e)))
              have HK9 := hideIt hk9
              have HS9 : Hid (w6.heap.size ≤ (Y8.setCell ⟨G, 4, none⟩ (.slice (some ⟨g, 0, none⟩) (gs.length + 1) cap)).heap.size) := hideIt (Nat.le_trans HF8.out.size hf9.size)
              have HPS : Hid (∀ fl' a', PrAt w6 P S L a' fl' → PrAt (Y8.setCell ⟨G, 4, none⟩ (.slice (some ⟨g, 0, none⟩) (gs.length + 1) cap)) P S L a' fl') := hideIt (fun fl' a' h => h.blk (hk9 P h.ltP (Ne.symm hGP) (fun e => by have := (World.ownsRow.lt HRow6.out P e).1; have := HPl.out; omega)) (hk9 S h.ltS (Ne.symm hGS) (fun e => by have := (World.ownsRow.lt HRow6.out S e).1; have := HSl.out; omega)) HS9.out)
              have HF9 : Hid (Fr [P] w6 w6 → Fr [P] w (Y8.setCell ⟨G, 4, none⟩ (.slice (some ⟨g, 0, none⟩) (gs.length + 1) cap))) := hideIt (fun _ => by
                have h1 : Fr [P] w w6 := (HF5.out.trans (Fr.drewN _ _ 1)).trans HF6.out
                have h2 : Fr (G :: (Value.ownBlock kv).toList) w6 (Y8.setCell ⟨G, 4, none⟩ (.slice (some ⟨g, 0, none⟩) (gs.length + 1) cap)) := (HF8.out.more (fun y hy => .inl (List.mem_cons_of_mem _ hy))).trans (hf9.more (by simp))
                refine h1.app2 h2 (fun y hy => ?_)
                rcases List.mem_cons.1 hy with e | e
                · exact .inr (by omega)
                · have e2 : Value.ownBlock kv = some y := by simpa using e
                  have := (World.ownsRow.lt HRow6.out y e2).1
                  exact .inr (by omega))
              clear hf9 hk9 q4 z4
              generalize Y8.setCell ⟨G, 4, none⟩ (.slice (some ⟨g, 0, none⟩) (gs.length + 1) cap) = Y9 at *
              have hgl9 : g < Y9.heap.size := by
                rcases HO9.out.2 with ⟨e, _⟩ | ⟨g', cap', cur, e, e1, e2, _⟩
                · cases e
                · cases e
                  exact (Array.getElem?_eq_some_iff.1 e2).1
              rcases HK6.out with ⟨r, a2, bs, k1, k2, k3, k4, k5, k6⟩ | ⟨k1, fl', a2, k2, k3⟩
              · -- a part more
                have hcs9 : ∀ b ∈ cs, G < b ∧ b < wr.heap.size := fun b hb => ⟨HM2.out.k.news b hb, (HM2.out.k.parts.all (fun v gg ds hp => hp.in_) b hb).2⟩
                have hbs9 : ∀ b ∈ bs, wr.heap.size ≤ b ∧ b < w6.heap.size := fun b hb => ⟨k6 b hb, (k5.in_ b hb).2⟩
                have hgw : wr.drew.heap.size = wr.heap.size := rfl
                have hP9 : Parts (DgAt f Y9 base) us gs cs := HM2.out.k.parts.mono (fun v gg ds has hp => hp.low (fun b hb => by
                  have hb2 := has b hb
                  have h1 := hcs9 b hb2
                  have h2 : w6.heap[b]? = wr.heap[b]? := HF6.out.block b h1.2 (by have := HPl.out; simp; omega)
                  exact (HK9.out b (by omega) (by omega) (fun e => HM2.out.k.apart b e hb2)).trans h2))
                have hG9 : DgAt f Y9 base (.pointer x) r.g bs := k5.low (fun b hb => HK9.out b (hbs9 b hb).2 (by have := (hbs9 b hb).1; have := HB5.out.lt; omega) (fun e => by have := (World.ownsRow.lt HRow5.out b e).2; have := (hbs9 b hb).1; omega))
                obtain ⟨ds, hd1, hd2⟩ := Parts.snoc' hP9 hG9 (fun b hb hb2 => by have := (hcs9 b hb).2; have := (hbs9 b hb2).1; omega)
                have HK10 : Hid (DlK f base w P G ⟨#[109, 105, 120]⟩ Y9 (gs ++ [r.g]) (us ++ [.pointer x]) ds (.slice (some ⟨g, 0, none⟩) (gs.length + 1) cap)) := hideIt ⟨HB9.out, by rw [List.length_append]; exact HO9.out, hd1, fun y hy hm => by
                    cases hy
                    rcases (hd2 g).1 hm with e | e
                    · rcases hgo8 with e2 | e2
                      · exact HM2.out.k.apart g e2 e
                      · have := (hcs9 g e).2; omega
                    · rcases hgo8 with e2 | e2
                      · have := (World.ownsRow.lt HRow5.out g e2).2; have := (hbs9 g e).1; omega
                      · have := (hbs9 g e).2; omega,
                  fun b hb => by
                    rcases (hd2 b).1 hb with e | e
                    · exact (hcs9 b e).1
                    · have := (hbs9 b e).1; have := HB5.out.lt; omega, HF9.out (Fr.refl _ _)⟩
                have HPr9 := hideIt (HPS.out _ _ k2)
                have HK1 := hideIt k1
                have HK3 := hideIt k3
                clear hP9 hG9 hd1 hd2 k1 k2 k3 k5 k6
                go_wp2_with fail
                refine (pis_any Y9 P S L a2 0 [41] HPr9.out).mono ?_
                rintro y w7 ⟨rfl, h7, hf7⟩
                have HK11 := hideIt (HK10.out.go hf7 HPl.out)
                clear hf7
                have hale2 := HPr9.out.le
                cases hq7 : isS L a2 0 [41] with
                | true =>
                  rw [isA_t hq7] at h7
                  have H7 := hideIt h7
                  have hz := drop_is hq7
                  have HZ := hideIt (loopF_close (m := m) (gs := gs) HK1.out (HK3.out.symm.trans hz))
                  have haL7 := (isS_0 hq7).1
                  clear h7 hz hq7
                  go_wp2
                  go_ret
                  refine .inl ⟨⟨.mix (gs ++ [r.g]), L.drop (a2 + 1) ++ [[]]⟩, _, a2 + 1, G :: g :: ds, ?_, rfl, H7.out, rfl, by omega, ?_, ?_, HK11.out.fr⟩
                  · rw [HGF.out, HLs.out, HZ.out]
                  · refine ⟨G, g, cap, _, ds, rfl, rfl, by have := HGw.out; omega, by omega, fun e => by have := HK11.out.news G e; omega, HK11.out.apart g rfl, HK11.out.gb.c0, by rw [List.length_append]; exact HK11.out.gb.c4, HK11.out.gb.fz 4, ?_, by rw [List.length_append]; simp; omega, HK11.out.parts⟩
                    have hr := HK11.out.row
                    rw [List.length_append] at hr ⊢
                    exact ownsRow_low' hr (by have := HGw.out; omega)
                  · intro b hb
                    have hG0 := HGw.out
                    rcases List.mem_cons.1 hb with e | hb
                    · omega
                    rcases List.mem_cons.1 hb with e | hb
                    · omega
                    · have := HK11.out.news b hb; omega
                | false =>
                  rw [isA_f hq7] at h7
                  have H7 := hideIt h7
                  have HN41 := hideIt (drop_isnt (by decide) hq7)
                  clear h7 hq7
                  go_wp2_with fail
                  refine (pis_any w7 P S L a2 0 [44] H7.out).mono ?_
                  rintro y w8 ⟨rfl, h8, hf8b⟩
                  have HK12 := hideIt (HK11.out.go hf8b HPl.out)
                  clear hf8b
                  cases hq8 : isS L a2 0 [44] with
                  | true =>
                    rw [isA_t hq8] at h8
                    have hz := drop_is hq8
                    have haL8 := (isS_0 hq8).1
                    have hlz : (L.drop a2 ++ [[]]).length = (L.drop (a2 + 1) ++ [[]]).length + 1 := by rw [hz]; rfl
                    have hmz := HMm.out
                    have hmz2 : (L.drop a2 ++ [[]]).length < (L.drop a' ++ [[]]).length := by
                      have := gF_takes f _ _ HK1.out
                      rw [← HK3.out] at this
                      exact this
                    obtain ⟨m', rfl⟩ : ∃ m', m = m' + 1 := ⟨m - 1, by omega⟩
                    have HI9 : Hid (DlI f base w P S G ⟨#[109, 105, 120]⟩ L (a + 1) w8 (gs ++ [r.g]) (us ++ [.pointer x]) ds (.slice (some ⟨g, 0, none⟩) (gs.length + 1) cap) (a2 + 1)) := hideIt ⟨HK12.out, h8, by rw [List.length_append]; simp; omega, by omega, m', by omega, by rw [HLs.out, loopF_more HK1.out (HK3.out.symm.trans hz)]⟩
                    clear h8 hz hq8 hlz hmz hmz2
                    go_wp2
                    go_roundg (L.length + 1 - (a2 + 1))
                    case measure => omega
                    case rel => exact .inl ⟨_, _, _, _, _, rfl, HI9.out⟩
                  | false =>
                    rw [isA_f hq8] at h8
                    have H8 := hideIt h8
                    have HNo : Hid (listF (gF f) (L.drop (a + 1) ++ [[]]) = none) := hideIt (by
                      rw [HLs.out]
                      refine loopF_else HK1.out (fun z e => HN41.out z (HK3.out.trans e)) (fun z e => drop_isnt (by decide) hq8 z (HK3.out.trans e)))
                    clear h8 hq8
                    go_wp2_with fail
                    refine (pfail_any w8 P S L a2 0 3 H8.out).mono ?_
                    rintro y w9 ⟨rfl, h9, hf9⟩
                    have HBd : Hid (DlB f w P S L (a + 1) w9) := hideIt ⟨HNo.out, ⟨3, a2, by decide, h9⟩, HK12.out.fr.trans hf9⟩
                    clear h9 hf9
                    go_wp2
                    go_roundg 0
                    case measure => omega
                    case rel => exact .inr HBd.out
              · have HNo : Hid (listF (gF f) (L.drop (a + 1) ++ [[]]) = none) := hideIt (by rw [HLs.out, loopF_none k1])
                have HPr9 := hideIt (HPS.out _ _ k3)
                have hf99 := HF9.out (Fr.refl _ _)
                have HF99 := hideIt hf99
                clear k1 k3 hf99
                go_wp2_with fail
                refine (pis_any Y9 P S L a2 fl' [41] HPr9.out).mono ?_
                rintro y w7 ⟨rfl, h7, hf7⟩
                rw [isA_f (isS_bad k2)] at h7
                rw [isS_bad k2]
                have H7 := hideIt h7
                have HF7 := hideIt (HF99.out.trans hf7)
                clear h7 hf7
                go_wp2_with fail
                refine (pis_any w7 P S L a2 fl' [44] H7.out).mono ?_
                rintro y w8 ⟨rfl, h8, hf8b⟩
                rw [isA_f (isS_bad k2)] at h8
                rw [isS_bad k2]
                have H8 := hideIt h8
                have HF8b := hideIt (HF7.out.trans hf8b)
                clear h8 hf8b
                go_wp2_with fail
                refine (pfail_any w8 P S L a2 fl' 3 H8.out).mono ?_
                rintro y w9 ⟨rfl, h9, hf9⟩
                rw [failS_no k2] at h9
                have HBd : Hid (DlB f w P S L (a + 1) w9) := hideIt ⟨HNo.out, ⟨fl', a2, k2, h9⟩, HF8b.out.trans hf9⟩
                clear h9 hf9
                go_wp2
                go_roundg 0
                case measure => omega
                case rel => exact .inr HBd.out
    · -- nmThen
      have hcell : wr.cell? ⟨w.heap.size, 4, none⟩ = some (.string ⟨#[116, 104, 101, 110]⟩) := by rw [cell_of_row _ _ _ _ _ _ hnb]; rfl
      have HIs := hideIt (pis_any wr P S L a 0 nmThen HM.out.pr)
      go_wp2_with fail
      refine HIs.out.mono ?_
      rintro y w2 ⟨rfl, h2, hf2⟩
      have hnb2 : w2.heap[w.heap.size]? = _ := (hf2.block w.heap.size hNB (by simp; omega)).trans hnb
      cases hq : isS L a 0 nmThen with
      | false =>
        rw [isA_f hq] at h2
        have HN : Hid (NmI w w.heap.size P S L a w2) := hideIt ⟨h2, hnb2, HM.out.fr.trans hf2⟩
        clear h2 hf2 hnb2
        go_wp2
        go_roundg 0
        case measure => omega
        case rel => exact ⟨HN.out, .inr (.inr (.inr (.inr (.inr (⟨rfl, rfl, hn0, hn1, hn2, hn3, hq⟩)))))⟩
      | true =>
        rw [isA_t hq] at h2
        have HD := hideIt (drop_is hq)
        have HP2 := hideIt h2
        have HF02 := hideIt (HM.out.fr.trans hf2)
        have HE2 := hideIt (HEr.out.fr hf2 (by simp))
        have hs2 := HF02.out.size
        have haL := (isS_0 hq).1
        clear h2 hf2 hnb2 hq
        have hal : Fr [] w2 (w2.alloc (.cells #[.string ⟨#[116, 104, 101, 110]⟩, .int .i64 0, .int .i64 0, .int .i64 0, .slice none 0 0, .int .i64 0, .int .i64 0] 76)) := Fr.alloc _ _ _
        have HB3 := hideIt (GB.new w2 ⟨#[116, 104, 101, 110]⟩)
        have HP3 := hideIt (HP2.out.fr hal (by simp) (by simp))
        have HE3 := hideIt (HE2.out.fr hal (by simp))
        have HF3 := hideIt (HF02.out.trans (hal.more (by simp)))
        have hGP : w2.heap.size ≠ P := by have := HP2.out.ltP; omega
        have hGS : w2.heap.size ≠ S := by have := HP2.out.ltS; omega
        have hs3 : w2.heap.size < (w2.alloc (.cells #[.string ⟨#[116, 104, 101, 110]⟩, .int .i64 0, .int .i64 0, .int .i64 0, .slice none 0 0, .int .i64 0, .int .i64 0] 76)).heap.size := by simp
        clear hal
        have HPl : Hid (P < w2.heap.size) := hideIt HP2.out.ltP
        have HSl : Hid (S < w2.heap.size) := hideIt HP2.out.ltS
        have HGw : Hid (w.heap.size ≤ w2.heap.size) := hideIt hs2
        go_wp2_with fail
        generalize w2.alloc (.cells #[.string ⟨#[116, 104, 101, 110]⟩, .int .i64 0, .int .i64 0, .int .i64 0, .slice none 0 0, .int .i64 0, .int .i64 0] 76) = W3 at *
        generalize w2.heap.size = G at *
        have HGF : Hid (gF (f + 1) (L.drop a ++ [[]]) = match listF (gF f) (L.drop (a + 1) ++ [[]]) with | none => none | some r => some ⟨.thn r.l, r.s⟩) := hideIt (by rw [HD.out, gF_then])
        refine (pis_any W3 P S L (a + 1) 0 [40] HP3.out).mono ?_
        rintro y w4 ⟨rfl, h4, hf4⟩
        have HB4 := hideIt (HB3.out.fr hf4 hGP)
        have HF4 := hideIt (HF3.out.trans hf4)
        clear hf4
        cases hq2 : isS L (a + 1) 0 [40] with
        | false =>
          rw [isA_f hq2] at h4
          have H4 := hideIt h4
          have HLs : Hid (listF (gF f) (L.drop (a + 1) ++ [[]]) = none) := hideIt (by rw [listF_loop (gF_takes f), exp_no (by decide) hq2])
          clear h4 hq2
          go_wp2_with fail
          refine (pfail_any w4 P S L (a + 1) 0 3 H4.out).mono ?_
          rintro y w5 ⟨rfl, h5, hf5⟩
          have HI5 : Hid (DlB f w P S L (a + 1) w5) := hideIt ⟨HLs.out, ⟨3, a + 1, by decide, h5⟩, HF4.out.trans hf5⟩
          clear h5 hf5
          go_wp2
          go_loopg [] 0 (fun k wx => DlB f w P S L (a + 1) wx)
          case atStart => exact HI5.out
          case round =>
            obtain ⟨hl, ⟨fl', a', h1, h2⟩, h3⟩ := hrel
            have c2 := h2.c2
            have hb : (fl' == 0) = false := by simp [h1]
            have H2 := hideIt h2
            have H3 := hideIt h3
            clear h2 h3
            go_wp2
            go_ret
            exact .inr ⟨by rw [HGF.out, hl], _, fl', a', rfl, h1, H2.out, H3.out⟩
        | true =>
          rw [isA_t hq2] at h4
          have haL1 := (isS_0 hq2).1
          have HI4 : Hid (DlI f base w P S G ⟨#[116, 104, 101, 110]⟩ L (a + 1) w4 [] [] [] (.slice none 0 0) (a + 2)) := hideIt ⟨⟨HB4.out, World.ownsRow_nil _ _ _ _, .nil, (fun x e => by cases e), (by simp), HF4.out⟩, h4, by simp, by omega, (L.drop (a + 2) ++ [[]]).length, by omega, by rw [listF_loop (gF_takes f), exp_yes hq2]⟩
          clear h4 hq2
          go_wp2
          go_loopg [] (L.length + 1 - (a + 2)) (fun k wx => (∃ gs us cs kv a', k = L.length + 1 - a' ∧ DlI f base w P S G ⟨#[116, 104, 101, 110]⟩ L (a + 1) wx gs us cs kv a') ∨ DlB f w P S L (a + 1) wx)
          case atStart => exact .inl ⟨_, _, _, _, _, rfl, HI4.out⟩
          case round =>
            clear HI4
            rcases hrel with ⟨gs, us, cs, kv, a', hk, hI⟩ | ⟨hl, ⟨fl', a', h1, h2⟩, h3⟩
            rotate_left 1
            · have c2 := h2.c2
              have hb : (fl' == 0) = false := by simp [h1]
              have H2 := hideIt h2
              have H3 := hideIt h3
              clear h2 h3
              go_wp2
              go_ret
              exact .inr ⟨by rw [HGF.out, hl], _, fl', a', rfl, h1, H2.out, H3.out⟩
            · have HM2 := hideIt hI
              obtain ⟨⟨hgb, hrow, hparts, hapart, hnews, hfr⟩, hpr, hfew, hlo, m, hm, hls⟩ := hI
              have c2 := hpr.c2
              have hale := hpr.le
              have HB5 := hideIt hgb
              have HRow5 := hideIt hrow
              have HF5 := hideIt hfr
              have HLs := hideIt hls
              have HMm := hideIt hm
              have HNn : Hid (gs.length ≤ 2400) := hideIt (by omega)
              have hwl : w.heap.size ≤ wr.heap.size := hfr.size
              have HCall : Hid (Calls Tryz.prog 10 #[.pointer (some ⟨P, 0, none⟩), .int .i64 (A + 1)] wr.drew fun e w' => ∃ x, e = .returned (.pointer x) ∧ PkTold f base wr.drew P S L a' x w' ∧ Fr [P] wr.drew w') := hideIt ((HIh.out (A + 1) HA1.out base wr.drew P S L a' (hpr.drewN 1) (HE.out.fr (hfr.trans (Fr.drewN [P] wr 1)) (by simp)) (by show base ≤ wr.heap.size; omega)).mono (fun e w' h => pk_of h))
              clear hgb hrow hparts hapart hnews hfr hls hpr hm
              go_upto_region 15 with fail
              clear c2
              refine wp_region_L (B := [13]) (S := fun _ => True) (T := fun Z => Z.cell? ⟨G, 4, none⟩ = some kv) (by kernel_rfl) ⟨trivial, HB5.out.c4⟩ (fun hHeld => ?_)
              refine wpAnyL_takeS (i := 0) (v := ?_) rfl (by kernel_rfl) (by kernel_rfl) (by kernel_rfl) (by kernel_rfl) (fun _ _ _ h => h) (Or.inl ⟨by rfl, ?_⟩) (by assumption) ?_
              rotate_left 1
              · intro wz sb
                go_simp
                all_goals with_reducible rfl
              simp only [Act.put, List.setIfInBounds_toArray, List.set_cons_zero, List.set_cons_succ, List.getElem_toArray, List.getElem_cons_zero]
              refine wpAnyL_takeS (i := 1) (v := ?_) rfl (by kernel_rfl) (by kernel_rfl) (by kernel_rfl) (by kernel_rfl) (fun _ _ _ h => h) (Or.inl ⟨by rfl, ?_⟩) (by assumption) ?_
              rotate_left 1
              · intro wz sb
                go_simp
                all_goals with_reducible rfl
              simp only [Act.put, List.setIfInBounds_toArray, List.set_cons_zero, List.set_cons_succ, List.getElem_toArray, List.getElem_cons_zero, List.getElem_cons_succ]
              refine wpAnyL_takeS (i := 2) (v := ?_) rfl (by kernel_rfl) (by kernel_rfl) (by kernel_rfl) (by kernel_rfl) (fun _ _ _ h => h) (Or.inl ⟨by rfl, ?_⟩) (by assumption) ?_
              rotate_left 1
              · intro wz sb
                go_simp
                all_goals with_reducible rfl
              simp only [Act.put, List.setIfInBounds_toArray, List.set_cons_zero, List.set_cons_succ, List.getElem_toArray, List.getElem_cons_zero, List.getElem_cons_succ]
              refine wpAnyL_takeS (i := 3) (v := ?_) rfl (by kernel_rfl) (by kernel_rfl) (by kernel_rfl) (by kernel_rfl) (fun _ _ _ h => h) (Or.inl ⟨by rfl, ?_⟩) (by assumption) ?_
              rotate_left 1
              · intro wz sb
                go_simp
                all_goals with_reducible rfl
              simp only [Act.put, List.setIfInBounds_toArray, List.set_cons_zero, List.set_cons_succ, List.getElem_toArray, List.getElem_cons_zero, List.getElem_cons_succ]
              refine wpAnyL_take [10, 13] (i := 4) (v := ?_) rfl (by kernel_rfl) (by kernel_rfl) (by kernel_rfl) (by kernel_rfl) (fun _ _ _ h => h) (Or.inl ⟨by rfl, ?_⟩) (by assumption) ?_
              rotate_left 1
              · intro wz sb
                have y4 := sb.2
                go_simp
                all_goals with_reducible rfl
              simp only [Act.put, List.setIfInBounds_toArray, List.set_cons_zero, List.set_cons_succ, List.getElem_toArray, List.getElem_cons_zero, List.getElem_cons_succ]
              refine wpAnyL_takeS (i := 5) (v := ?_) rfl (by kernel_rfl) (by kernel_rfl) (by kernel_rfl) (by kernel_rfl) (fun _ _ _ h => h) (Or.inl ⟨by rfl, ?_⟩) (by assumption) ?_
              rotate_left 1
              · intro wz sb
                go_simp
                all_goals with_reducible rfl
              simp only [Act.put, List.setIfInBounds_toArray, List.set_cons_zero, List.set_cons_succ, List.getElem_toArray, List.getElem_cons_zero, List.getElem_cons_succ]
              refine wpAnyL_takeS (i := 6) (v := ?_) rfl (by kernel_rfl) (by kernel_rfl) (by kernel_rfl) (by kernel_rfl) (fun _ _ _ h => h) (Or.inl ⟨by rfl, ?_⟩) (by assumption) ?_
              rotate_left 1
              · intro wz sb
                go_simp
                all_goals with_reducible rfl
              simp only [Act.put, List.setIfInBounds_toArray, List.set_cons_zero, List.set_cons_succ, List.getElem_toArray, List.getElem_cons_zero, List.getElem_cons_succ]
              refine wpAnyL_takeS (i := 7) (v := ?_) rfl (by kernel_rfl) (by kernel_rfl) (by kernel_rfl) (by kernel_rfl) (fun _ _ _ h => h) (Or.inl ⟨by rfl, ?_⟩) (by assumption) ?_
              rotate_left 1
              · intro wz sb
                go_simp
                all_goals with_reducible rfl
              simp only [Act.put, List.setIfInBounds_toArray, List.set_cons_zero, List.set_cons_succ, List.getElem_toArray, List.getElem_cons_zero, List.getElem_cons_succ]
              refine wpAnyL_ready (rs := [8]) (by kernel_rfl) (by simp) (AllReadyL.cons rfl (fun Q hQ => ?_) AllReadyL.nil)
              go_simp
              refine HCall.out.mono ?_
              rintro y w6 ⟨x, rfl, hk6, hf6⟩
              have HK6 := hideIt hk6
              have HB5d := hideIt (GB.blk HB5.out (w' := wr.drew) rfl)
              have HB6 := hideIt (HB5d.out.fr hf6 hGP)
              have HRow6 := hideIt (ownsRow_blk (w' := w6) HRow5.out (fun y hy => hf6.block y (World.ownsRow.lt HRow5.out y hy).2 (by have := (World.ownsRow.lt HRow5.out y hy).1; have := HPl.out; simp; omega)))
              have hs6 : wr.heap.size ≤ w6.heap.size := hf6.size
              have HF6 := hideIt hf6
              clear hk6 hf6
              refine hQ.out _ _ ⟨trivial, HB6.out.c4⟩ (fun _ => ?_)
              clear hQ Q
              have hT7 : (w6.alloc (.cells #[.pointer x] 23)).cell? ⟨G, 4, none⟩ = some kv := (World.cell?_alloc_lt _ _ _ HB6.out.lt).trans HB6.out.c4
              obtain ⟨g, cap, Y8, hrun, ho8, hg8, hgl8, hgo8, hf8⟩ := kid_append w6 (G + 1) kv gs.length us x HRow6.out (by have := HB6.out.lt; omega) (by have := HNn.out; omega)
              have hGr : G ∉ (Value.ownBlock kv).toList := fun e => by
                have e2 : Value.ownBlock kv = some G := by simpa using e
                have := (World.ownsRow.lt HRow6.out G e2).1
                omega
              have kb8 : Y8.heap[G]? = w6.heap[G]? := hf8.block G HB6.out.lt hGr
              have HB8 := hideIt (HB6.out.blk kb8)
              refine wpAnyL_ready (rs := [9]) (by kernel_rfl) (by simp) (AllReadyL.cons rfl (fun Q hQ => ?_) AllReadyL.nil)
              go_simp
              refine hQ.out _ _ ⟨trivial, hT7⟩ (fun _ => ?_)
              clear hQ Q
              refine wpAnyL_ready (rs := [10]) (by kernel_rfl) (by simp) (AllReadyL.cons rfl (fun Q hQ => ?_) AllReadyL.nil)
              refine step_append_run (by rfl) _ _ 74 rfl _ _ _ Y8 rfl rfl hrun ?_
              refine hQ.out _ _ ⟨trivial, HB8.out.c4⟩ (fun _ => ?_)
              clear hQ Q
              simp only [Act.put, List.setIfInBounds_toArray, List.set_cons_zero, List.set_cons_succ, List.getElem_toArray, List.getElem_cons_zero, List.getElem_cons_succ]
              refine wpAnyL_takeS (i := 11) (v := ?_) rfl (by kernel_rfl) (by kernel_rfl) (by kernel_rfl) (by kernel_rfl) (fun _ _ _ h => h) (Or.inl ⟨by rfl, ?_⟩) (by assumption) ?_
              rotate_left 1
              · intro wz sb
                go_simp
                all_goals with_reducible rfl
              simp only [Act.put, List.setIfInBounds_toArray, List.set_cons_zero, List.set_cons_succ, List.getElem_toArray, List.getElem_cons_zero, List.getElem_cons_succ]
              refine wpAnyL_takeS (i := 12) (v := ?_) rfl (by kernel_rfl) (by kernel_rfl) (by kernel_rfl) (by kernel_rfl) (fun _ _ _ h => h) (Or.inl ⟨by rfl, ?_⟩) (by assumption) ?_
              rotate_left 1
              · intro wz sb
                go_simp
                all_goals with_reducible rfl
              simp only [Act.put, List.setIfInBounds_toArray, List.set_cons_zero, List.set_cons_succ, List.getElem_toArray, List.getElem_cons_zero, List.getElem_cons_succ]
              have q4 := HB8.out.c4
              have z4 := HB8.out.fz 4
              have HO8 := hideIt ho8
              have HF8 := hideIt hf8
              clear hrun ho8 hf8 kb8
              refine wpAnyL_ready (rs := [13]) (by kernel_rfl) (by simp) (AllReadyL.last rfl (by kernel_rfl) (fun Q hQ => ?_) AllReadyL.nil)
              go_simp
              refine hQ.out _ _ trivial (fun _ => ?_)
              clear hQ Q
              refine wpAnyL_done (by kernel_rfl) ?_ _
              have HB9 := hideIt (HB8.out.set4 (.slice (some ⟨g, 0, none⟩) (gs.length + 1) cap))
              have hf9 : Fr [G] Y8 (Y8.setCell ⟨G, 4, none⟩ (.slice (some ⟨g, 0, none⟩) (gs.length + 1) cap)) := Fr.set _ _ _ (by simp)
              have HO9 := hideIt (ownsRow_blk HO8.out (w' := Y8.setCell ⟨G, 4, none⟩ (.slice (some ⟨g, 0, none⟩) (gs.length + 1) cap)) (fun y hy => by have hy' : some g = some y := hy; cases hy'; exact hf9.block g hgl8 (by simp; omega)))
              have hk9 : ∀ k, k < w6.heap.size → k ≠ G → Value.ownBlock kv ≠ some k → (Y8.setCell ⟨G, 4, none⟩ (.slice (some ⟨g, 0, none⟩) (gs.length + 1) cap)).heap[k]? = w6.heap[k]? := fun k h1 h2 h3 => (hf9.block k (Nat.lt_of_lt_of_le h1 HF8.out.size) (by simpa using h2)).trans (HF8.out.block k h1 (fun e => h3 (by simpa using e)))
              have HK9 := hideIt hk9
              have HS9 : Hid (w6.heap.size ≤ (Y8.setCell ⟨G, 4, none⟩ (.slice (some ⟨g, 0, none⟩) (gs.length + 1) cap)).heap.size) := hideIt (Nat.le_trans HF8.out.size hf9.size)
              have HPS : Hid (∀ fl' a', PrAt w6 P S L a' fl' → PrAt (Y8.setCell ⟨G, 4, none⟩ (.slice (some ⟨g, 0, none⟩) (gs.length + 1) cap)) P S L a' fl') := hideIt (fun fl' a' h => h.blk (hk9 P h.ltP (Ne.symm hGP) (fun e => by have := (World.ownsRow.lt HRow6.out P e).1; have := HPl.out; omega)) (hk9 S h.ltS (Ne.symm hGS) (fun e => by have := (World.ownsRow.lt HRow6.out S e).1; have := HSl.out; omega)) HS9.out)
              have HF9 : Hid (Fr [P] w6 w6 → Fr [P] w (Y8.setCell ⟨G, 4, none⟩ (.slice (some ⟨g, 0, none⟩) (gs.length + 1) cap))) := hideIt (fun _ => by
                have h1 : Fr [P] w w6 := (HF5.out.trans (Fr.drewN _ _ 1)).trans HF6.out
                have h2 : Fr (G :: (Value.ownBlock kv).toList) w6 (Y8.setCell ⟨G, 4, none⟩ (.slice (some ⟨g, 0, none⟩) (gs.length + 1) cap)) := (HF8.out.more (fun y hy => .inl (List.mem_cons_of_mem _ hy))).trans (hf9.more (by simp))
                refine h1.app2 h2 (fun y hy => ?_)
                rcases List.mem_cons.1 hy with e | e
                · exact .inr (by omega)
                · have e2 : Value.ownBlock kv = some y := by simpa using e
                  have := (World.ownsRow.lt HRow6.out y e2).1
                  exact .inr (by omega))
              clear hf9 hk9 q4 z4
              generalize Y8.setCell ⟨G, 4, none⟩ (.slice (some ⟨g, 0, none⟩) (gs.length + 1) cap) = Y9 at *
              have hgl9 : g < Y9.heap.size := by
                rcases HO9.out.2 with ⟨e, _⟩ | ⟨g', cap', cur, e, e1, e2, _⟩
                · cases e
                · cases e
                  exact (Array.getElem?_eq_some_iff.1 e2).1
              rcases HK6.out with ⟨r, a2, bs, k1, k2, k3, k4, k5, k6⟩ | ⟨k1, fl', a2, k2, k3⟩
              · -- a part more
                have hcs9 : ∀ b ∈ cs, G < b ∧ b < wr.heap.size := fun b hb => ⟨HM2.out.k.news b hb, (HM2.out.k.parts.all (fun v gg ds hp => hp.in_) b hb).2⟩
                have hbs9 : ∀ b ∈ bs, wr.heap.size ≤ b ∧ b < w6.heap.size := fun b hb => ⟨k6 b hb, (k5.in_ b hb).2⟩
                have hgw : wr.drew.heap.size = wr.heap.size := rfl
                have hP9 : Parts (DgAt f Y9 base) us gs cs := HM2.out.k.parts.mono (fun v gg ds has hp => hp.low (fun b hb => by
                  have hb2 := has b hb
                  have h1 := hcs9 b hb2
                  have h2 : w6.heap[b]? = wr.heap[b]? := HF6.out.block b h1.2 (by have := HPl.out; simp; omega)
                  exact (HK9.out b (by omega) (by omega) (fun e => HM2.out.k.apart b e hb2)).trans h2))
                have hG9 : DgAt f Y9 base (.pointer x) r.g bs := k5.low (fun b hb => HK9.out b (hbs9 b hb).2 (by have := (hbs9 b hb).1; have := HB5.out.lt; omega) (fun e => by have := (World.ownsRow.lt HRow5.out b e).2; have := (hbs9 b hb).1; omega))
                obtain ⟨ds, hd1, hd2⟩ := Parts.snoc' hP9 hG9 (fun b hb hb2 => by have := (hcs9 b hb).2; have := (hbs9 b hb2).1; omega)
                have HK10 : Hid (DlK f base w P G ⟨#[116, 104, 101, 110]⟩ Y9 (gs ++ [r.g]) (us ++ [.pointer x]) ds (.slice (some ⟨g, 0, none⟩) (gs.length + 1) cap)) := hideIt ⟨HB9.out, by rw [List.length_append]; exact HO9.out, hd1, fun y hy hm => by
                    cases hy
                    rcases (hd2 g).1 hm with e | e
                    · rcases hgo8 with e2 | e2
                      · exact HM2.out.k.apart g e2 e
                      · have := (hcs9 g e).2; omega
                    · rcases hgo8 with e2 | e2
                      · have := (World.ownsRow.lt HRow5.out g e2).2; have := (hbs9 g e).1; omega
                      · have := (hbs9 g e).2; omega,
                  fun b hb => by
                    rcases (hd2 b).1 hb with e | e
                    · exact (hcs9 b e).1
                    · have := (hbs9 b e).1; have := HB5.out.lt; omega, HF9.out (Fr.refl _ _)⟩
                have HPr9 := hideIt (HPS.out _ _ k2)
                have HK1 := hideIt k1
                have HK3 := hideIt k3
                clear hP9 hG9 hd1 hd2 k1 k2 k3 k5 k6
                go_wp2_with fail
                refine (pis_any Y9 P S L a2 0 [41] HPr9.out).mono ?_
                rintro y w7 ⟨rfl, h7, hf7⟩
                have HK11 := hideIt (HK10.out.go hf7 HPl.out)
                clear hf7
                have hale2 := HPr9.out.le
                cases hq7 : isS L a2 0 [41] with
                | true =>
                  rw [isA_t hq7] at h7
                  have H7 := hideIt h7
                  have hz := drop_is hq7
                  have HZ := hideIt (loopF_close (m := m) (gs := gs) HK1.out (HK3.out.symm.trans hz))
                  have haL7 := (isS_0 hq7).1
                  clear h7 hz hq7
                  go_wp2
                  go_ret
                  refine .inl ⟨⟨.thn (gs ++ [r.g]), L.drop (a2 + 1) ++ [[]]⟩, _, a2 + 1, G :: g :: ds, ?_, rfl, H7.out, rfl, by omega, ?_, ?_, HK11.out.fr⟩
                  · rw [HGF.out, HLs.out, HZ.out]
                  · refine ⟨G, g, cap, _, ds, rfl, rfl, by have := HGw.out; omega, by omega, fun e => by have := HK11.out.news G e; omega, HK11.out.apart g rfl, HK11.out.gb.c0, by rw [List.length_append]; exact HK11.out.gb.c4, HK11.out.gb.fz 4, ?_, by rw [List.length_append]; simp; omega, HK11.out.parts⟩
                    have hr := HK11.out.row
                    rw [List.length_append] at hr ⊢
                    exact ownsRow_low' hr (by have := HGw.out; omega)
                  · intro b hb
                    have hG0 := HGw.out
                    rcases List.mem_cons.1 hb with e | hb
                    · omega
                    rcases List.mem_cons.1 hb with e | hb
                    · omega
                    · have := HK11.out.news b hb; omega
                | false =>
                  rw [isA_f hq7] at h7
                  have H7 := hideIt h7
                  have HN41 := hideIt (drop_isnt (by decide) hq7)
                  clear h7 hq7
                  go_wp2_with fail
                  refine (pis_any w7 P S L a2 0 [44] H7.out).mono ?_
                  rintro y w8 ⟨rfl, h8, hf8b⟩
                  have HK12 := hideIt (HK11.out.go hf8b HPl.out)
                  clear hf8b
                  cases hq8 : isS L a2 0 [44] with
                  | true =>
                    rw [isA_t hq8] at h8
                    have hz := drop_is hq8
                    have haL8 := (isS_0 hq8).1
                    have hlz : (L.drop a2 ++ [[]]).length = (L.drop (a2 + 1) ++ [[]]).length + 1 := by rw [hz]; rfl
                    have hmz := HMm.out
                    have hmz2 : (L.drop a2 ++ [[]]).length < (L.drop a' ++ [[]]).length := by
                      have := gF_takes f _ _ HK1.out
                      rw [← HK3.out] at this
                      exact this
                    obtain ⟨m', rfl⟩ : ∃ m', m = m' + 1 := ⟨m - 1, by omega⟩
                    have HI9 : Hid (DlI f base w P S G ⟨#[116, 104, 101, 110]⟩ L (a + 1) w8 (gs ++ [r.g]) (us ++ [.pointer x]) ds (.slice (some ⟨g, 0, none⟩) (gs.length + 1) cap) (a2 + 1)) := hideIt ⟨HK12.out, h8, by rw [List.length_append]; simp; omega, by omega, m', by omega, by rw [HLs.out, loopF_more HK1.out (HK3.out.symm.trans hz)]⟩
                    clear h8 hz hq8 hlz hmz hmz2
                    go_wp2
                    go_roundg (L.length + 1 - (a2 + 1))
                    case measure => omega
                    case rel => exact .inl ⟨_, _, _, _, _, rfl, HI9.out⟩
                  | false =>
                    rw [isA_f hq8] at h8
                    have H8 := hideIt h8
                    have HNo : Hid (listF (gF f) (L.drop (a + 1) ++ [[]]) = none) := hideIt (by
                      rw [HLs.out]
                      refine loopF_else HK1.out (fun z e => HN41.out z (HK3.out.trans e)) (fun z e => drop_isnt (by decide) hq8 z (HK3.out.trans e)))
                    clear h8 hq8
                    go_wp2_with fail
                    refine (pfail_any w8 P S L a2 0 3 H8.out).mono ?_
                    rintro y w9 ⟨rfl, h9, hf9⟩
                    have HBd : Hid (DlB f w P S L (a + 1) w9) := hideIt ⟨HNo.out, ⟨3, a2, by decide, h9⟩, HK12.out.fr.trans hf9⟩
                    clear h9 hf9
                    go_wp2
                    go_roundg 0
                    case measure => omega
                    case rel => exact .inr HBd.out
              · have HNo : Hid (listF (gF f) (L.drop (a + 1) ++ [[]]) = none) := hideIt (by rw [HLs.out, loopF_none k1])
                have HPr9 := hideIt (HPS.out _ _ k3)
                have hf99 := HF9.out (Fr.refl _ _)
                have HF99 := hideIt hf99
                clear k1 k3 hf99
                go_wp2_with fail
                refine (pis_any Y9 P S L a2 fl' [41] HPr9.out).mono ?_
                rintro y w7 ⟨rfl, h7, hf7⟩
                rw [isA_f (isS_bad k2)] at h7
                rw [isS_bad k2]
                have H7 := hideIt h7
                have HF7 := hideIt (HF99.out.trans hf7)
                clear h7 hf7
                go_wp2_with fail
                refine (pis_any w7 P S L a2 fl' [44] H7.out).mono ?_
                rintro y w8 ⟨rfl, h8, hf8b⟩
                rw [isA_f (isS_bad k2)] at h8
                rw [isS_bad k2]
                have H8 := hideIt h8
                have HF8b := hideIt (HF7.out.trans hf8b)
                clear h8 hf8b
                go_wp2_with fail
                refine (pfail_any w8 P S L a2 fl' 3 H8.out).mono ?_
                rintro y w9 ⟨rfl, h9, hf9⟩
                rw [failS_no k2] at h9
                have HBd : Hid (DlB f w P S L (a + 1) w9) := hideIt ⟨HNo.out, ⟨fl', a2, k2, h9⟩, HF8b.out.trans hf9⟩
                clear h9 hf9
                go_wp2
                go_roundg 0
                case measure => omega
                case rel => exact .inr HBd.out
    · have HR := hideIt (gF_no (f := f) hn0 hn1 hn2 hn3 hn4)
      go_wp2_with fail
      refine (pfail_any wr P S L a 0 3 HM.out.pr).mono ?_
      rintro y w2 ⟨rfl, h2, hf2⟩
      have H2 := hideIt h2
      have HF2 := hideIt (HM.out.fr.trans hf2)
      clear h2 hf2
      go_wp2
      go_ret
      exact .inr ⟨HR.out, none, 3, a, rfl, by decide, H2.out, HF2.out⟩
end Go.Proofs.YthblokfiojccmaaGreatDoor.Gn
