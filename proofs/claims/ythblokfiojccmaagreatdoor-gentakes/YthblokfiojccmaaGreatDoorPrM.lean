/-
  The document's reader of signs in memory, and its small steps.
-/
import Derived.Test.YthblokfiojccmaaGreatDoorDgT
import Derived.Test.YthblokfiojccmaaGreatDoorRdB
namespace Go.Proofs.YthblokfiojccmaaGreatDoor.Gn
open Go.RowKit

/-- The parser in block P over signs in block S: a of them are passed, fl is what is wrong. -/
structure PrAt (w : World) (P S : Nat) (L : List Bt) (a : Nat) (fl : Int) : Prop where
  sl : ∃ ad cap, w.cell? ⟨P, 0, none⟩ = some (.slice ad (L.length - a) cap) ∧ L.length - a ≤ cap ∧ (a < L.length → ad = some ⟨S, a * 2, none⟩)
  f0 : w.frozen? ⟨P, 0, none⟩ = false
  c1 : ∃ x, w.cell? ⟨P, 1, none⟩ = some (.int .i64 x)
  c2 : w.cell? ⟨P, 2, none⟩ = some (.int .i64 fl)
  c3 : ∃ x, w.cell? ⟨P, 3, none⟩ = some (.int .i64 x)
  f2 : w.frozen? ⟨P, 2, none⟩ = false
  f3 : w.frozen? ⟨P, 3, none⟩ = false
  row : ∀ i, (h : i < L.length) → w.cell? ⟨S, i * 2, none⟩ = some (.string (ba L[i])) ∧ ∃ x, w.cell? ⟨S, i * 2 + 1, none⟩ = some (.int .i64 x)
  le : a ≤ L.length
  few : L.length ≤ 2001
  ne : S ≠ P
  ltS : S < w.heap.size
theorem PrAt.ltP {w : World} {P S : Nat} {L : List Bt} {a : Nat} {fl : Int} (h : PrAt w P S L a fl) : P < w.heap.size := World.block_lt_of_cell? w _ h.c2
theorem PrAt.blk {w w' : World} {P S : Nat} {L : List Bt} {a : Nat} {fl : Int} (h : PrAt w P S L a fl) (hP : w'.heap[P]? = w.heap[P]?) (hS : w'.heap[S]? = w.heap[S]?) (hs : w.heap.size ≤ w'.heap.size) : PrAt w' P S L a fl := by
  obtain ⟨⟨ad, cap, s1, s2, s3⟩, f0, ⟨x1, c1⟩, c2, ⟨x3, c3⟩, f2, f3, row, le, few, ne, ltS⟩ := h
  exact ⟨⟨ad, cap, (World.cell?_of_block (a := ⟨P, 0, none⟩) hP).trans s1, s2, s3⟩, (World.frozen?_of_block (a := ⟨P, 0, none⟩) hP).trans f0, ⟨x1, (World.cell?_of_block (a := ⟨P, 1, none⟩) hP).trans c1⟩, (World.cell?_of_block (a := ⟨P, 2, none⟩) hP).trans c2, ⟨x3, (World.cell?_of_block (a := ⟨P, 3, none⟩) hP).trans c3⟩, (World.frozen?_of_block (a := ⟨P, 2, none⟩) hP).trans f2, (World.frozen?_of_block (a := ⟨P, 3, none⟩) hP).trans f3,
    fun i hi => ⟨(World.cell?_of_block (a := ⟨S, i * 2, none⟩) hS).trans (row i hi).1, by obtain ⟨x, hx⟩ := (row i hi).2; exact ⟨x, (World.cell?_of_block (a := ⟨S, i * 2 + 1, none⟩) hS).trans hx⟩⟩, le, few, ne, by omega⟩
theorem PrAt.fr {w w' : World} {P S : Nat} {L : List Bt} {a : Nat} {fl : Int} {X : List Nat} (h : PrAt w P S L a fl) (hg : Fr X w w') (hP : P ∉ X) (hS : S ∉ X) : PrAt w' P S L a fl :=
  h.blk (hg.block P h.ltP hP) (hg.block S h.ltS hS) hg.size
theorem PrAt.drewN {w : World} {P S : Nat} {L : List Bt} {a : Nat} {fl : Int} (h : PrAt w P S L a fl) (k : Nat) : PrAt (w.drewN k) P S L a fl := h.blk rfl rfl (Nat.le_refl _)
theorem PrAt.neS {w : World} {P S : Nat} {L : List Bt} {a : Nat} {fl : Int} (h : PrAt w P S L a fl) (x y : Nat) : (⟨P, x, none⟩ : Addr) ≠ ⟨S, y, none⟩ := fun e => h.ne (by injection e with e; exact e.symm)

/-- What a sign's slice is behind the first one. -/
theorem PrAt.setL {w : World} {P S : Nat} {L : List Bt} {a : Nat} {fl : Int} (h : PrAt w P S L a fl) {ad : Option Addr} {cap : Nat} (ha : a < L.length) (h1 : L.length - (a + 1) ≤ cap) (h2 : a + 1 < L.length → ad = some ⟨S, (a + 1) * 2, none⟩) : PrAt (w.setCell ⟨P, 0, none⟩ (.slice ad (L.length - (a + 1)) cap)) P S L (a + 1) fl := by
  have ne := h.neS
  obtain ⟨⟨ad0, cap0, s1, s2, s3⟩, f0, ⟨x1, c1⟩, c2, ⟨x3, c3⟩, f2, f3, row, le, few, ne2, ltS⟩ := h
  exact ⟨⟨ad, cap, World.cell?_setCell_same' _ _ _ (by rw [s1]; rfl), h1, h2⟩, by rw [frozen_setCell]; exact f0, ⟨x1, (World.cell?_setCell_other _ _ _ _ (offN (by omega))).trans c1⟩, (World.cell?_setCell_other _ _ _ _ (offN (by omega))).trans c2, ⟨x3, (World.cell?_setCell_other _ _ _ _ (offN (by omega))).trans c3⟩, by rw [frozen_setCell]; exact f2, by rw [frozen_setCell]; exact f3,
    fun i hi => ⟨(World.cell?_setCell_other _ _ _ _ (ne _ _)).trans (row i hi).1, by obtain ⟨x, hx⟩ := (row i hi).2; exact ⟨x, (World.cell?_setCell_other _ _ _ _ (ne _ _)).trans hx⟩⟩, ha, few, ne2, by simpa [World.setCell] using ltS⟩
/-- A fault, and a place. -/
theorem PrAt.setF {w : World} {P S : Nat} {L : List Bt} {a : Nat} {fl : Int} (h : PrAt w P S L a fl) (n x : Int) : PrAt ((w.setCell ⟨P, 2, none⟩ (.int .i64 n)).setCell ⟨P, 3, none⟩ (.int .i64 x)) P S L a n := by
  have ne := h.neS
  obtain ⟨⟨ad0, cap0, s1, s2, s3⟩, f0, ⟨x1, c1⟩, c2, ⟨x3, c3⟩, f2, f3, row, le, few, ne2, ltS⟩ := h
  have o1 : ∀ (p : Addr), p ≠ ⟨P, 2, none⟩ → p ≠ ⟨P, 3, none⟩ → ((w.setCell ⟨P, 2, none⟩ (.int .i64 n)).setCell ⟨P, 3, none⟩ (.int .i64 x)).cell? p = w.cell? p := fun p h1 h2 => (World.cell?_setCell_other _ _ _ _ (Ne.symm h2)).trans (World.cell?_setCell_other _ _ _ _ (Ne.symm h1))
  have c3' : (w.setCell ⟨P, 2, none⟩ (.int .i64 n)).cell? ⟨P, 3, none⟩ = some (.int .i64 x3) := (World.cell?_setCell_other _ _ _ _ (offN (by omega))).trans c3
  exact ⟨⟨ad0, cap0, (o1 _ (offN (by omega)) (offN (by omega))).trans s1, s2, s3⟩, by rw [frozen_setCell, frozen_setCell]; exact f0, ⟨x1, (o1 _ (offN (by omega)) (offN (by omega))).trans c1⟩, (World.cell?_setCell_other _ _ _ _ (offN (by omega))).trans (World.cell?_setCell_same' _ _ _ (by rw [c2]; rfl)), ⟨x, World.cell?_setCell_same' _ _ _ (by rw [c3']; rfl)⟩, by rw [frozen_setCell, frozen_setCell]; exact f2, by rw [frozen_setCell, frozen_setCell]; exact f3,
    fun i hi => ⟨(o1 _ (Ne.symm (ne _ _)) (Ne.symm (ne _ _))).trans (row i hi).1, by obtain ⟨y, hy⟩ := (row i hi).2; exact ⟨y, (o1 _ (Ne.symm (ne _ _)) (Ne.symm (ne _ _))).trans hy⟩⟩, le, few, ne2, by simpa [World.setCell] using ltS⟩

theorem PrAt.setP {w : World} {P S : Nat} {L : List Bt} {a : Nat} {fl : Int} (h : PrAt w P S L a fl) (x : Int) : PrAt (w.setCell ⟨P, 3, none⟩ (.int .i64 x)) P S L a fl := by
  have ne := h.neS
  obtain ⟨⟨ad0, cap0, s1, s2, s3⟩, f0, ⟨x1, c1⟩, c2, ⟨x3, c3⟩, f2, f3, row, le, few, ne2, ltS⟩ := h
  exact ⟨⟨ad0, cap0, (World.cell?_setCell_other _ _ _ _ (offN (by omega))).trans s1, s2, s3⟩, by rw [frozen_setCell]; exact f0, ⟨x1, (World.cell?_setCell_other _ _ _ _ (offN (by omega))).trans c1⟩, (World.cell?_setCell_other _ _ _ _ (offN (by omega))).trans c2, ⟨x, World.cell?_setCell_same' _ _ _ (by rw [c3]; rfl)⟩, by rw [frozen_setCell]; exact f2, by rw [frozen_setCell]; exact f3,
    fun i hi => ⟨(World.cell?_setCell_other _ _ _ _ (ne _ _)).trans (row i hi).1, by obtain ⟨y, hy⟩ := (row i hi).2; exact ⟨y, (World.cell?_setCell_other _ _ _ _ (ne _ _)).trans hy⟩⟩, le, few, ne2, by simpa [World.setCell] using ltS⟩

set_option maxHeartbeats 4000000 in
theorem pfail_any (w : World) (P S : Nat) (L : List Bt) (a : Nat) (fl n : Int) (h : PrAt w P S L a fl) :
    Calls Tryz.prog 11 #[.pointer (some ⟨P, 0, none⟩), .int .i64 n] w fun e w' => e = .returned (.tuple #[]) ∧ PrAt w' P S L a (failS fl n) ∧ Fr [P] w w' := by
  have HH := hideIt h
  have c2 := h.c2
  have f2 := h.f2
  have f3 := h.f3
  obtain ⟨x1, c1⟩ := h.c1
  obtain ⟨x3, c3⟩ := h.c3
  obtain ⟨ad, cap, s1, s2, s3⟩ := h.sl
  have hle := h.le
  by_cases hf : fl = 0
  · subst hf
    have HF : Hid (failS 0 n = n) := rfl
    by_cases ha : a < L.length
    · obtain rfl := s3 ha
      obtain ⟨r0, x, r1⟩ := h.row a ha
      have hne : (P : Nat) ≠ S := Ne.symm h.ne
      have hgt : (0 : Int) < ((L.length - a : Nat) : Int) := by omega
      clear h
      go_enter Tryz.func11, Tryz.ntmps11
      go_wp2
      go_end0
      exact ⟨rfl, by rw [HF.out]; exact (HH.out.setF n x1).setP x, ((Fr.set _ _ _ (by simp)).trans (Fr.set _ _ _ (by simp))).trans (Fr.set _ _ _ (by simp))⟩
    · have hgt : ¬ (0 : Int) < ((L.length - a : Nat) : Int) := by omega
      clear h
      go_enter Tryz.func11, Tryz.ntmps11
      go_wp2
      go_end0
      exact ⟨rfl, by rw [HF.out]; exact HH.out.setF n x1, (Fr.set _ _ _ (by simp)).trans (Fr.set _ _ _ (by simp))⟩
  · have HF : Hid (failS fl n = fl) := hideIt (by unfold failS; rw [if_neg hf])
    have hb : (fl == 0) = false := by simp [hf]
    clear h
    go_enter Tryz.func11, Tryz.ntmps11
    go_wp2
    go_end0
    exact ⟨rfl, by rw [HF.out]; exact HH.out, Fr.refl _ _⟩

/-- Whether that sign comes next. -/
def isS (L : List Bt) (a : Nat) (fl : Int) (x : Bt) : Bool := decide (fl = 0 ∧ a < L.length ∧ L.getD a [] = x)

def isA (L : List Bt) (a : Nat) (fl : Int) (x : Bt) : Nat := if isS L a fl x then a + 1 else a
theorem isA_t {L : List Bt} {a : Nat} {fl : Int} {x : Bt} (h : isS L a fl x = true) : isA L a fl x = a + 1 := by unfold isA; rw [if_pos h]
theorem isA_f {L : List Bt} {a : Nat} {fl : Int} {x : Bt} (h : isS L a fl x = false) : isA L a fl x = a := by unfold isA; rw [h]; rfl

set_option maxHeartbeats 4000000 in
theorem pis_any (w : World) (P S : Nat) (L : List Bt) (a : Nat) (fl : Int) (x : Bt) (h : PrAt w P S L a fl) :
    Calls Tryz.prog 17 #[.pointer (some ⟨P, 0, none⟩), .string (ba x)] w fun e w' => e = .returned (.bool (isS L a fl x)) ∧ PrAt w' P S L (isA L a fl x) fl ∧ Fr [P] w w' := by
  have HH := hideIt h
  have c2 := h.c2
  have f0 := h.f0
  obtain ⟨ad, cap, s1, s2, s3⟩ := h.sl
  have hle := h.le
  have hne : (P : Nat) ≠ S := Ne.symm h.ne
  by_cases hf : fl = 0
  · by_cases ha : a < L.length
    · obtain rfl := s3 ha
      obtain ⟨r0, _⟩ := h.row a ha
      have hgd : L.getD a [] = L[a] := by rw [List.getD_eq_getElem?_getD, List.getElem?_eq_getElem ha]; rfl
      have hgt : (0 : Int) < ((L.length - a : Nat) : Int) := by omega
      have hgt' : decide ((0 : Int) < ((L.length - a : Nat) : Int)) = true := decide_eq_true hgt
      have hgt2 : (1 : Int) ≤ ((L.length - a : Nat) : Int) := by omega
      have hgt3 : (1 : Int) ≤ (cap : Int) := by omega
      by_cases hx : L[a] = x
      · have HI : Hid (isS L a fl x = true) := hideIt (by unfold isS; exact decide_eq_true ⟨hf, ha, hgd.trans hx⟩)
        have hb : ((ba L[a]).toList == (ba x).toList) = true := by rw [hx]; exact beq_self_eq_true _
        obtain ⟨od, hod, hod2⟩ : ∃ od, (if cap = 1 then (some ⟨S, a * 2, none⟩ : Option Addr) else some ⟨S, a * 2 + 2, none⟩) = od ∧ (a + 1 < L.length → od = some ⟨S, (a + 1) * 2, none⟩) :=
          ⟨_, rfl, fun h1 => by rw [if_neg (by omega)]; congr 2; omega⟩
        have HO := hideIt (HH.out.setL (ad := od) (cap := cap - 1) ha (by omega) hod2)
        have hln : L.length - a - 1 = L.length - (a + 1) := by omega
        subst hf
        clear h hgd hod2
        generalize ba L[a] = bx at *
        go_enter Tryz.func17, Tryz.ntmps17
        go_wp2
        go_ret
        exact ⟨by rw [HI.out]; rfl, by rw [isA_t HI.out]; exact HO.out, Fr.set _ _ _ (by simp)⟩
      · have HI : Hid (isS L a fl x = false) := hideIt (by unfold isS; exact decide_eq_false (fun e => hx (hgd.symm.trans e.2.2)))
        have hb := ba_ne hx
        subst hf
        clear h hgd
        generalize ba L[a] = bx at *
        go_enter Tryz.func17, Tryz.ntmps17
        go_wp2
        go_ret
        exact ⟨by rw [HI.out]; rfl, by rw [isA_f HI.out]; exact HH.out, Fr.refl _ _⟩
    · have HI : Hid (isS L a fl x = false) := hideIt (by unfold isS; exact decide_eq_false (fun e => ha e.2.1))
      have hgt : ¬ (0 : Int) < ((L.length - a : Nat) : Int) := by omega
      have hgt' : decide ((0 : Int) < ((L.length - a : Nat) : Int)) = false := decide_eq_false hgt
      subst hf
      clear h
      go_enter Tryz.func17, Tryz.ntmps17
      go_wp2
      go_ret
      exact ⟨by rw [HI.out]; rfl, by rw [isA_f HI.out]; exact HH.out, Fr.refl _ _⟩
  · have HI : Hid (isS L a fl x = false) := hideIt (by unfold isS; exact decide_eq_false (fun e => hf e.1))
    have hb : (fl == 0) = false := by simp [hf]
    clear h
    go_enter Tryz.func17, Tryz.ntmps17
    go_wp2
    go_ret
    exact ⟨by rw [HI.out]; rfl, by rw [isA_f HI.out]; exact HH.out, Fr.refl _ _⟩
end Go.Proofs.YthblokfiojccmaaGreatDoor.Gn
