/-
  The reader of signs in memory, and its small steps.
-/
import Derived.Test.YthblokfiojccmaaGreatDoorGnT
import Derived.Deep.DeepCutAuto
import Derived.Lib.Bytealg
namespace Go.Proofs.YthblokfiojccmaaGreatDoor.Gn
open Go.RowKit

abbrev Bt := List UInt8
def ba (t : Bt) : ByteArray := ⟨t.toArray⟩
theorem ba_list (a : Bt) : (ba a).toList = a := by rw [Lib.toList_data]; simp [ba]
theorem ba_ne {a b : Bt} (h : ¬ a = b) : ((ba a).toList == (ba b).toList) = false := by rw [ba_list, ba_list]; simpa using h

/-- The reader in block R over signs in block S: number at is next, fl is what is wrong. -/
structure RdAt (w : World) (R S : Nat) (L : List Bt) (at_ : Nat) (fl : Int) : Prop where
  sl : ∃ cap, w.cell? ⟨R, 0, none⟩ = some (.slice (some ⟨S, 0, none⟩) L.length cap) ∧ L.length ≤ cap
  c1 : w.cell? ⟨R, 1, none⟩ = some (.int .i64 (at_ : Nat))
  c2 : w.cell? ⟨R, 2, none⟩ = some (.int .i64 fl)
  f1 : w.frozen? ⟨R, 1, none⟩ = false
  f2 : w.frozen? ⟨R, 2, none⟩ = false
  row : ∀ i, (h : i < L.length) → w.cell? ⟨S, i * 2, none⟩ = some (.string (ba L[i])) ∧ ∃ x, w.cell? ⟨S, i * 2 + 1, none⟩ = some (.int .i64 x)
  lt : at_ < L.length
  few : L.length ≤ 2001
  ne : S ≠ R
theorem RdAt.ltR {w : World} {R S : Nat} {L : List Bt} {a : Nat} {fl : Int} (h : RdAt w R S L a fl) : R < w.heap.size := World.block_lt_of_cell? w _ h.c1
theorem RdAt.ltS {w : World} {R S : Nat} {L : List Bt} {a : Nat} {fl : Int} (h : RdAt w R S L a fl) : S < w.heap.size := World.block_lt_of_cell? w _ (h.row 0 (Nat.lt_of_le_of_lt (Nat.zero_le _) h.lt)).1
theorem RdAt.blk {w w' : World} {R S : Nat} {L : List Bt} {a : Nat} {fl : Int} (h : RdAt w R S L a fl) (hR : w'.heap[R]? = w.heap[R]?) (hS : w'.heap[S]? = w.heap[S]?) : RdAt w' R S L a fl := by
  obtain ⟨⟨cap, c0, hc⟩, c1, c2, f1, f2, row, lt, few, ne⟩ := h
  exact ⟨⟨cap, (World.cell?_of_block (a := ⟨R, 0, none⟩) hR).trans c0, hc⟩, (World.cell?_of_block (a := ⟨R, 1, none⟩) hR).trans c1, (World.cell?_of_block (a := ⟨R, 2, none⟩) hR).trans c2, (World.frozen?_of_block (a := ⟨R, 1, none⟩) hR).trans f1, (World.frozen?_of_block (a := ⟨R, 2, none⟩) hR).trans f2,
    fun i hi => ⟨(World.cell?_of_block (a := ⟨S, i * 2, none⟩) hS).trans (row i hi).1, by obtain ⟨x, hx⟩ := (row i hi).2; exact ⟨x, (World.cell?_of_block (a := ⟨S, i * 2 + 1, none⟩) hS).trans hx⟩⟩, lt, few, ne⟩
theorem RdAt.fr {w w' : World} {R S : Nat} {L : List Bt} {a : Nat} {fl : Int} {X : List Nat} (h : RdAt w R S L a fl) (hg : Fr X w w') (hR : R ∉ X) (hS : S ∉ X) : RdAt w' R S L a fl :=
  h.blk (hg.block R h.ltR hR) (hg.block S h.ltS hS)
theorem RdAt.drewN {w : World} {R S : Nat} {L : List Bt} {a : Nat} {fl : Int} (h : RdAt w R S L a fl) (k : Nat) : RdAt (w.drewN k) R S L a fl := h.blk rfl rfl
theorem RdAt.setAt {w : World} {R S : Nat} {L : List Bt} {a : Nat} {fl : Int} (h : RdAt w R S L a fl) (b : Nat) (hb : b < L.length) : RdAt (w.setCell ⟨R, 1, none⟩ (.int .i64 (b : Nat))) R S L b fl := by
  obtain ⟨⟨cap, c0, hc⟩, c1, c2, f1, f2, row, lt, few, ne⟩ := h
  have ne2 : ∀ x y, (⟨R, x, none⟩ : Addr) ≠ ⟨S, y, none⟩ := fun x y e => ne (by injection e with e; exact e.symm)
  have off : ∀ x y, x ≠ y → (⟨R, x, none⟩ : Addr) ≠ ⟨R, y, none⟩ := fun x y hxy e => hxy (by injection e)
  exact ⟨⟨cap, (World.cell?_setCell_other _ _ _ _ (off 1 0 (by omega))).trans c0, hc⟩, World.cell?_setCell_same' _ _ _ (by rw [c1]; rfl), (World.cell?_setCell_other _ _ _ _ (off 1 2 (by omega))).trans c2, by rw [frozen_setCell]; exact f1, by rw [frozen_setCell]; exact f2,
    fun i hi => ⟨(World.cell?_setCell_other _ _ _ _ (ne2 _ _)).trans (row i hi).1, by obtain ⟨x, hx⟩ := (row i hi).2; exact ⟨x, (World.cell?_setCell_other _ _ _ _ (ne2 _ _)).trans hx⟩⟩, hb, few, ne⟩
theorem RdAt.setFl {w : World} {R S : Nat} {L : List Bt} {a : Nat} {fl : Int} (h : RdAt w R S L a fl) (x : Int) : RdAt (w.setCell ⟨R, 2, none⟩ (.int .i64 x)) R S L a x := by
  obtain ⟨⟨cap, c0, hc⟩, c1, c2, f1, f2, row, lt, few, ne⟩ := h
  have ne2 : ∀ x y, (⟨R, x, none⟩ : Addr) ≠ ⟨S, y, none⟩ := fun x y e => ne (by injection e with e; exact e.symm)
  have off : ∀ x y, x ≠ y → (⟨R, x, none⟩ : Addr) ≠ ⟨R, y, none⟩ := fun x y hxy e => hxy (by injection e)
  exact ⟨⟨cap, (World.cell?_setCell_other _ _ _ _ (off 2 0 (by omega))).trans c0, hc⟩, (World.cell?_setCell_other _ _ _ _ (off 2 1 (by omega))).trans c1, World.cell?_setCell_same' _ _ _ (by rw [c2]; rfl), by rw [frozen_setCell]; exact f1, by rw [frozen_setCell]; exact f2,
    fun i hi => ⟨(World.cell?_setCell_other _ _ _ _ (ne2 _ _)).trans (row i hi).1, by obtain ⟨x, hx⟩ := (row i hi).2; exact ⟨x, (World.cell?_setCell_other _ _ _ _ (ne2 _ _)).trans hx⟩⟩, lt, few, ne⟩

def failS (fl n : Int) : Int := if fl = 0 then n else fl
def passS (len a : Nat) (fl : Int) : Nat := if fl = 0 ∧ a + 1 < len then a + 1 else a

set_option maxHeartbeats 2000000 in
theorem next_any (w : World) (R S : Nat) (L : List Bt) (a : Nat) (fl : Int) (h : RdAt w R S L a fl) :
    Calls Tryz.prog 21 #[.pointer (some ⟨R, 0, none⟩)] w fun e w' => e = .returned (.string (ba (L.getD a []))) ∧ ∃ k, w' = w.drewN k := by
  have hlt := h.lt
  obtain ⟨cap, c0, hc⟩ := h.sl
  have c1 := h.c1
  have hr := (h.row a hlt).1
  have HG : Hid (L.getD a [] = L[a]) := hideIt (by rw [List.getD_eq_getElem?_getD, List.getElem?_eq_getElem hlt]; rfl)
  have hlt' : (a : Int) < (L.length : Int) := by omega
  clear h
  generalize L[a] = t at *
  go_enter Tryz.func21, Tryz.ntmps21
  go_wp2_with fail
  go_quiet (fail)
  go_wp2
  go_ret
  exact ⟨by rw [HG.out]; rfl, _, rfl⟩

set_option maxHeartbeats 2000000 in
theorem fail_any (w : World) (R S : Nat) (L : List Bt) (a : Nat) (fl n : Int) (h : RdAt w R S L a fl) :
    Calls Tryz.prog 20 #[.pointer (some ⟨R, 0, none⟩), .int .i64 n] w fun e w' => e = .returned (.tuple #[]) ∧ RdAt w' R S L a (failS fl n) ∧ Fr [R] w w' := by
  have HH := hideIt h
  have c2 := h.c2
  have f2 := h.f2
  clear h
  by_cases hf : fl = 0
  · subst hf
    have HF : Hid (failS 0 n = n) := rfl
    go_enter Tryz.func20, Tryz.ntmps20
    go_wp2
    go_end0
    exact ⟨rfl, by rw [HF.out]; exact HH.out.setFl n, Fr.set _ _ _ (by simp)⟩
  · have HF : Hid (failS fl n = fl) := hideIt (by unfold failS; rw [if_neg hf])
    have hb : (fl == 0) = false := by simp [hf]
    go_enter Tryz.func20, Tryz.ntmps20
    go_wp2
    go_end0
    exact ⟨rfl, by rw [HF.out]; exact HH.out, Fr.refl _ _⟩

set_option maxHeartbeats 4000000 in
theorem pass_any (w : World) (R S : Nat) (L : List Bt) (a : Nat) (fl : Int) (h : RdAt w R S L a fl) :
    Calls Tryz.prog 23 #[.pointer (some ⟨R, 0, none⟩)] w fun e w' => e = .returned (.tuple #[]) ∧ RdAt w' R S L (passS L.length a fl) fl ∧ Fr [R] w w' := by
  have HH := hideIt h
  have c2 := h.c2
  have f1 := h.f1
  have c1 := h.c1
  have hfew := h.few
  have hlt := h.lt
  obtain ⟨cap, c0, hc⟩ := h.sl
  clear h
  by_cases hf : fl = 0
  · subst hf
    by_cases hl : a + 1 < L.length
    · have HF : Hid (passS L.length a 0 = a + 1) := hideIt (by unfold passS; rw [if_pos ⟨rfl, hl⟩])
      have q1 : (a : Int) < (L.length : Int) - 1 := by omega
      have q2 : decide ((a : Int) < (L.length : Int) - 1) = true := decide_eq_true q1
      have HX : Hid (∀ k, RdAt ((w.drewN k).setCell ⟨R, 1, none⟩ (.int .i64 ((a + 1 : Nat) : Int))) R S L (a + 1) 0) := hideIt (fun k => (HH.out.drewN k).setAt (a + 1) hl)
      go_enter Tryz.func23, Tryz.ntmps23
      go_wp2_with fail
      go_quiet (fail)
      go_wp2
      go_end0
      exact ⟨rfl, by rw [HF.out]; exact HX.out _, (Fr.drewN _ _ _).trans (Fr.set _ _ _ (by simp))⟩
    · have HF : Hid (passS L.length a 0 = a) := hideIt (by unfold passS; rw [if_neg (fun h => hl h.2)])
      have q1 : ¬ (a : Int) < (L.length : Int) - 1 := by omega
      have q2 : decide ((a : Int) < (L.length : Int) - 1) = false := decide_eq_false q1
      go_enter Tryz.func23, Tryz.ntmps23
      go_wp2_with fail
      go_quiet (fail)
      go_wp2
      go_end0
      exact ⟨rfl, by rw [HF.out]; exact HH.out.drewN _, Fr.drewN _ _ _⟩
  · have HF : Hid (passS L.length a fl = a) := hideIt (by unfold passS; rw [if_neg (fun h => hf h.1)])
    have hb : (fl == 0) = false := by simp [hf]
    go_enter Tryz.func23, Tryz.ntmps23
    go_wp2_with fail
    go_quiet (fail)
    go_wp2
    go_end0
    exact ⟨rfl, by rw [HF.out]; exact HH.out.drewN _, Fr.drewN _ _ _⟩
end Go.Proofs.YthblokfiojccmaaGreatDoor.Gn
