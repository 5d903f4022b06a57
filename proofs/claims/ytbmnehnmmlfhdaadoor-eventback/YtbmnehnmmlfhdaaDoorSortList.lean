/-
  The sort of a row of ops, as lists.
-/
import Derived.Test.YtbmnehnmmlfhdaaDoorSortWalk
import Derived.Laws.OwnMore
namespace Go.Proofs.YtbmnehnmmlfhdaaDoor
open Go.RowKit

theorem opList_len (x : Opn) : x.list.length = 8 := rfl

theorem opCells_get (L : List Opn) (i c : Nat) (hi : i < L.length) (hc : c < 8) : (opCells L)[i * 8 + c]? = L[i].list[c]? := by
  induction L generalizing i with
  | nil => simp at hi
  | cons x r ih =>
    show (x.list ++ opCells r)[i * 8 + c]? = _
    cases i with
    | zero =>
      rw [List.getElem?_append_left (by rw [opList_len]; omega)]
      simp
    | succ i =>
      rw [List.getElem?_append_right (by rw [opList_len]; omega), opList_len, show (i + 1) * 8 + c - 8 = i * 8 + c from by omega, ih i (by simpa using hi)]
      simp
theorem opCells_len (L : List Opn) : (opCells L).length = L.length * 8 := by
  induction L with
  | nil => rfl
  | cons x r ih => show (x.list ++ opCells r).length = _; rw [List.length_append, opList_len, ih]; simp; omega

theorem below_sort {w : World} {M g n : Nat} {d : Array Opn} {os : Array Obj} [Inhabited Opn] (hg : M ≤ g) (hM : M ≤ w.heap.size) : RowKit.Below M w (Proofs.sortWorldK Opn.list 8 w g 0 n d os) := by
  refine ⟨rfl, rfl, rfl, ?_, fun k hk => ?_⟩
  · simp [Proofs.sortWorldK, Sort.grow, Sort.putRowK, Sort.putRow, Sort.mapBlock, Sort.ahead]
  · simp only [Proofs.sortWorldK, Sort.grow, Sort.putRowK, Sort.putRow, Sort.mapBlock, Sort.ahead]
    rw [Array.getElem?_append_left (by simp; omega), Array.getElem?_modify, if_neg (by omega)]

theorem sort_list (g cap base M : Nat) (L : List Opn) (w : World) (hlen : L.length ≤ 1000) (ho : w.ownsRow base 51 8 (.slice (some ⟨g, 0, none⟩) L.length cap) L.length (opCells L)) (hg : M ≤ g) (hM : M ≤ w.heap.size) (hgs : g < w.heap.size) :
    Calls Tryd.prog 37 #[.slice (some ⟨g, 0, none⟩) L.length cap, .func (.func 38) #[] #[]] w fun e w' => e = .returned (.tuple #[]) ∧ ∃ L' : List Opn, L'.Perm L ∧ L'.length = L.length ∧ L'.Pairwise (fun x y => x.c ≤ y.c) ∧ OpsAt w' g 0 L' ∧ RowKit.Below M w w' := by
  haveI : Inhabited Opn := ⟨zeroOp⟩
  have hsize : L.toArray.size = L.length := by simp
  have hH : Sort.HoldsK Opn.list 8 w g 0 L.toArray := by
    intro j hj
    have hj' : j < L.length * 8 := by simpa [Sort.flatK] using hj
    have hd : j / 8 < L.length := by omega
    refine ⟨?_, by rw [Nat.zero_add]; exact ho.frozenAt j⟩
    rw [Nat.zero_add, ho.cellAt j hj', show j = j / 8 * 8 + j % 8 from by omega, opCells_get L (j / 8) (j % 8) hd (by omega)]
    have e1 : (j / 8 * 8 + j % 8) / 8 = j / 8 := by omega
    have e2 : (j / 8 * 8 + j % 8) % 8 = j % 8 := by omega
    have hlt : j % 8 < L[j / 8].list.length := by rw [opList_len]; omega
    rw [List.getElem?_eq_getElem hlt]
    have hr : j / 8 * 8 + j % 8 < L.length * 8 := by omega
    simp [Sort.flatK, e1, e2, hr, hd, hlt]
  have h := sort_any g 0 cap L.toArray w hH hgs (by rw [hsize]; omega)
  rw [hsize] at h
  refine h.mono ?_
  rintro e w' ⟨rfl, d', n, os, hp, hs, rfl⟩
  obtain ⟨p1, _, p3⟩ := hp
  have hdl : d'.size = L.length := by rw [p1, hsize]
  have hperm : d'.toList.Perm L := by
    have e1 : (d'.extract 0 L.length).toList = d'.toList := by rw [← hdl]; simp
    have e2 : (L.toArray.extract 0 L.length).toList = L := by simp
    rw [e1, e2] at p3
    exact p3
  refine ⟨rfl, d'.toList, hperm, hperm.length_eq, ?_, ?_, below_sort hg hM⟩
  · refine List.pairwise_iff_getElem.2 fun i j hi hj hij => ?_
    have := hs i j (Nat.zero_le _) hij (by simpa [hdl] using hj)
    rw [ltO] at this
    have hi' : i < d'.size := by simpa using hi
    have hj' : j < d'.size := by simpa using hj
    simp [hi', hj'] at this
    simpa using this
  · have hh := Proofs.holdsK_sortWorldK_c Opn.list 8 w g 0 L.toArray d' n os hH hgs p1
    intro i hi
    have hi' : i < d'.size := by simpa using hi
    have hc : ∀ c, c < 8 → (Proofs.sortWorldK Opn.list 8 w g 0 n d' os).cell? ⟨g, 0 + i * 8 + c, none⟩ = some (d'.toList[i].list)[c]! := fun c hc => by
      have := (hh.cell hi' hc).1
      simpa [hi'] using this
    exact ⟨hc 0 (by decide), hc 1 (by decide), hc 2 (by decide), hc 3 (by decide), hc 4 (by decide), hc 5 (by decide), hc 6 (by decide), hc 7 (by decide)⟩

end Go.Proofs.YtbmnehnmmlfhdaaDoor
