/-
  How many cuts there are, and how many of them may be seen: counted by rows of eight numbers. (Plain.)
-/
import Derived.Test.YtmonbkoelehdlaaDoorCuP
import Derived.Test.YtmonbkoelehdlaaDoorSpW
namespace Go.Proofs.YtmonbkoelehdlaaDoor

def allK (l : List Stp) (k : Nat) : List Nat := (List.range k).map fun p : Nat => allC l (p : Int)
def allL (l : List Stp) : List Nat := allK l 8
theorem allK_succ (l : List Stp) (k : Nat) : allK l (k + 1) = allK l k ++ [allC l (k : Int)] := by simp [allK, List.range_succ]
theorem allL_len (l : List Stp) : (allL l).length = 8 := by simp [allL, allK]
theorem allL_at (l : List Stp) {p : Nat} (h : p < 8) : (allL l)[p]? = some (allC l (p : Int)) := by
  unfold allL allK
  rw [List.getElem?_map, List.getElem?_range h]
  rfl
theorem allL_drop (l : List Stp) {p : Nat} (h : p < 8) : (allL l).drop p = allC l (p : Int) :: (allL l).drop (p + 1) := by
  have hl : p < (allL l).length := by rw [allL_len]; exact h
  rw [List.drop_eq_getElem_cons hl]
  have := allL_at l h
  rw [List.getElem?_eq_getElem hl] at this
  rw [Option.some.inj this]
theorem prodN_app : ∀ (al : List Nat) (a : Nat), prodN (al ++ [a]) = prodN al * (a + 1)
  | [], a => by show (a + 1) * 1 = 1 * (a + 1); omega
  | b :: al, a => by
    show (b + 1) * prodN (al ++ [a]) = (b + 1) * prodN al * (a + 1)
    rw [prodN_app al a, Nat.mul_assoc]
def prodK (l : List Stp) (k : Nat) : Nat := prodN (allK l k)
theorem prodK_zero (l : List Stp) : prodK l 0 = 1 := rfl
theorem prodK_succ (l : List Stp) (k : Nat) : prodK l (k + 1) = prodK l k * (allC l (k : Int) + 1) := by
  unfold prodK
  rw [allK_succ, prodN_app]
theorem prodK_le (l : List Stp) (k : Nat) : prodK l k ≤ prodK l (k + 1) := by
  rw [prodK_succ]
  exact Nat.le_mul_of_pos_right _ (by omega)
theorem prodK_mono (l : List Stp) {k m : Nat} (h : k ≤ m) : prodK l k ≤ prodK l m := by
  induction m with
  | zero => rw [show k = 0 by omega]; exact Nat.le_refl _
  | succ m ih =>
    by_cases e : k = m + 1
    · rw [e]; exact Nat.le_refl _
    · exact Nat.le_trans (ih (by omega)) (prodK_le l m)
theorem prodK_bound {l : List Stp} (h : l.length ≤ 40) : ∀ k, prodK l k ≤ 41 ^ k
  | 0 => Nat.le_refl _
  | k + 1 => by
    have h1 : allC l (k : Int) ≤ l.length := cnt_len l (fun _ => true) (k : Int)
    rw [prodK_succ, Nat.pow_succ]
    exact Nat.mul_le_mul (prodK_bound h k) (by omega)
theorem prodK_big {l : List Stp} (h : l.length ≤ 40) {k : Nat} (hk : k ≤ 8) : prodK l k ≤ 7984925229121 := Nat.le_trans (prodK_bound h k) (Nat.le_trans (Nat.pow_le_pow_right (by omega) hk) (by decide))

def cutL (t : List Nat) (q : Nat) : Int := (t.getD q 0 : Nat)
def stdN (l : List Stp) (t : List Nat) : Nat := if stdB l (cutL t) then 1 else 0
theorem stdN_le (l : List Stp) (t : List Nat) : stdN l t ≤ 1 := by unfold stdN; split <;> omega
theorem stdB_congr {l : List Stp} {c d : Nat → Int} (h : ∀ q, q < 8 → c q = d q) : stdB l c = stdB l d := by
  rw [Bool.eq_iff_iff, stdB_iff, stdB_iff]
  constructor
  · intro hs p hp q hq
    have := hs p hp q hq
    rwa [h p hp, h q hq] at this
  · intro hs p hp q hq
    rw [h p hp, h q hq]
    exact hs p hp q hq
theorem cntA_mono : ∀ (al : List Nat) (F G : List Nat → Nat), (∀ t, F t ≤ G t) → cntA al F ≤ cntA al G
  | [], F, G, h => h []
  | a :: al, F, G, h => by
    show (sumN (a + 1) fun n => cntA al fun t => F (n :: t)) ≤ sumN (a + 1) fun n => cntA al fun t => G (n :: t)
    generalize a + 1 = m
    induction m with
    | zero => exact Nat.le_refl _
    | succ m ih => rw [sumN_succ, sumN_succ]; exact Nat.add_le_add ih (cntA_mono al _ _ fun t => h _)
/-- How many cuts may be seen. -/
def cutsN (l : List Stp) : Nat := cntA (allL l) (stdN l)
theorem cutsN_le (l : List Stp) : cutsN l ≤ prodK l 8 := by
  have h := cntA_mono (allL l) (stdN l) (fun _ => 1) (stdN_le l)
  rw [cntA_cntB (allL l) (fun _ => 1), cntB_one, Nat.one_mul] at h
  exact h
theorem sumN_part {f : Nat → Nat} {k m : Nat} (h : k ≤ m) : sumN k f ≤ sumN m f := by
  induction m with
  | zero => rw [show k = 0 by omega]; exact Nat.le_refl _
  | succ m ih =>
    by_cases e : k = m + 1
    · rw [e]; exact Nat.le_refl _
    · rw [sumN_succ]; have := ih (by omega); omega

/-! ### the odometer, place by place -/
theorem nextC_at : ∀ (al cs : List Nat) (p : Nat), al.length = cs.length → (∀ q, q < p → al.getD q 0 = cs.getD q 0) → p < al.length → al.getD p 0 ≠ cs.getD p 0 → nextC al cs = List.replicate p 0 ++ ((cs.getD p 0 + 1) :: cs.drop (p + 1))
  | [], _, p, _, _, h, _ => absurd h (by simp)
  | _ :: _, [], p, h, _, _, _ => by cases h
  | a :: al, c :: cs, 0, _, _, _, h => by
    have h' : c ≠ a := fun e => h (by simp [e])
    show (if c = a then 0 :: nextC al cs else (c + 1) :: cs) = _
    rw [if_neg h']
    simp
  | a :: al, c :: cs, p + 1, hl, hq, hp, h => by
    have h0 : c = a := by have := hq 0 (by omega); simp at this; exact this.symm
    show (if c = a then 0 :: nextC al cs else (c + 1) :: cs) = _
    rw [if_pos h0, nextC_at al cs p (by simpa using hl) (fun q hq' => by have := hq (q + 1) (by omega); simpa using this) (by simpa using hp) (by simpa using h)]
    simp [List.replicate_succ]
theorem nextC_len : ∀ (al cs : List Nat), al.length = cs.length → (nextC al cs).length = al.length
  | [], [], _ => rfl
  | [], _ :: _, h => by cases h
  | _ :: _, [], h => by cases h
  | a :: al, c :: cs, h => by
    show (if c = a then 0 :: nextC al cs else (c + 1) :: cs).length = _
    split
    · simp; exact nextC_len al cs (by simpa using h)
    · simp at h ⊢; exact h.symm
/-- The next row, al numbers. -/
theorem cutL_next {al cs : List Nat} {p : Nat} (hl : al.length = cs.length) (hq : ∀ q, q < p → al.getD q 0 = cs.getD q 0) (hp : p < al.length) (hne : al.getD p 0 ≠ cs.getD p 0) (q : Nat) :
    cutL (nextC al cs) q = if q < p then 0 else if q = p then cutL cs q + 1 else cutL cs q := by
  unfold cutL
  rw [nextC_at al cs p hl hq hp hne]
  simp only [List.getD_eq_getElem?_getD]
  by_cases h1 : q < p
  · rw [if_pos h1, List.getElem?_append_left (by simpa using h1), List.getElem?_replicate, if_pos h1]; rfl
  · rw [if_neg h1, List.getElem?_append_right (by simp; omega), List.length_replicate]
    by_cases h2 : q = p
    · subst h2; simp
    · rw [if_neg h2, show q - p = (q - p - 1) + 1 by omega, List.getElem?_cons_succ, List.getElem?_drop, show p + 1 + (q - p - 1) = q by omega]
theorem rows_eq {al cs : List Nat} (hl : al.length = cs.length) (hq : ∀ q, q < al.length → al.getD q 0 = cs.getD q 0) : al = cs := by
  refine List.ext_getElem hl fun i h1 h2 => ?_
  have := hq i h1
  simp only [List.getD_eq_getElem?_getD, List.getElem?_eq_getElem h1, List.getElem?_eq_getElem h2] at this
  exact this
end Go.Proofs.YtmonbkoelehdlaaDoor
