/-
  Words between single blanks, taken apart: of no program.
-/
import Derived.Lib.FieldsP
import Derived.Lib.Join
import Derived.Laws.RangeString
namespace Go.Proofs.YtbmnehnmmlfhdaaDoor
open Go.Lib

/-- The pass over bytes that are all below 128. -/
def spansL : List UInt8 → Nat → Option Nat → List (Nat × Nat) → List (Nat × Nat) × Option Nat
  | [], _, st, acc => (acc, st)
  | c :: r, pos, st, acc =>
    if c.toNat == 32 then
      (match st with
       | some a => spansL r (pos + 1) none (acc ++ [(a, pos)])
       | none => spansL r (pos + 1) none acc)
    else
      (match st with
       | some a => spansL r (pos + 1) (some a) acc
       | none => spansL r (pos + 1) (some pos) acc)

def blankP (r : Nat) : Bool := r == 32

theorem spansL_of (s : ByteArray) (ha : ∀ c ∈ s.data.toList, c.toNat < 128) : ∀ (f pos : Nat) (st : Option Nat) (acc : List (Nat × Nat)), s.size ≤ f + pos → spansFromP blankP s f pos st acc = spansL (s.data.toList.drop pos) pos st acc
  | 0, pos, st, acc, h => by
    rw [List.drop_eq_nil_of_le (by show s.data.toList.length ≤ pos; have : s.data.toList.length = s.size := rfl; omega)]
    rfl
  | f + 1, pos, st, acc, h => by
    unfold spansFromP
    by_cases hp : pos < s.size
    · have hl : pos < s.data.toList.length := hp
      have hc : (s[pos]'hp).toNat < 128 := ha _ (by
        have : s[pos]'hp = s.data.toList[pos]'hl := rfl
        rw [this]; exact List.getElem_mem hl)
      rw [if_pos hp, decode_ascii s pos hp hc, List.drop_eq_getElem_cons hl]
      have e : s.data.toList[pos]'hl = s[pos]'hp := rfl
      rw [e]
      by_cases h32 : blankP (s[pos]'hp).toNat = true
      · have hr : ∀ (r : List UInt8), spansL ((s[pos]'hp) :: r) pos st acc = (match st with | some a => spansL r (pos + 1) none (acc ++ [(a, pos)]) | none => spansL r (pos + 1) none acc) := fun r => by
          conv => lhs; unfold spansL
          exact if_pos h32
        rw [hr]
        refine (if_pos h32).trans ?_
        cases st <;> exact spansL_of s ha f (pos + 1) _ _ (by omega)
      · have hr : ∀ (r : List UInt8), spansL ((s[pos]'hp) :: r) pos st acc = (match st with | some a => spansL r (pos + 1) (some a) acc | none => spansL r (pos + 1) (some pos) acc) := fun r => by
          conv => lhs; unfold spansL
          exact if_neg h32
        rw [hr]
        refine (if_neg h32).trans ?_
        cases st <;> exact spansL_of s ha f (pos + 1) _ _ (by omega)
    · rw [if_neg hp, List.drop_eq_nil_of_le (by show s.data.toList.length ≤ pos; have : s.data.toList.length = s.size := rfl; omega)]
      rfl

theorem spansL_some : ∀ (w r : List UInt8) (pos a : Nat) (acc : List (Nat × Nat)), (∀ c ∈ w, c.toNat ≠ 32) → spansL (w ++ r) pos (some a) acc = spansL r (pos + w.length) (some a) acc
  | [], r, pos, a, acc, _ => by simp
  | c :: w, r, pos, a, acc, h => by
    rw [List.cons_append]
    conv => lhs; unfold spansL
    rw [if_neg (by have := h c (by simp); simpa using this)]
    simp only
    rw [spansL_some w r (pos + 1) a acc (fun x hx => h x (by simp [hx])), List.length_cons]
    congr 1; omega
theorem spansL_word (w r : List UInt8) (pos : Nat) (acc : List (Nat × Nat)) (h : ∀ c ∈ w, c.toNat ≠ 32) (h0 : w ≠ []) : spansL (w ++ r) pos none acc = spansL r (pos + w.length) (some pos) acc := by
  cases w with
  | nil => exact absurd rfl h0
  | cons c w =>
    rw [List.cons_append]
    conv => lhs; unfold spansL
    rw [if_neg (by have := h c (by simp); simpa using this)]
    simp only
    rw [spansL_some w r (pos + 1) pos acc (fun x hx => h x (by simp [hx])), List.length_cons]
    congr 1; omega
theorem spansL_blank (r : List UInt8) (pos a : Nat) (acc : List (Nat × Nat)) : spansL (32 :: r) pos (some a) acc = spansL r (pos + 1) none (acc ++ [(a, pos)]) := by
  conv => lhs; unfold spansL
  rw [if_pos (by decide)]

theorem join_two (w v : List UInt8) (r : List (List UInt8)) : Lib.join (w :: v :: r) [32] = w ++ 32 :: Lib.join (v :: r) [32] := by
  simp [Lib.join, List.intercalate, List.intersperse]

/-- Where the words begin and end. -/
def placesOf : Nat → List (List UInt8) → List (Nat × Nat)
  | _, [] => []
  | pos, w :: r => (pos, pos + w.length) :: placesOf (pos + w.length + 1) r

theorem spans_words (s : ByteArray) : ∀ (ws : List (List UInt8)) (pos : Nat) (acc : List (Nat × Nat)), (∀ w ∈ ws, w ≠ [] ∧ ∀ c ∈ w, c.toNat ≠ 32) → s.size = pos + (Lib.join ws [32]).length →
    closeSpans s (spansL (Lib.join ws [32]) pos none acc) = acc ++ placesOf pos ws
  | [], pos, acc, _, _ => by simp [Lib.join, spansL, closeSpans, placesOf]
  | [w], pos, acc, h, hs => by
    have hw := h w (by simp)
    have e : Lib.join [w] [32] = w ++ [] := by simp [Lib.join]
    rw [e, spansL_word w [] pos acc hw.2 hw.1]
    rw [e] at hs
    simp only [spansL, closeSpans, placesOf]
    rw [hs]; simp
  | w :: v :: r, pos, acc, h, hs => by
    have hw := h w (by simp)
    rw [join_two] at hs ⊢
    rw [spansL_word w _ pos acc hw.2 hw.1, spansL_blank, spans_words s (v :: r) (pos + w.length + 1) _ (fun x hx => h x (by simp [hx])) (by rw [hs]; simp; omega)]
    simp [placesOf]

theorem extract_word (s : ByteArray) (a : Nat) (w r : List UInt8) (h : s.data.toList.drop a = w ++ r) : s.extract a (a + w.length) = ⟨w.toArray⟩ := by
  apply ByteArray.ext
  rw [ByteArray.data_extract]
  apply Array.ext'
  rw [Array.toList_extract]
  simp [List.extract, h]

theorem extract_words (s : ByteArray) : ∀ (ws : List (List UInt8)) (pos : Nat), s.data.toList.drop pos = Lib.join ws [32] → (placesOf pos ws).map (fun x => s.extract x.1 x.2) = ws.map fun w => ⟨w.toArray⟩
  | [], _, _ => rfl
  | [w], pos, h => by
    have e : Lib.join [w] [32] = w := by simp [Lib.join]
    rw [e] at h
    simp only [placesOf, List.map_cons, List.map_nil]
    rw [extract_word s pos w [] (by simpa using h)]
  | w :: v :: r, pos, h => by
    rw [join_two] at h
    have h2 : s.data.toList.drop (pos + w.length + 1) = Lib.join (v :: r) [32] := by
      rw [← List.drop_drop, ← List.drop_drop, h]; simp
    rw [placesOf, List.map_cons, extract_words s (v :: r) _ h2, List.map_cons, extract_word s pos w _ h]
    rfl

theorem fields_words (ws : List (List UInt8)) (h : ∀ w ∈ ws, w ≠ [] ∧ ∀ c ∈ w, c.toNat ≠ 32) (ha : ∀ c ∈ Lib.join ws [32], c.toNat < 128) : Lib.goFieldsP blankP ⟨(Lib.join ws [32]).toArray⟩ = ws.map fun w => ⟨w.toArray⟩ := by
  unfold Lib.goFieldsP Lib.spansOfP
  rw [spansL_of _ (by simpa using ha) _ _ _ _ (by simp)]
  have e : (⟨(Lib.join ws [32]).toArray⟩ : ByteArray).data.toList.drop 0 = Lib.join ws [32] := by simp
  rw [e, spans_words _ ws 0 [] h (by simp [ByteArray.size])]
  simp only [List.nil_append]
  exact extract_words _ ws 0 e

end Go.Proofs.YtbmnehnmmlfhdaaDoor
