/-
  A set's state, put into and dropped from, the document's way: the same where the state rises.
-/
import Derived.Test.YtfojmbbhcmeejaaDoorSetAZ
namespace Go.Proofs.YtfojmbbhcmeejaaDoor
open Go.RowKit

/-- The document's way of putting in: ahead of the first that is greater. -/
def putL (a : Int) : List Int → List Int
  | [] => [a]
  | x :: r => if a < x then a :: x :: r else x :: putL a r

theorem place_cons (x : Int) (r : List Int) (a : Int) : placeOf (x :: r) a = if x < a then placeOf r a + 1 else placeOf r a := by
  unfold placeOf
  rw [List.countP_cons]
  by_cases h : x < a <;> simp [h]

theorem place_zero {st : List Int} {a : Int} (h : ∀ x ∈ st, a ≤ x) : placeOf st a = 0 := by
  unfold placeOf
  rw [List.countP_eq_zero]
  intro x hx
  have := h x hx
  simp; omega

theorem put_ins : ∀ {st : List Int} {a : Int}, st.Pairwise (· < ·) → a ∉ st → putL a st = insL st (placeOf st a) a
  | [], a, _, _ => rfl
  | x :: r, a, hs, ha => by
    rw [List.pairwise_cons] at hs
    have hx : a ≠ x := fun e => ha (by simp [e])
    have hr : a ∉ r := fun e => ha (by simp [e])
    unfold putL
    by_cases h : a < x
    · rw [if_pos h, place_zero (fun y hy => by
        rcases List.mem_cons.1 hy with rfl | hy
        · omega
        · have := hs.1 y hy; omega)]
      rfl
    · rw [if_neg h, place_cons, if_pos (by omega), put_ins hs.2 hr]
      rfl

theorem filter_del : ∀ {st : List Int} {a : Int}, st.Pairwise (· < ·) → a ∈ st → st.filter (fun x => x != a) = delL st (placeOf st a)
  | [], a, _, ha => by simp at ha
  | x :: r, a, hs, ha => by
    rw [List.pairwise_cons] at hs
    by_cases h : x = a
    · subst h
      rw [place_zero (fun y hy => by
        rcases List.mem_cons.1 hy with rfl | hy
        · omega
        · have := hs.1 y hy; omega)]
      have : r.filter (fun y => y != x) = r := List.filter_eq_self.2 fun y hy => by have := hs.1 y hy; simp; omega
      simp [delL, this]
    · have hr : a ∈ r := by rcases List.mem_cons.1 ha with e | e; exact absurd e.symm h; exact e
      have hlt : x < a := hs.1 a hr
      rw [place_cons, if_pos hlt, List.filter_cons_of_pos (by simpa using h), filter_del hs.2 hr]
      rfl

theorem filter_none {st : List Int} {a : Int} (h : a ∉ st) : st.filter (fun x => x != a) = st :=
  List.filter_eq_self.2 fun y hy => by
    have : y ≠ a := fun e => h (e ▸ hy)
    simpa using this

/-- The document's second loop, so far: what is out, and whether it was put in. -/
theorem putL_rises : ∀ {st : List Int} {a : Int}, st.Pairwise (· < ·) → a ∉ st → (putL a st).Pairwise (· < ·)
  | [], a, _, _ => by simp [putL]
  | x :: r, a, hs, ha => by
    have hx : a ≠ x := fun e => ha (by simp [e])
    have hr : a ∉ r := fun e => ha (by simp [e])
    have hs' := List.pairwise_cons.1 hs
    unfold putL
    by_cases h : a < x
    · rw [if_pos h]
      refine List.pairwise_cons.2 ⟨fun y hy => ?_, hs⟩
      rcases List.mem_cons.1 hy with rfl | hy
      · exact h
      · have := hs'.1 y hy; omega
    · rw [if_neg h]
      refine List.pairwise_cons.2 ⟨fun y hy => ?_, putL_rises hs'.2 hr⟩
      have : ∀ (l : List Int), y ∈ putL a l → y = a ∨ y ∈ l := by
        intro l
        induction l with
        | nil => intro h; simpa [putL] using h
        | cons z l ih =>
          intro h
          unfold putL at h
          split at h
          · rcases List.mem_cons.1 h with h | h
            · exact .inl h
            · exact .inr h
          · rcases List.mem_cons.1 h with h | h
            · exact .inr (by simp [h])
            · rcases ih h with h | h
              · exact .inl h
              · exact .inr (by simp [h])
      rcases this r hy with rfl | hy
      · omega
      · exact hs'.1 y hy

end Go.Proofs.YtfojmbbhcmeejaaDoor
