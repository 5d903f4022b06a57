/-
  The document's Step of a set: walked.
-/
import Derived.Test.YtfojmbbhcmeejaaDoorRefQ
import Derived.Test.YtfojmbbhcmeejaaDoorPlainT
namespace Go.Proofs.YtfojmbbhcmeejaaDoor
open Go.RowKit

/-- What the first loop has kept. -/
def restTo (st : List Int) (a : Int) (n : Nat) : List Int := (st.take n).filter fun x => x != a
def wasTo (st : List Int) (a : Int) (n : Nat) : Int := if (st.take n).contains a then 1 else 0

theorem take_at {st : List Int} {n : Nat} (h : n < st.length) : st.take (n + 1) = st.take n ++ [st[n]] := by
  rw [List.take_add_one, List.getElem?_eq_getElem h]; rfl
theorem restTo_same {st : List Int} {a : Int} {n : Nat} (h : n < st.length) (e : st[n] = a) : restTo st a (n + 1) = restTo st a n := by
  simp [restTo, take_at h, List.filter_append, e]
theorem restTo_other {st : List Int} {a : Int} {n : Nat} (h : n < st.length) (e : st[n] ≠ a) : restTo st a (n + 1) = restTo st a n ++ [st[n]] := by
  unfold restTo
  rw [take_at h, List.filter_append, List.filter_cons_of_pos (by simpa using e)]
  rfl
theorem wasTo_same {st : List Int} {a : Int} {n : Nat} (h : n < st.length) (e : st[n] = a) : wasTo st a (n + 1) = 1 := by
  simp [wasTo, take_at h, e]
theorem wasTo_other {st : List Int} {a : Int} {n : Nat} (h : n < st.length) (e : st[n] ≠ a) : wasTo st a (n + 1) = wasTo st a n := by
  unfold wasTo
  rw [take_at h]
  generalize st[n] = x at e
  simp [Ne.symm e]
theorem restTo_len (st : List Int) (a : Int) (n : Nat) : (restTo st a n).length ≤ st.length :=
  Nat.le_trans (List.length_filter_le _ _) (by simp; omega)

/-- What the second loop has made, and whether it was put in. -/
def doneTo (st : List Int) (a : Int) (n : Nat) : Bool := (st.take n).any fun x => decide (a < x)
def outTo (st : List Int) (a : Int) (n : Nat) : List Int := if doneTo st a n then putL a (st.take n) else st.take n
theorem doneTo_succ {st : List Int} {a : Int} {n : Nat} (h : n < st.length) : doneTo st a (n + 1) = (doneTo st a n || decide (a < st[n])) := by
  unfold doneTo
  rw [take_at h, List.any_append]
  generalize st[n] = x
  simp
theorem putL_none : ∀ {l : List Int} {a : Int}, (l.any fun x => decide (a < x)) = false → putL a l = l ++ [a]
  | [], _, _ => rfl
  | x :: r, a, h => by
    simp only [List.any_cons, Bool.or_eq_false_iff, decide_eq_false_iff_not] at h
    unfold putL
    rw [if_neg h.1, putL_none h.2]; rfl
theorem putL_new : ∀ {l : List Int} {a x : Int}, (l.any fun x => decide (a < x)) = false → a < x → putL a (l ++ [x]) = (l ++ [a]) ++ [x]
  | [], a, x, _, hx => by simp [putL, hx]
  | y :: r, a, x, h, hx => by
    simp only [List.any_cons, Bool.or_eq_false_iff, decide_eq_false_iff_not] at h
    rw [List.cons_append, putL, if_neg h.1, putL_new h.2 hx]; rfl
theorem putL_add : ∀ {l : List Int} {a x : Int}, (l.any fun x => decide (a < x)) = true → putL a (l ++ [x]) = putL a l ++ [x]
  | [], a, x, h => by simp at h
  | y :: r, a, x, h => by
    rw [List.cons_append, putL, putL]
    by_cases hy : a < y
    · rw [if_pos hy, if_pos hy]; rfl
    · rw [if_neg hy, if_neg hy, putL_add (by simpa [hy] using h)]; rfl
theorem outTo_new {st : List Int} {a : Int} {n : Nat} (h : n < st.length) (hd : doneTo st a n = false) (hx : a < st[n]) : outTo st a (n + 1) = (outTo st a n ++ [a]) ++ [st[n]] := by
  unfold outTo
  rw [doneTo_succ h, hd]
  simp only [hx, decide_true, Bool.or_true, if_true, Bool.false_eq_true, if_false]
  rw [take_at h]
  exact putL_new hd hx
theorem outTo_done {st : List Int} {a : Int} {n : Nat} (h : n < st.length) (hd : doneTo st a n = true) : outTo st a (n + 1) = outTo st a n ++ [st[n]] := by
  unfold outTo
  rw [doneTo_succ h, hd]
  simp only [Bool.true_or, if_true]
  rw [take_at h]
  exact putL_add hd
theorem outTo_less {st : List Int} {a : Int} {n : Nat} (h : n < st.length) (hd : doneTo st a n = false) (hx : ¬ a < st[n]) : outTo st a (n + 1) = outTo st a n ++ [st[n]] := by
  unfold outTo
  rw [doneTo_succ h, hd]
  simp only [hx, decide_false, Bool.or_false, Bool.false_eq_true, if_false]
  rw [take_at h]
theorem outTo_len (st : List Int) (a : Int) (n : Nat) : (outTo st a n).length ≤ st.length + 1 := by
  have hl : ∀ l : List Int, (putL a l).length = l.length + 1 := by
    intro l
    induction l with
    | nil => rfl
    | cons x r ih => unfold putL; split <;> simp [ih]
  unfold outTo
  split
  · rw [hl]; simp; omega
  · simp; omega
theorem outTo_end_done {st : List Int} {a : Int} (h : doneTo st a st.length = true) : outTo st a st.length = putL a st := by
  unfold outTo; rw [h, if_pos rfl, List.take_length]
theorem outTo_end_none {st : List Int} {a : Int} (h : doneTo st a st.length = false) : outTo st a st.length ++ [a] = putL a st := by
  unfold outTo
  rw [h, if_neg (by decide), putL_none (by unfold doneTo at h; rw [List.take_length] at h; exact h), List.take_length]


end Go.Proofs.YtfojmbbhcmeejaaDoor
