/-
  The document's Step of a queue, of a stack: walked.
  A set's state, put into and dropped from, the document's way: the same where the state rises.
  The document's Step of a set: walked.
-/
import Derived.Test.YtelndpbkheoeaaaDoorCallWZ
import Derived.Laws.OwnMore
import Derived.Deep.RegionLaw
import Derived.Test.YtelndpbkheoeaaaDoorSetAZ
namespace Go.Proofs.YtelndpbkheoeaaaDoor
open Go.RowKit

/-- append in a region that draws, out of the equation of its run. -/
theorem step_append_run {P : Program} {ops : Array Oper} {o : Oper} {a : Act} {w : World} {K : Act → World → Prop} {Q : Exit → Act → World → Prop} {E : Prop} (hgd : o.guard = none) (s x : Operand) (t : TypeId)
    (ho : o.op = .call { callee := .builtin .append, args := #[s, x], argTypes := #[t, t] }) (v xv v' : Value) (w' : World) (hs : a.eval s = v) (hx : a.eval x = xv) (hr : (Builtin.append_ #[t, t] o.type #[v, xv]).run P w = .ok v' w')
    (hK : K (a.put o.dst v') w') : if Region.wanted o (yielded ops a.tmps) = true then Oper.wp P o a w K Q else E := by
  have hw : Region.wanted o (yielded ops a.tmps) = true := by simp [Region.wanted, hgd]
  rw [if_pos hw]
  unfold Oper.wp execOp
  simp only [ho, resolve, invoke, builtin, Sem.run_bind, Sem.run_pure, Result.andThen_ok, List.map_toArray, List.map_cons, List.map_nil, hs, hx, hr]
  exact hK

/-- A row of one's own that begins its block. -/
abbrev Own (w : World) (base : Nat) (v : Value) (st : List Int) : Prop := w.ownsRow base 3 1 v st.length (st.map (Value.int .i64))

theorem run_app {w : World} {base : Nat} {v x : Value} {st zs : List Int} (hown : Own w base v st) (hx : HasInts w x zs) (hb : base ≤ w.heap.size) (hlen : st.length + zs.length ≤ 100000) (ty : TypeId) :
    ∃ v' w', (Builtin.append_ #[48, 48] ty #[v, x]).run Tryd.prog w = .ok v' w' ∧ Own w' base v' (st ++ zs) ∧ w.grownBy w' v.ownBlock := by
  obtain ⟨a, cap, rfl, h1, h2, hn, h⟩ := hx
  obtain ⟨i, hi, hz, hsz, hby⟩ := info_parts info3
  cases a with
  | none =>
    obtain rfl := hn rfl
    obtain rfl : zs = [] := List.length_eq_zero_iff.1 (by omega)
    exact ⟨v, w, run_append_owned_none w base 48 ty 3 i 1 Tryd.underlying48 hi v _ _ hown, by simpa using hown, grown_refl _ _⟩
  | some A =>
    have hnews : ∀ j u, (zs.map (Value.int .i64))[j]? = some u → w.cell? (A.add j) = some u := by
      intro j u hu
      obtain ⟨hj, rfl⟩ := map_getElem? hu
      obtain h | ⟨b, off, e, hc⟩ := h
      · subst h; simp at hj
      · obtain rfl := Option.some.inj e
        rw [Addr.add_lit]; exact hc j hj
    obtain ⟨v', w', hr, ho, hg, _⟩ := run_append_own w base 48 ty 3 i _ 1 8 Tryd.underlying48 hi hz hsz hby rfl (by decide) v _ _ hown A zs.length cap (zs.map (Value.int .i64)) (by simp) hnews (one_cells zs) (by unfold maxLen; omega) (by omega) hb
    exact ⟨v', w', hr, by show w'.ownsRow base 3 1 v' (st ++ zs).length ((st ++ zs).map _); rw [List.length_append, List.map_append]; exact ho, hg⟩

theorem own_empty (w : World) (base : Nat) (hb : base ≤ w.heap.size) : Own (w.alloc (.cells #[] 3)) base (.slice (some ⟨w.heap.size, 0, none⟩) 0 0) [] := World.ownsRow_made w #[] 0 hb (by decide) (by simp)
theorem Own.kept {w w' : World} {base : Nat} {v : Value} {st : List Int} (h : Own w base v st) (hg : w.grownBy w' none) : Own w' base v st := World.ownsRow.kept h hg (Classical.em _)
theorem own_lt {w : World} {base : Nat} {v : Value} {st : List Int} (h : Own w base v st) : ∀ k, v.ownBlock = some k → base ≤ k := fun k hk => (World.ownsRow.lt h k hk).1

theorem hasInts_one (w : World) (x : Int) : HasInts (w.alloc (.cells #[.int .i64 x] 3)) (.slice (some ⟨w.heap.size, 0, none⟩) 1 1) [x] := (rowAt_one w x rfl (Nat.le_refl _)).has

theorem HasInts.drop1 {w : World} {g off cap : Nat} {st : List Int} (h : HasInts w (.slice (some ⟨g, off, none⟩) st.length cap) st) (h0 : 0 < st.length) :
    HasInts w (.slice (if cap = 1 then some ⟨g, off, none⟩ else some ⟨g, off + 1, none⟩) (st.length - 1) (cap - 1)) (st.drop 1) := by
  obtain ⟨a, cap', e, h1, h2, _, h | ⟨g', off', e', h⟩⟩ := h
  · subst h; simp at h0
  · subst e'
    obtain ⟨⟨rfl, rfl⟩, rfl⟩ : (g = g' ∧ off = off') ∧ cap = cap' := by simpa using e
    by_cases hc : cap = 1
    · rw [if_pos hc]
      exact ⟨some ⟨g, off, none⟩, cap - 1, by simp, by simp; omega, by omega, fun e => (by cases e), .inl (by apply List.drop_eq_nil_of_le; omega)⟩
    · rw [if_neg hc]
      refine ⟨_, cap - 1, by simp, by simp; omega, by omega, fun e => (by cases e), .inr ⟨g, off + 1, rfl, fun j hj => ?_⟩⟩
      have := h (1 + j) (by simp at hj; omega)
      rw [List.getElem_drop, show off + 1 + j = off + (1 + j) by omega]
      exact this

theorem HasInts.init {w : World} {g off cap : Nat} {st : List Int} (h : HasInts w (.slice (some ⟨g, off, none⟩) st.length cap) st) :
    HasInts w (.slice (some ⟨g, off, none⟩) (st.length - 1) cap) (st.take (st.length - 1)) := by
  obtain ⟨a, cap', e, h1, h2, _, h | ⟨g', off', e', h⟩⟩ := h
  · obtain ⟨_, rfl⟩ : some ⟨g, off, none⟩ = a ∧ cap = cap' := by simpa using e
    exact ⟨some ⟨g, off, none⟩, cap, by simp, by simp; omega, by omega, fun e => (by cases e), .inl (by simp [h])⟩
  · subst e'
    obtain ⟨⟨rfl, rfl⟩, rfl⟩ : (g = g' ∧ off = off') ∧ cap = cap' := by simpa using e
    refine ⟨_, cap, by simp, by simp; omega, by omega, fun e => (by cases e), .inr ⟨g, off, rfl, fun j hj => ?_⟩⟩
    rw [List.getElem_take]
    exact h j (by simp at hj; omega)

end Go.Proofs.YtelndpbkheoeaaaDoor

namespace Go.Proofs.YtelndpbkheoeaaaDoor
open Go.RowKit

/-- The document's way of putting in: ahead of the first that is greater. -/
def putL (a : Int) : List Int → List Int
  | [] => [a]
  | x :: r => if a < x then a :: x :: r else x :: putL a r

theorem place_cons (x : Int) (r : List Int) (a : Int) : placeOf (x :: r) a = if x < a then placeOf r a + 1 else placeOf r a := by
  unfold placeOf
  rw [List.countP_cons]
  by_cases h : x < a <;> simp [h]

theorem place_zero {st : List Int} {a : Int} (h : ∀ x ∈ st, a ≤ x) : placeOf st a = 0 := by
  unfold placeOf
  rw [List.countP_eq_zero]
  intro x hx
  have := h x hx
  simp; omega

theorem put_ins : ∀ {st : List Int} {a : Int}, st.Pairwise (· < ·) → a ∉ st → putL a st = insL st (placeOf st a) a
  | [], a, _, _ => rfl
  | x :: r, a, hs, ha => by
    rw [List.pairwise_cons] at hs
    have hx : a ≠ x := fun e => ha (by simp [e])
    have hr : a ∉ r := fun e => ha (by simp [e])
    unfold putL
    by_cases h : a < x
    · rw [if_pos h, place_zero (fun y hy => by
        rcases List.mem_cons.1 hy with rfl | hy
        · omega
        · have := hs.1 y hy; omega)]
      rfl
    · rw [if_neg h, place_cons, if_pos (by omega), put_ins hs.2 hr]
      rfl

theorem filter_del : ∀ {st : List Int} {a : Int}, st.Pairwise (· < ·) → a ∈ st → st.filter (fun x => x != a) = delL st (placeOf st a)
  | [], a, _, ha => by simp at ha
  | x :: r, a, hs, ha => by
    rw [List.pairwise_cons] at hs
    by_cases h : x = a
    · subst h
      rw [place_zero (fun y hy => by
        rcases List.mem_cons.1 hy with rfl | hy
        · omega
        · have := hs.1 y hy; omega)]
      have : r.filter (fun y => y != x) = r := List.filter_eq_self.2 fun y hy => by have := hs.1 y hy; simp; omega
      simp [delL, this]
    · have hr : a ∈ r := by rcases List.mem_cons.1 ha with e | e; exact absurd e.symm h; exact e
      have hlt : x < a := hs.1 a hr
      rw [place_cons, if_pos hlt, List.filter_cons_of_pos (by simpa using h), filter_del hs.2 hr]
      rfl

theorem filter_none {st : List Int} {a : Int} (h : a ∉ st) : st.filter (fun x => x != a) = st :=
  List.filter_eq_self.2 fun y hy => by
    have : y ≠ a := fun e => h (e ▸ hy)
    simpa using this

/-- The document's second loop, so far: what is out, and whether it was put in. -/
theorem putL_rises : ∀ {st : List Int} {a : Int}, st.Pairwise (· < ·) → a ∉ st → (putL a st).Pairwise (· < ·)
  | [], a, _, _ => by simp [putL]
  | x :: r, a, hs, ha => by
    have hx : a ≠ x := fun e => ha (by simp [e])
    have hr : a ∉ r := fun e => ha (by simp [e])
    have hs' := List.pairwise_cons.1 hs
    unfold putL
    by_cases h : a < x
    · rw [if_pos h]
      refine List.pairwise_cons.2 ⟨fun y hy => ?_, hs⟩
      rcases List.mem_cons.1 hy with rfl | hy
      · exact h
      · have := hs'.1 y hy; omega
    · rw [if_neg h]
      refine List.pairwise_cons.2 ⟨fun y hy => ?_, putL_rises hs'.2 hr⟩
      have : ∀ (l : List Int), y ∈ putL a l → y = a ∨ y ∈ l := by
        intro l
        induction l with
        | nil => intro h; simpa [putL] using h
        | cons z l ih =>
          intro h
          unfold putL at h
          split at h
          · rcases List.mem_cons.1 h with h | h
            · exact .inl h
            · exact .inr h
          · rcases List.mem_cons.1 h with h | h
            · exact .inr (by simp [h])
            · rcases ih h with h | h
              · exact .inl h
              · exact .inr (by simp [h])
      rcases this r hy with rfl | hy
      · omega
      · exact hs'.1 y hy

end Go.Proofs.YtelndpbkheoeaaaDoor

namespace Go.Proofs.YtelndpbkheoeaaaDoor
open Go.RowKit

/-- What the first loop has kept. -/
def restTo (st : List Int) (a : Int) (n : Nat) : List Int := (st.take n).filter fun x => x != a
def wasTo (st : List Int) (a : Int) (n : Nat) : Int := if (st.take n).contains a then 1 else 0

theorem take_at {st : List Int} {n : Nat} (h : n < st.length) : st.take (n + 1) = st.take n ++ [st[n]] := by
  rw [List.take_add_one, List.getElem?_eq_getElem h]; rfl
theorem restTo_same {st : List Int} {a : Int} {n : Nat} (h : n < st.length) (e : st[n] = a) : restTo st a (n + 1) = restTo st a n := by
  simp [restTo, take_at h, List.filter_append, e]
theorem restTo_other {st : List Int} {a : Int} {n : Nat} (h : n < st.length) (e : st[n] ≠ a) : restTo st a (n + 1) = restTo st a n ++ [st[n]] := by
  unfold restTo
  rw [take_at h, List.filter_append, List.filter_cons_of_pos (by simpa using e)]
  rfl
theorem wasTo_same {st : List Int} {a : Int} {n : Nat} (h : n < st.length) (e : st[n] = a) : wasTo st a (n + 1) = 1 := by
  simp [wasTo, take_at h, e]
theorem wasTo_other {st : List Int} {a : Int} {n : Nat} (h : n < st.length) (e : st[n] ≠ a) : wasTo st a (n + 1) = wasTo st a n := by
  unfold wasTo
  rw [take_at h]
  generalize st[n] = x at e
  simp [Ne.symm e]
theorem restTo_len (st : List Int) (a : Int) (n : Nat) : (restTo st a n).length ≤ st.length :=
  Nat.le_trans (List.length_filter_le _ _) (by simp; omega)

/-- What the second loop has made, and whether it was put in. -/
def doneTo (st : List Int) (a : Int) (n : Nat) : Bool := (st.take n).any fun x => decide (a < x)
def outTo (st : List Int) (a : Int) (n : Nat) : List Int := if doneTo st a n then putL a (st.take n) else st.take n
theorem doneTo_succ {st : List Int} {a : Int} {n : Nat} (h : n < st.length) : doneTo st a (n + 1) = (doneTo st a n || decide (a < st[n])) := by
  unfold doneTo
  rw [take_at h, List.any_append]
  generalize st[n] = x
  simp
theorem putL_none : ∀ {l : List Int} {a : Int}, (l.any fun x => decide (a < x)) = false → putL a l = l ++ [a]
  | [], _, _ => rfl
  | x :: r, a, h => by
    simp only [List.any_cons, Bool.or_eq_false_iff, decide_eq_false_iff_not] at h
    unfold putL
    rw [if_neg h.1, putL_none h.2]; rfl
theorem putL_new : ∀ {l : List Int} {a x : Int}, (l.any fun x => decide (a < x)) = false → a < x → putL a (l ++ [x]) = (l ++ [a]) ++ [x]
  | [], a, x, _, hx => by simp [putL, hx]
  | y :: r, a, x, h, hx => by
    simp only [List.any_cons, Bool.or_eq_false_iff, decide_eq_false_iff_not] at h
    rw [List.cons_append, putL, if_neg h.1, putL_new h.2 hx]; rfl
theorem putL_add : ∀ {l : List Int} {a x : Int}, (l.any fun x => decide (a < x)) = true → putL a (l ++ [x]) = putL a l ++ [x]
  | [], a, x, h => by simp at h
  | y :: r, a, x, h => by
    rw [List.cons_append, putL, putL]
    by_cases hy : a < y
    · rw [if_pos hy, if_pos hy]; rfl
    · rw [if_neg hy, if_neg hy, putL_add (by simpa [hy] using h)]; rfl
theorem outTo_new {st : List Int} {a : Int} {n : Nat} (h : n < st.length) (hd : doneTo st a n = false) (hx : a < st[n]) : outTo st a (n + 1) = (outTo st a n ++ [a]) ++ [st[n]] := by
  unfold outTo
  rw [doneTo_succ h, hd]
  simp only [hx, decide_true, Bool.or_true, if_true, Bool.false_eq_true, if_false]
  rw [take_at h]
  exact putL_new hd hx
theorem outTo_done {st : List Int} {a : Int} {n : Nat} (h : n < st.length) (hd : doneTo st a n = true) : outTo st a (n + 1) = outTo st a n ++ [st[n]] := by
  unfold outTo
  rw [doneTo_succ h, hd]
  simp only [Bool.true_or, if_true]
  rw [take_at h]
  exact putL_add hd
theorem outTo_less {st : List Int} {a : Int} {n : Nat} (h : n < st.length) (hd : doneTo st a n = false) (hx : ¬ a < st[n]) : outTo st a (n + 1) = outTo st a n ++ [st[n]] := by
  unfold outTo
  rw [doneTo_succ h, hd]
  simp only [hx, decide_false, Bool.or_false, Bool.false_eq_true, if_false]
  rw [take_at h]
theorem outTo_len (st : List Int) (a : Int) (n : Nat) : (outTo st a n).length ≤ st.length + 1 := by
  have hl : ∀ l : List Int, (putL a l).length = l.length + 1 := by
    intro l
    induction l with
    | nil => rfl
    | cons x r ih => unfold putL; split <;> simp [ih]
  unfold outTo
  split
  · rw [hl]; simp; omega
  · simp; omega
theorem outTo_end_done {st : List Int} {a : Int} (h : doneTo st a st.length = true) : outTo st a st.length = putL a st := by
  unfold outTo; rw [h, if_pos rfl, List.take_length]
theorem outTo_end_none {st : List Int} {a : Int} (h : doneTo st a st.length = false) : outTo st a st.length ++ [a] = putL a st := by
  unfold outTo
  rw [h, if_neg (by decide), putL_none (by unfold doneTo at h; rw [List.take_length] at h; exact h), List.take_length]


end Go.Proofs.YtelndpbkheoeaaaDoor
