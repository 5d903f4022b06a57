/-
  A run of ops in plain Lean: the states of the keys behind each, which op is fine, what a run tells.
-/
import Derived.Test.YtcfomkogojggnaaDoorRefU
import Derived.Test.YtcfomkogojggnaaDoorStepsWalk
namespace Go.Proofs.YtcfomkogojggnaaDoor
open Go.RowKit

def setK {α : Type} (S : Int → α) (q : Int) (st : α) : Int → α := fun p => if p = q then st else S p
theorem setK_same {α : Type} (S : Int → α) (q : Int) (st : α) : setK S q st q = st := by simp [setK]
theorem setK_other {α : Type} (S : Int → α) (q : Int) (st : α) (p : Int) (h : p ≠ q) : setK S q st p = S p := by simp [setK, h]

def opFine (o : Int) (S : Int → List Int) (op : Opn) : Bool :=
  match stepM o (S op.k) op.d op.a op.b with
  | none => false
  | some (_, r) => decide (op.e < 0) || (op.r == r)
def after (o : Int) (S : Int → List Int) (op : Opn) : Int → List Int :=
  match stepM o (S op.k) op.d op.a op.b with
  | none => S
  | some (st', _) => setK S op.k st'

def opOf (ops : List Opn) (n : Int) : Option Opn := if 0 ≤ n then ops[n.toNat]? else none
theorem opOf_at {ops : List Opn} {n : Nat} (h : n < ops.length) : opOf ops n = some ops[n] := by simp [opOf, h]
theorem opOf_neg {ops : List Opn} {n : Int} (h : n < 0) : opOf ops n = none := by simp [opOf]; omega
theorem opOf_beyond {ops : List Opn} {n : Int} (h : (ops.length : Int) ≤ n) : opOf ops n = none := by
  unfold opOf
  rw [if_pos (by omega)]
  exact List.getElem?_eq_none (by omega)

def sAt (o : Int) (ops : List Opn) (ord : List Int) : Nat → Int → List Int
  | 0 => fun _ => startL o
  | k + 1 => match (ord[k]?).bind (opOf ops) with
    | none => sAt o ops ord k
    | some op => after o (sAt o ops ord k) op
def fineAt (o : Int) (ops : List Opn) (ord : List Int) (k : Nat) : Bool :=
  match (ord[k]?).bind (opOf ops) with
  | none => false
  | some op => opFine o (sAt o ops ord k) op

/-- What a run tells: the place of the first that isn't fine; -1: there is none. -/
def RunTold (o : Int) (ops : List Opn) (ord : List Int) (z : Int) : Prop :=
  (∃ k, k < ord.length ∧ (∀ j, j < k → fineAt o ops ord j = true) ∧ fineAt o ops ord k = false ∧ z = (k : Nat)) ∨ ((∀ j, j < ord.length → fineAt o ops ord j = true) ∧ z = -1)

theorem runTold_one {o : Int} {ops : List Opn} {ord : List Int} {y z : Int} (hy : RunTold o ops ord y) (hz : RunTold o ops ord z) : y = z := by
  rcases hy with ⟨k, hk, h1, h2, rfl⟩ | ⟨h1, rfl⟩
  · rcases hz with ⟨m, hm, g1, g2, rfl⟩ | ⟨g1, rfl⟩
    · rcases Nat.lt_trichotomy k m with h | h | h
      · rw [g1 k h] at h2; cases h2
      · rw [h]
      · rw [h1 m h] at g2; cases g2
    · rw [g1 k hk] at h2; cases h2
  · rcases hz with ⟨m, hm, g1, g2, rfl⟩ | ⟨g1, rfl⟩
    · rw [h1 m hm] at g2; cases g2
    · rfl

theorem delL_len (st : List Int) (i : Nat) : (delL st i).length ≤ st.length := by simp [delL]; omega

theorem stepM_len_le {o k a b : Int} {st st' : List Int} {r : Int} (h : stepM o st k a b = some (st', r)) : st'.length ≤ max 1 (st.length + 1) := by
  cases hk : knowsB o k
  · rw [stepM_unknown hk] at h; cases h
  · by_cases h1 : oneB o = true ∧ st.length ≠ 1
    · rw [stepM_len h1.1 h1.2] at h; cases h
    · have hone : oneB o = true → ∃ x, st = [x] := fun e => by
        have : st.length = 1 := by
          by_cases h : st.length = 1
          · exact h
          · exact absurd ⟨e, h⟩ h1
        exact List.length_eq_one_iff.1 this
      rcases knows_object hk with rfl | rfl | rfl | rfl | rfl | rfl
      · obtain ⟨x, rfl⟩ := hone rfl
        rw [stepM_reg hk] at h
        simp at h; rw [← h.1]; simp
      · obtain ⟨x, rfl⟩ := hone rfl
        rw [stepM_cnt hk] at h
        simp at h; rw [← h.1]; simp
      · rw [stepM_set hk] at h
        have h := congrArg Prod.fst (Option.some.inj h)
        subst h
        unfold setM
        split
        · simp; omega
        · split
          · simp; omega
          · split <;> simp <;> omega
      · rw [stepM_que hk] at h
        have h := congrArg Prod.fst (Option.some.inj h)
        subst h
        unfold queM
        split
        · simp
        · split <;> simp <;> omega
      · rw [stepM_sta hk] at h
        have h := congrArg Prod.fst (Option.some.inj h)
        subst h
        unfold staM
        split
        · simp
        · split <;> simp <;> omega
      · obtain ⟨x, rfl⟩ := hone rfl
        rw [stepM_mut hk] at h
        obtain ⟨y, _, hy⟩ := Option.map_eq_some_iff.1 h
        have h := congrArg Prod.fst hy
        simp at h; rw [← h]; simp

theorem setM_rises {st : List Int} {k a : Int} (hs : st.Pairwise (· < ·)) : (setM st k a).1.Pairwise (· < ·) := by
  by_cases h6 : k = 6 ∧ st.contains a = false
  · rw [setM_put h6.1 h6.2]
    have hn : a ∉ st := by simpa using h6.2
    show (insL st (placeOf st a) a).Pairwise _
    rw [← put_ins hs hn]
    exact putL_rises hs hn
  · by_cases h7 : k = 7 ∧ st.contains a = true
    · rw [setM_drop h7.1 h7.2]
      have hn : a ∈ st := by simpa using h7.2
      show (delL st (placeOf st a)).Pairwise _
      rw [← filter_del hs hn]
      exact hs.filter _
    · unfold setM
      rw [if_neg h6, if_neg h7]
      split <;> exact hs

theorem sAt_len (o : Int) (ops : List Opn) (ord : List Int) : ∀ (k : Nat) (q : Int), (sAt o ops ord k q).length ≤ k + 1
  | 0, q => by simp [sAt, startL]; split <;> simp
  | k + 1, q => by
    have ih := sAt_len o ops ord k
    unfold sAt
    cases (ord[k]?).bind (opOf ops) with
    | none => have := ih q; simp only; omega
    | some op =>
      simp only [after]
      cases hst : stepM o (sAt o ops ord k op.k) op.d op.a op.b with
      | none => have := ih q; simp only; omega
      | some p =>
        obtain ⟨st', r⟩ := p
        have h1 := stepM_len_le hst
        have h2 := ih op.k
        by_cases e : q = op.k
        · subst e; simp only [setK_same]; omega
        · simp only [setK_other _ _ _ _ e]; have := ih q; omega

theorem sAt_rises (ops : List Opn) (ord : List Int) : ∀ (k : Nat) (q : Int), (sAt 3 ops ord k q).Pairwise (· < ·)
  | 0, q => by simp [sAt, startL, oneB]
  | k + 1, q => by
    have ih := sAt_rises ops ord k
    unfold sAt
    cases (ord[k]?).bind (opOf ops) with
    | none => exact ih q
    | some op =>
      simp only [after]
      cases hst : stepM 3 (sAt 3 ops ord k op.k) op.d op.a op.b with
      | none => exact ih q
      | some p =>
        obtain ⟨st', r⟩ := p
        by_cases e : q = op.k
        · subst e
          simp only [setK_same]
          cases hk : knowsB 3 op.d with
          | false => rw [stepM_unknown hk] at hst; cases hst
          | true =>
            rw [stepM_set hk] at hst
            have h := congrArg Prod.fst (Option.some.inj hst)
            simp only at h
            rw [← h]
            exact setM_rises (ih op.k)
        · simp only [setK_other _ _ _ _ e]; exact ih q

theorem sAt_succ {o : Int} {ops : List Opn} {ord : List Int} {k : Nat} {op : Opn} (h : (ord[k]?).bind (opOf ops) = some op) : sAt o ops ord (k + 1) = after o (sAt o ops ord k) op := by
  rw [sAt, h]
theorem fineAt_some {o : Int} {ops : List Opn} {ord : List Int} {k : Nat} {op : Opn} (h : (ord[k]?).bind (opOf ops) = some op) : fineAt o ops ord k = opFine o (sAt o ops ord k) op := by
  rw [fineAt, h]
theorem fineAt_none {o : Int} {ops : List Opn} {ord : List Int} {k : Nat} (h : (ord[k]?).bind (opOf ops) = none) : fineAt o ops ord k = false := by
  rw [fineAt, h]

end Go.Proofs.YtcfomkogojggnaaDoor
