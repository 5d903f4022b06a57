/-
  Chapter 9 in plain Lean: steps, what happened ahead, times, vectors, cuts. (Nothing of the program in it.)
-/
import Derived.Test.YtmonbkoelehdlaaDoorCaP
namespace Go.Proofs.YtmonbkoelehdlaaDoor

structure Stp where
  p : Int
  k : Int
  m : Int
def stZ (l : List Stp) (i : Nat) : Stp := l.getD i ⟨0, 0, 0⟩
def sendB (l : List Stp) (m : Int) (i : Nat) : Bool := (stZ l i).k == 2 && (stZ l i).m == m
def takeB (l : List Stp) (m : Int) (i : Nat) : Bool := (stZ l i).k == 3 && (stZ l i).m == m

/-- What is known of steps that may be looked at. -/
structure ClOk (l : List Stp) : Prop where
  few : l.length ≤ 40
  proc : ∀ i, i < l.length → 0 ≤ (stZ l i).p ∧ (stZ l i).p ≤ 7
  kind : ∀ i, i < l.length → 1 ≤ (stZ l i).k ∧ (stZ l i).k ≤ 3
  once : ∀ i j, i < j → j < l.length → (stZ l i).k = 2 → (stZ l j).k = 2 → (stZ l i).m ≠ (stZ l j).m
  took : ∀ i j, i < j → j < l.length → (stZ l i).k = 3 → (stZ l j).k = 3 → (stZ l i).m ≠ (stZ l j).m
  sent : ∀ j, j < l.length → (stZ l j).k = 3 → ∃ i, i < j ∧ sendB l (stZ l j).m i = true

/-! ### what happened ahead -/
def roadC (l : List Stp) (i k : Nat) : Bool := decide (i < k) && ((stZ l i).p == (stZ l k).p || ((stZ l k).k == 3 && sendB l (stZ l k).m i))
def aheadC (l : List Stp) : Nat → Nat → Bool := war (roadC l) l.length
/-- The last step of a process among the first ones. -/
def lastC (l : List Stp) (q : Int) : Nat → Option Nat
  | 0 => none
  | j + 1 => if (stZ l j).p = q then some j else lastC l q j
def prevC (l : List Stp) (k : Nat) : Option Nat := lastC l (stZ l k).p k
def srcC (l : List Stp) (k : Nat) : Option Nat := if (stZ l k).k = 3 then firstN (sendB l (stZ l k).m) k else none

theorem lastC_spec (l : List Stp) (q : Int) : ∀ j, (lastC l q j = none ∧ ∀ i, i < j → (stZ l i).p ≠ q) ∨ ∃ i, i < j ∧ lastC l q j = some i ∧ (stZ l i).p = q ∧ ∀ i', i < i' → i' < j → (stZ l i').p ≠ q
  | 0 => .inl ⟨rfl, fun i hi => absurd hi (by omega)⟩
  | j + 1 => by
    unfold lastC
    by_cases e : (stZ l j).p = q
    · rw [if_pos e]; exact .inr ⟨j, by omega, rfl, e, fun i' h1 h2 => absurd h2 (by omega)⟩
    · rw [if_neg e]
      rcases lastC_spec l q j with ⟨h1, h2⟩ | ⟨i, hi, h1, h2, h3⟩
      · refine .inl ⟨h1, fun i hi => ?_⟩
        by_cases e' : i = j
        · subst e'; exact e
        · exact h2 i (by omega)
      · refine .inr ⟨i, by omega, h1, h2, fun i' g1 g2 => ?_⟩
        by_cases e' : i' = j
        · subst e'; exact e
        · exact h3 i' g1 (by omega)

theorem roadC_lt {l : List Stp} {i k : Nat} (h : roadC l i k = true) : i < k := by
  unfold roadC at h
  simp only [Bool.and_eq_true, decide_eq_true_eq] at h
  exact h.1
theorem wayC_lt {l : List Stp} {i k : Nat} (h : Way (roadC l) l.length i k) : i < k := by
  induction h with
  | one _ _ h => exact roadC_lt h
  | more _ _ h ih => have := roadC_lt h; omega
theorem aheadC_iff {l : List Stp} {i k : Nat} (hi : i < l.length) (hk : k < l.length) : aheadC l i k = true ↔ Way (roadC l) l.length i k := war_iff hi hk
theorem aheadC_lt {l : List Stp} {i k : Nat} (hi : i < l.length) (hk : k < l.length) (h : aheadC l i k = true) : i < k := wayC_lt ((aheadC_iff hi hk).1 h)
theorem aheadC_trans {l : List Stp} {i j k : Nat} (hi : i < l.length) (hj : j < l.length) (hk : k < l.length) (h1 : aheadC l i j = true) (h2 : aheadC l j k = true) : aheadC l i k = true :=
  (aheadC_iff hi hk).2 (((aheadC_iff hi hj).1 h1).trans ((aheadC_iff hj hk).1 h2))
theorem aheadC_own {l : List Stp} {i k : Nat} (hik : i < k) (hk : k < l.length) (h : (stZ l i).p = (stZ l k).p) : aheadC l i k = true :=
  (aheadC_iff (by omega) hk).2 (.one (by omega) hk (by unfold roadC; simp [hik, h]))

/-- The steps right ahead of one: of its process, and the sending of what it receives. -/
def predC (l : List Stp) (k : Nat) : List Nat := (prevC l k).toList ++ (srcC l k).toList
theorem predC_mem {l : List Stp} {k j : Nat} : j ∈ predC l k ↔ prevC l k = some j ∨ srcC l k = some j := by
  unfold predC
  simp only [List.mem_append, Option.mem_toList]
theorem predC_road {l : List Stp} {k j : Nat} (h : j ∈ predC l k) : roadC l j k = true := by
  rcases predC_mem.1 h with h | h
  · unfold prevC at h
    rcases lastC_spec l (stZ l k).p k with ⟨h1, _⟩ | ⟨i, hi, h1, h2, _⟩
    · rw [h1] at h; cases h
    · rw [h1] at h; injection h with h; subst h
      unfold roadC; simp [hi, h2]
  · unfold srcC at h
    split at h
    · next hk =>
      rcases firstN_cases (sendB l (stZ l k).m) k with ⟨h1, _⟩ | ⟨i, hi, h1, h2, _⟩
      · rw [h1] at h; cases h
      · rw [h1] at h; injection h with h; subst h
        unfold roadC; simp [hi, hk, h2]
    · cases h
theorem predC_lt {l : List Stp} {k j : Nat} (h : j ∈ predC l k) : j < k := roadC_lt (predC_road h)
theorem ahead_pred {l : List Stp} (ok : ClOk l) {i k : Nat} (hi : i < l.length) (hk : k < l.length) : aheadC l i k = true ↔ ∃ j, j ∈ predC l k ∧ (i = j ∨ aheadC l i j = true) := by
  have key : ∀ {j}, roadC l j k = true → ∃ j', j' ∈ predC l k ∧ (j = j' ∨ aheadC l j j' = true) := fun {j} h => by
    have hjk := roadC_lt h
    unfold roadC at h
    simp only [Bool.and_eq_true, decide_eq_true_eq, Bool.or_eq_true, beq_iff_eq] at h
    rcases h.2 with h | ⟨h1, h2⟩
    · rcases lastC_spec l (stZ l k).p k with ⟨_, h2⟩ | ⟨i', hi', h1, h2, h3⟩
      · exact absurd h (h2 j hjk)
      · refine ⟨i', predC_mem.2 (.inl h1), ?_⟩
        rcases Nat.lt_trichotomy j i' with g | g | g
        · exact .inr (aheadC_own g (by omega) (h.trans h2.symm))
        · exact .inl g
        · exact absurd h (h3 j g hjk)
    · refine ⟨j, predC_mem.2 (.inr ?_), .inl rfl⟩
      unfold srcC
      rw [if_pos h1]
      refine firstN_at hjk (fun j' hj' => ?_) h2
      cases e : sendB l (stZ l k).m j' with
      | false => rfl
      | true =>
        unfold sendB at e h2
        simp only [Bool.and_eq_true, beq_iff_eq] at e h2
        exact absurd (e.2.trans h2.2.symm) (ok.once j' j hj' (by omega) e.1 h2.1)
  constructor
  · intro h
    have split : roadC l i k = true ∨ ∃ j, Way (roadC l) l.length i j ∧ roadC l j k = true := by
      cases (aheadC_iff hi hk).1 h with
      | one _ _ h => exact .inl h
      | more h1 _ h2 => exact .inr ⟨_, h1, h2⟩
    rcases split with h | ⟨j, h1, h2⟩
    · exact key h
    · have hj := h1.lt.2
      obtain ⟨j', hm, e | e⟩ := key h2
      · subst e; exact ⟨j, hm, .inr ((aheadC_iff hi hj).2 h1)⟩
      · have := predC_lt hm
        exact ⟨j', hm, .inr (aheadC_trans hi hj (by omega) ((aheadC_iff hi hj).2 h1) e)⟩
  · rintro ⟨j, hm, e⟩
    have hj := predC_lt hm
    have hjk : aheadC l j k = true := (aheadC_iff (by omega) hk).2 (.one (by omega) hk (predC_road hm))
    rcases e with e | e
    · subst e; exact hjk
    · exact aheadC_trans hi (by omega) hk e hjk

/-! ### Lamport's times -/
/-- Times as they are counted: 1 more than the greatest of those right ahead. -/
def CountsT (l : List Stp) (t : Nat → Nat) : Prop := ∀ k, k < l.length → (∀ j, j ∈ predC l k → t j + 1 ≤ t k) ∧ (t k = 1 ∨ ∃ j, j ∈ predC l k ∧ t k = t j + 1) ∧ 1 ≤ t k
/-- The longest rows: 1 more than the greatest of those ahead. -/
def LongT (l : List Stp) (t : Nat → Nat) : Prop := ∀ k, k < l.length → (∀ i, i < l.length → aheadC l i k = true → t i + 1 ≤ t k) ∧ (t k = 1 ∨ ∃ i, i < l.length ∧ aheadC l i k = true ∧ t k = t i + 1) ∧ 1 ≤ t k
theorem counts_long {l : List Stp} (ok : ClOk l) {t : Nat → Nat} (h : CountsT l t) : LongT l t := by
  have hup : ∀ k, k < l.length → ∀ i, i < l.length → aheadC l i k = true → t i + 1 ≤ t k := by
    intro k
    induction k using Nat.strongRecOn with
    | _ k ih =>
      intro hk i hi ha
      obtain ⟨j, hm, e⟩ := (ahead_pred ok hi hk).1 ha
      have hj := predC_lt hm
      have hjk := (h k hk).1 j hm
      rcases e with e | e
      · subst e; exact hjk
      · have := ih j hj (by omega) i hi e; omega
  intro k hk
  refine ⟨fun i hi ha => hup k hk i hi ha, ?_, (h k hk).2.2⟩
  rcases (h k hk).2.1 with e | ⟨j, hm, e⟩
  · exact .inl e
  · have hj := predC_lt hm
    exact .inr ⟨j, by omega, (ahead_pred ok (by omega) hk).2 ⟨j, hm, .inl rfl⟩, e⟩
theorem longT_one {l : List Stp} {t s : Nat → Nat} (h1 : LongT l t) (h2 : LongT l s) : ∀ k, k < l.length → t k = s k := by
  intro k
  induction k using Nat.strongRecOn with
  | _ k ih =>
    intro hk
    have a := h1 k hk
    have b := h2 k hk
    have le1 : t k ≤ s k := by
      rcases a.2.1 with e | ⟨i, hi, ha, e⟩
      · omega
      · have := ih i (aheadC_lt hi hk ha) hi
        have := b.1 i hi ha
        omega
    have le2 : s k ≤ t k := by
      rcases b.2.1 with e | ⟨i, hi, ha, e⟩
      · omega
      · have := ih i (aheadC_lt hi hk ha) hi
        have := a.1 i hi ha
        omega
    omega

/-! ### counting what is closed towards the beginning -/
/-- Which of its process a step is. -/
def rkC (l : List Stp) (i : Nat) : Nat := (List.range (i + 1)).countP fun j => (stZ l j).p == (stZ l i).p
def cntC (l : List Stp) (S : Nat → Bool) (q : Int) : Nat := (List.range l.length).countP fun i => S i && (stZ l i).p == q
/-- With a step each earlier one of its process. -/
def Down (l : List Stp) (S : Nat → Bool) : Prop := ∀ i j, i < j → j < l.length → (stZ l i).p = (stZ l j).p → S j = true → S i = true

theorem count_split (f : Nat → Bool) (a : Nat) : ∀ n, a ≤ n → (List.range n).countP f = (List.range a).countP f + (List.range n).countP fun i => decide (a ≤ i) && f i
  | 0, h => by obtain rfl : a = 0 := by omega
               rfl
  | n + 1, h => by
    by_cases e : a = n + 1
    · subst e
      rw [show (List.range (n + 1)).countP (fun i => decide (n + 1 ≤ i) && f i) = 0 from List.countP_eq_zero.2 fun i hi => by have := List.mem_range.1 hi; simp; omega]
      omega
    · rw [List.range_succ, List.countP_append, List.countP_append, count_split f a n (by omega), List.countP_singleton, List.countP_singleton]
      simp only [show decide (a ≤ n) = true from by simp; omega, Bool.true_and]
      omega
theorem count_le {f g : Nat → Bool} {n : Nat} (h : ∀ i, i < n → f i = true → g i = true) : (List.range n).countP f ≤ (List.range n).countP g :=
  List.countP_mono_left fun i hi => h i (List.mem_range.1 hi)
theorem count_congr {f g : Nat → Bool} {n : Nat} (h : ∀ i, i < n → f i = g i) : (List.range n).countP f = (List.range n).countP g :=
  List.countP_congr fun i hi => by rw [h i (List.mem_range.1 hi)]
theorem rank_in {l : List Stp} {S : Nat → Bool} (hd : Down l S) {i : Nat} (hi : i < l.length) : S i = true ↔ rkC l i ≤ cntC l S (stZ l i).p := by
  have hrk : rkC l i = (List.range i).countP (fun j => (stZ l j).p == (stZ l i).p) + 1 := by
    unfold rkC
    rw [List.range_succ, List.countP_append, List.countP_singleton]
    simp
  constructor
  · intro hs
    unfold cntC
    rw [count_split _ (i + 1) l.length (by omega)]
    have : rkC l i ≤ (List.range (i + 1)).countP fun j => S j && (stZ l j).p == (stZ l i).p := count_le fun j hj e => by
      have e' : (stZ l j).p = (stZ l i).p := by simpa using e
      have : S j = true := by
        by_cases ej : j = i
        · subst ej; exact hs
        · exact hd j i (by omega) hi e' hs
      simp [this, e']
    omega
  · intro hle
    cases hs : S i with
    | true => rfl
    | false =>
      exfalso
      unfold cntC at hle
      rw [count_split _ i l.length (by omega)] at hle
      have h0 : (List.range l.length).countP (fun j => decide (i ≤ j) && (S j && (stZ l j).p == (stZ l i).p)) = 0 := List.countP_eq_zero.2 fun j hj => by
        have hj := List.mem_range.1 hj
        simp only [Bool.and_eq_true, decide_eq_true_eq, beq_iff_eq, not_and]
        intro h1 h2 h3
        by_cases ej : i = j
        · subst ej; rw [hs] at h2; cases h2
        · have := hd i j (by omega) hj h3.symm h2
          rw [hs] at this; cases this
      have h1 : (List.range i).countP (fun j => S j && (stZ l j).p == (stZ l i).p) ≤ (List.range i).countP (fun j => (stZ l j).p == (stZ l i).p) := count_le fun j _ e => by
        simp only [Bool.and_eq_true] at e; exact e.2
      omega
theorem cnt_le {l : List Stp} {S S' : Nat → Bool} (q : Int) (h : ∀ i, i < l.length → (stZ l i).p = q → S i = true → S' i = true) : cntC l S q ≤ cntC l S' q :=
  count_le fun i hi e => by
    simp only [Bool.and_eq_true, beq_iff_eq] at e ⊢
    exact ⟨h i hi e.2 e.1, e.2⟩
/-- Of two such sets one holds the other one, of each process. -/
theorem down_line {l : List Stp} {S S' : Nat → Bool} (hd : Down l S) (hd' : Down l S') (q : Int) : (∀ i, i < l.length → (stZ l i).p = q → S i = true → S' i = true) ∨ (∀ i, i < l.length → (stZ l i).p = q → S' i = true → S i = true) := by
  rcases Nat.le_total (cntC l S q) (cntC l S' q) with h | h
  · exact .inl fun i hi e hs => (rank_in hd' hi).2 (by have := (rank_in hd hi).1 hs; rw [e] at this ⊢; omega)
  · exact .inr fun i hi e hs => (rank_in hd hi).2 (by have := (rank_in hd' hi).1 hs; rw [e] at this ⊢; omega)
theorem cnt_union {l : List Stp} {S S' : Nat → Bool} (hd : Down l S) (hd' : Down l S') (q : Int) : cntC l (fun i => S i || S' i) q = max (cntC l S q) (cntC l S' q) := by
  have g1 : cntC l S q ≤ cntC l (fun i => S i || S' i) q := cnt_le q fun i _ _ h => by simp [h]
  have g2 : cntC l S' q ≤ cntC l (fun i => S i || S' i) q := cnt_le q fun i _ _ h => by simp [h]
  rcases down_line hd hd' q with h | h
  · have : cntC l (fun i => S i || S' i) q ≤ cntC l S' q := cnt_le q fun i hi e hs => by
      simp only [Bool.or_eq_true] at hs
      rcases hs with hs | hs
      · exact h i hi e hs
      · exact hs
    omega
  · have : cntC l (fun i => S i || S' i) q ≤ cntC l S q := cnt_le q fun i hi e hs => by
      simp only [Bool.or_eq_true] at hs
      rcases hs with hs | hs
      · exact hs
      · exact h i hi e hs
    omega

/-! ### vectors -/
/-- What is ahead of a step, or it. -/
def inC (l : List Stp) (k i : Nat) : Bool := i == k || aheadC l i k
def vecC (l : List Stp) (k : Nat) (q : Int) : Nat := cntC l (inC l k) q
theorem inC_down {l : List Stp} {k : Nat} (hk : k < l.length) : Down l (inC l k) := fun i j hij hj hp h => by
  unfold inC at h ⊢
  simp only [Bool.or_eq_true, beq_iff_eq] at h ⊢
  rcases h with h | h
  · subst h; exact .inr (aheadC_own hij hj hp)
  · exact .inr (aheadC_trans (by omega) hj hk (aheadC_own hij hj hp) h)
def pastV (l : List Stp) (o : Option Nat) (q : Int) : Nat := match o with
  | none => 0
  | some j => vecC l j q
def pastB (l : List Stp) (o : Option Nat) (i : Nat) : Bool := match o with
  | none => false
  | some j => inC l j i
theorem pastV_cnt (l : List Stp) (o : Option Nat) (q : Int) : pastV l o q = cntC l (pastB l o) q := by
  cases o with
  | none =>
    show 0 = cntC l (fun _ => false) q
    unfold cntC
    exact (List.countP_eq_zero.2 fun i _ => by simp).symm
  | some j => rfl
theorem pastB_down {l : List Stp} {o : Option Nat} (h : ∀ j, o = some j → j < l.length) : Down l (pastB l o) := by
  cases o with
  | none => intro i j _ _ _ h; cases h
  | some j => exact inC_down (h j rfl)
/-- VECTORS STEP BY STEP: the greater ones of the two right ahead, and one more of its own process. -/
theorem vec_step {l : List Stp} (ok : ClOk l) {k : Nat} (hk : k < l.length) (q : Int) : vecC l k q = max (pastV l (prevC l k) q) (pastV l (srcC l k) q) + (if (stZ l k).p = q then 1 else 0) := by
  have hp : ∀ j, prevC l k = some j → j < k := fun j h => predC_lt (predC_mem.2 (.inl h))
  have hs : ∀ j, srcC l k = some j → j < k := fun j h => predC_lt (predC_mem.2 (.inr h))
  have hpd := pastB_down (l := l) (o := prevC l k) fun j h => by have := hp j h; omega
  have hsd := pastB_down (l := l) (o := srcC l k) fun j h => by have := hs j h; omega
  have hin : ∀ i, i < l.length → inC l k i = (i == k || (pastB l (prevC l k) i || pastB l (srcC l k) i)) := fun i hi => by
    unfold inC
    by_cases e : i = k
    · simp [e]
    · have e1 : (i == k) = false := by simp [e]
      rw [e1, Bool.false_or, Bool.false_or]
      rw [Bool.eq_iff_iff, ahead_pred ok hi hk, Bool.or_eq_true]
      constructor
      · rintro ⟨j, hm, h⟩
        rcases predC_mem.1 hm with g | g
        · left; rw [g]; show inC l j i = true; unfold inC; simpa using h
        · right; rw [g]; show inC l j i = true; unfold inC; simpa using h
      · rintro (h | h)
        · cases g : prevC l k with
          | none => rw [g] at h; cases h
          | some j =>
            rw [g] at h
            have h : inC l j i = true := h
            unfold inC at h
            exact ⟨j, predC_mem.2 (.inl g), by simpa using h⟩
        · cases g : srcC l k with
          | none => rw [g] at h; cases h
          | some j =>
            rw [g] at h
            have h : inC l j i = true := h
            unfold inC at h
            exact ⟨j, predC_mem.2 (.inr g), by simpa using h⟩
  have hnk : (pastB l (prevC l k) k || pastB l (srcC l k) k) = false := by
    have no : ∀ o : Option Nat, (∀ j, o = some j → j < k) → pastB l o k = false := fun o ho => by
      cases o with
      | none => rfl
      | some j =>
        have hj := ho j rfl
        show inC l j k = false
        unfold inC
        rw [show (k == j) = false from by simp; omega, Bool.false_or]
        cases e : aheadC l k j with
        | false => rfl
        | true => have := aheadC_lt hk (by omega) e; omega
    rw [no _ hp, no _ hs]; rfl
  have e1 : vecC l k q = cntC l (fun i => pastB l (prevC l k) i || pastB l (srcC l k) i) q + (if (stZ l k).p = q then 1 else 0) := by
    have hsum : ∀ n, n ≤ l.length → (List.range n).countP (fun i => inC l k i && (stZ l i).p == q) = (List.range n).countP (fun i => (pastB l (prevC l k) i || pastB l (srcC l k) i) && (stZ l i).p == q) + (if k < n ∧ (stZ l k).p = q then 1 else 0) := by
      intro n
      induction n with
      | zero => intro _; simp
      | succ n ih =>
        intro hn
        have ih := ih (by omega)
        rw [List.range_succ, List.countP_append, List.countP_append, List.countP_singleton, List.countP_singleton, ih, hin n (by omega)]
        by_cases e : n = k
        · subst e
          rw [hnk]
          simp only [BEq.rfl, Bool.true_or, Bool.true_and, Bool.false_and, beq_iff_eq, Nat.lt_irrefl, false_and, if_false]
          by_cases eq : (stZ l n).p = q
          · simp [eq]
          · simp [eq]
        · rw [show (n == k) = false from by simp [e], Bool.false_or]
          have : (k < n + 1 ∧ (stZ l k).p = q) ↔ (k < n ∧ (stZ l k).p = q) := ⟨fun h => ⟨by omega, h.2⟩, fun h => ⟨by omega, h.2⟩⟩
          simp only [this]
          omega
    have := hsum l.length (Nat.le_refl _)
    simp only [hk, true_and] at this
    exact this
  rw [e1, cnt_union hpd hsd, pastV_cnt, pastV_cnt]

/-- FIDGE AND MATTERN: ahead just if the vector is less. -/
theorem mattern {l : List Stp} {i k : Nat} (hi : i < l.length) (hk : k < l.length) : aheadC l i k = true ↔ (∀ q, vecC l i q ≤ vecC l k q) ∧ ∃ q, vecC l i q ≠ vecC l k q := by
  have hself : ∀ {j}, inC l j j = true := fun {j} => by unfold inC; simp
  constructor
  · intro h
    have hik := aheadC_lt hi hk h
    have hsub : ∀ j, j < l.length → inC l i j = true → inC l k j = true := fun j hj hin => by
      unfold inC at hin ⊢
      simp only [Bool.or_eq_true, beq_iff_eq] at hin ⊢
      rcases hin with e | e
      · subst e; exact .inr h
      · exact .inr (aheadC_trans hj hi hk e h)
    refine ⟨fun q => cnt_le q fun j hj _ => hsub j hj, (stZ l k).p, fun e => ?_⟩
    have h1 := (rank_in (inC_down hk) hk).1 hself
    have h2 : inC l i k = true := (rank_in (inC_down hi) hk).2 (by unfold vecC at e; omega)
    unfold inC at h2
    simp only [Bool.or_eq_true, beq_iff_eq] at h2
    rcases h2 with e | e
    · omega
    · have := aheadC_lt hk hi e; omega
  · rintro ⟨h, q, hne⟩
    have h1 := (rank_in (inC_down hi) hi).1 hself
    have h2 : inC l k i = true := (rank_in (inC_down hk) hi).2 (by have := h (stZ l i).p; unfold vecC at this; omega)
    unfold inC at h2
    simp only [Bool.or_eq_true, beq_iff_eq] at h2
    rcases h2 with e | e
    · subst e; exact absurd rfl hne
    · exact e

/-! ### cuts -/
def insB (l : List Stp) (c : Int → Int) (i : Nat) : Bool := decide ((rkC l i : Int) ≤ c (stZ l i).p)
def SteadyC (l : List Stp) (c : Int → Int) : Prop := ∀ i k, i < l.length → k < l.length → aheadC l i k = true → insB l c k = true → insB l c i = true
theorem rk_mono {l : List Stp} {i j : Nat} (h : i < j) (hp : (stZ l i).p = (stZ l j).p) : rkC l i < rkC l j := by
  have : rkC l j = (List.range j).countP (fun x => (stZ l x).p == (stZ l j).p) + 1 := by
    unfold rkC
    rw [List.range_succ, List.countP_append, List.countP_singleton]
    simp
  rw [this]
  unfold rkC
  rw [hp, count_split _ (i + 1) j (by omega)]
  omega
theorem insB_down (l : List Stp) (c : Int → Int) : Down l (insB l c) := fun i j hij _ hp h => by
  unfold insB at h ⊢
  simp only [decide_eq_true_eq] at h ⊢
  have := rk_mono hij hp
  rw [hp]; omega
theorem steady_low {l : List Stp} {c d : Int → Int} (h1 : SteadyC l c) (h2 : SteadyC l d) : SteadyC l fun q => min (c q) (d q) := fun i k hi hk ha hin => by
  unfold insB at hin ⊢
  simp only [decide_eq_true_eq] at hin ⊢
  have a := h1 i k hi hk ha (by unfold insB; simp only [decide_eq_true_eq]; omega)
  have b := h2 i k hi hk ha (by unfold insB; simp only [decide_eq_true_eq]; omega)
  unfold insB at a b
  simp only [decide_eq_true_eq] at a b
  omega
theorem steady_high {l : List Stp} {c d : Int → Int} (h1 : SteadyC l c) (h2 : SteadyC l d) : SteadyC l fun q => max (c q) (d q) := fun i k hi hk ha hin => by
  unfold insB at hin ⊢
  simp only [decide_eq_true_eq] at hin ⊢
  by_cases g : (rkC l k : Int) ≤ c (stZ l k).p
  · have a := h1 i k hi hk ha (by unfold insB; simpa using g)
    unfold insB at a
    simp only [decide_eq_true_eq] at a
    omega
  · have b := h2 i k hi hk ha (by unfold insB; simp only [decide_eq_true_eq]; omega)
    unfold insB at b
    simp only [decide_eq_true_eq] at b
    omega
/-- What is in a cut with all that is ahead of it. -/
def deepB (l : List Stp) (c : Int → Int) (k : Nat) : Bool := insB l c k && (List.range l.length).all fun i => !aheadC l i k || insB l c i
def belC (l : List Stp) (c : Int → Int) (q : Int) : Nat := cntC l (deepB l c) q
theorem deepB_iff {l : List Stp} {c : Int → Int} {k : Nat} : deepB l c k = true ↔ insB l c k = true ∧ ∀ i, i < l.length → aheadC l i k = true → insB l c i = true := by
  unfold deepB
  simp only [Bool.and_eq_true, List.all_eq_true, List.mem_range, Bool.or_eq_true, Bool.not_eq_true']
  constructor
  · rintro ⟨h1, h2⟩
    refine ⟨h1, fun i hi ha => ?_⟩
    rcases h2 i hi with h | h
    · rw [ha] at h; cases h
    · exact h
  · rintro ⟨h1, h2⟩
    refine ⟨h1, fun i hi => ?_⟩
    cases e : aheadC l i k with
    | false => exact .inl rfl
    | true => exact .inr (h2 i hi e)
theorem deep_ahead {l : List Stp} {c : Int → Int} {i k : Nat} (hi : i < l.length) (hk : k < l.length) (ha : aheadC l i k = true) (h : deepB l c k = true) : deepB l c i = true := by
  obtain ⟨_, h2⟩ := deepB_iff.1 h
  exact deepB_iff.2 ⟨h2 i hi ha, fun j hj hb => h2 j hj (aheadC_trans hj hi hk hb ha)⟩
theorem deep_down (l : List Stp) (c : Int → Int) : Down l (deepB l c) := fun _ _ hij hj hp h => deep_ahead (by omega) hj (aheadC_own hij hj hp) h
theorem deep_rank {l : List Stp} {c : Int → Int} {i : Nat} (hi : i < l.length) : insB l (fun q => (belC l c q : Int)) i = deepB l c i := by
  rw [Bool.eq_iff_iff, rank_in (deep_down l c) hi]
  unfold insB belC
  simp only [decide_eq_true_eq]
  omega
/-- THE GREATEST CUT BELOW MAY BE SEEN. -/
theorem below_steady (l : List Stp) (c : Int → Int) : SteadyC l fun q => (belC l c q : Int) := fun i k hi hk ha h => by
  rw [deep_rank hi]
  rw [deep_rank hk] at h
  exact deep_ahead hi hk ha h
/-- The last one of what is closed has the greatest number. -/
theorem cnt_last {l : List Stp} {S : Nat → Bool} (hd : Down l S) (q : Int) : cntC l S q = 0 ∨ ∃ i, i < l.length ∧ (stZ l i).p = q ∧ S i = true ∧ rkC l i = cntC l S q := by
  have key : ∀ n, n ≤ l.length → (List.range n).countP (fun i => S i && (stZ l i).p == q) = 0 ∨ ∃ i, i < n ∧ (stZ l i).p = q ∧ S i = true ∧ rkC l i = (List.range n).countP (fun i => S i && (stZ l i).p == q) := by
    intro n
    induction n with
    | zero => intro _; exact .inl rfl
    | succ n ih =>
      intro hn
      rw [List.range_succ, List.countP_append, List.countP_singleton]
      cases e : (S n && (stZ l n).p == q) with
      | false =>
        simp only [Bool.false_eq_true, if_false, Nat.add_zero]
        rcases ih (by omega) with h | ⟨i, hi, h⟩
        · exact .inl h
        · exact .inr ⟨i, by omega, h⟩
      | true =>
        simp only [Bool.and_eq_true, beq_iff_eq] at e
        refine .inr ⟨n, by omega, e.2, e.1, ?_⟩
        unfold rkC
        rw [List.range_succ, List.countP_append, List.countP_singleton, e.2]
        simp only [BEq.rfl, if_true]
        congr 1
        refine count_congr fun j hj => ?_
        by_cases ej : (stZ l j).p = q
        · have := hd j n hj (by omega) (ej.trans e.2.symm) e.1
          simp [ej, this]
        · simp [ej]
  exact key l.length (Nat.le_refl _)
theorem below_le {l : List Stp} {c : Int → Int} {q : Int} (hc : 0 ≤ c q) : (belC l c q : Int) ≤ c q := by
  rcases cnt_last (deep_down l c) q with h | ⟨i, hi, hp, hs, h⟩
  · unfold belC; omega
  · have := (deepB_iff.1 hs).1
    unfold insB at this
    simp only [decide_eq_true_eq] at this
    rw [hp] at this
    unfold belC; omega
def allC (l : List Stp) (q : Int) : Nat := cntC l (fun _ => true) q
theorem ins_count {l : List Stp} {d : Int → Int} {q : Int} (h0 : 0 ≤ d q) (h1 : d q ≤ allC l q) : (cntC l (insB l d) q : Int) = d q := by
  have hall : Down l fun _ => true := fun _ _ _ _ _ _ => rfl
  have hle : (cntC l (insB l d) q : Int) ≤ d q := by
    rcases cnt_last (insB_down l d) q with h | ⟨i, hi, hp, hs, h⟩
    · omega
    · unfold insB at hs
      simp only [decide_eq_true_eq] at hs
      rw [hp] at hs; omega
  rcases Nat.lt_or_ge (cntC l (insB l d) q) (d q).toNat with hlt | hge
  · exfalso
    -- the next one would be in it
    have hone : ∀ n, n ≤ l.length → ∀ r, r < (List.range n).countP (fun i => (stZ l i).p == q) → ∃ i, i < n ∧ (stZ l i).p = q ∧ rkC l i = r + 1 := by
      intro n
      induction n with
      | zero => intro _ r hr; simp at hr
      | succ n ih =>
        intro hn r hr
        rw [List.range_succ, List.countP_append, List.countP_singleton] at hr
        by_cases e : (stZ l n).p = q
        · simp only [e, BEq.rfl, if_true] at hr
          by_cases er : r < (List.range n).countP (fun i => (stZ l i).p == q)
          · obtain ⟨i, hi, h⟩ := ih (by omega) r er
            exact ⟨i, by omega, h⟩
          · refine ⟨n, by omega, e, ?_⟩
            unfold rkC
            rw [List.range_succ, List.countP_append, List.countP_singleton, e]
            simp only [BEq.rfl, if_true]
            omega
        · simp only [show ((stZ l n).p == q) = false from by simp [e], Bool.false_eq_true, if_false, Nat.add_zero] at hr
          obtain ⟨i, hi, h⟩ := ih (by omega) r hr
          exact ⟨i, by omega, h⟩
    have hr : cntC l (insB l d) q < (List.range l.length).countP (fun i => (stZ l i).p == q) := by
      have : allC l q = (List.range l.length).countP (fun i => (stZ l i).p == q) := by unfold allC cntC; exact count_congr fun i _ => by simp
      omega
    obtain ⟨i, hi, hp, hk⟩ := hone l.length (Nat.le_refl _) _ hr
    have hin : insB l d i = true := by unfold insB; simp only [decide_eq_true_eq]; rw [hp]; omega
    have := (rank_in (insB_down l d) hi).1 hin
    rw [hp] at this; omega
  · omega
/-- THE GREATEST: each cut below that may be seen lies in it. -/
theorem below_greatest {l : List Stp} {c d : Int → Int} (hd : SteadyC l d) (hle : ∀ q, d q ≤ c q) {q : Int} (h0 : 0 ≤ d q) (h1 : d q ≤ allC l q) : d q ≤ (belC l c q : Int) := by
  rw [← ins_count h0 h1]
  have : cntC l (insB l d) q ≤ belC l c q := cnt_le q fun i hi _ hs => by
    have up : ∀ {j}, insB l d j = true → insB l c j = true := fun {j} h => by
      unfold insB at h ⊢
      simp only [decide_eq_true_eq] at h ⊢
      have := hle (stZ l j).p
      omega
    exact deepB_iff.2 ⟨up hs, fun j hj ha => up (hd j i hj hi ha hs)⟩
  omega
/-- A cut may be seen just if it is the greatest one below itself. -/
theorem steady_below {l : List Stp} {c : Int → Int} (h : ∀ q, 0 ≤ c q ∧ c q ≤ allC l q) : SteadyC l c ↔ ∀ q, (belC l c q : Int) = c q := by
  constructor
  · intro hs q
    have a := below_le (l := l) (h q).1
    have b := below_greatest hs (c := c) (fun q => Int.le_refl _) (h q).1 (h q).2
    omega
  · intro he
    have := below_steady l c
    have e : (fun q => (belC l c q : Int)) = c := funext he
    rwa [e] at this
end Go.Proofs.YtmonbkoelehdlaaDoor
