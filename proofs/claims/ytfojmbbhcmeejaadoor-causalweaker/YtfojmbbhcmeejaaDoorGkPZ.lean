/-
  Gibbons and Korach in plain Lean: calls and returns of ops that write values, each once, or read them: there is an order that keeps time, and in which each reads what was written last, just if no read comes back ahead of its write's call, and no two values are each ahead of the other one.
  What can't be of a queue, in plain Lean: calls and returns of ops that push values, each once, or pop them: there is an order that keeps time, and in which each pops what was pushed first of what is left, just if nothing is popped that isn't pushed, nothing twice, nothing ahead of its push, and no two values cross.
  An order of a queue's ops is made where none of the four is found: the values one behind the other, each push and pop at a time between its call and its return.
-/
import Derived.WalkKit
namespace Go.Proofs.YtfojmbbhcmeejaaDoor

/-- Ops: how many, their calls and returns, which write, what each writes or reads. -/
structure Rg where
  n : Nat
  c : Nat → Int
  e : Nat → Int
  w : Nat → Bool
  v : Nat → Int

structure Rg.Ok (g : Rg) : Prop where
  few : g.n ≤ 64
  pos : ∀ i, i < g.n → 0 ≤ g.c i ∧ g.c i < g.e i
  rise : ∀ i j, i < j → j < g.n → g.c i < g.c j
  own : ∀ i j, i < g.n → j < g.n → g.e i ≠ g.c j
  num : ∀ i, i < g.n → -1000000 ≤ g.v i ∧ g.v i ≤ 1000000
  once : ∀ i j, i < g.n → j < g.n → g.w i = true → g.w j = true → g.v i = g.v j → i = j
  some : ∀ i, i < g.n → g.w i = true → g.v i ≠ 0

/-- No read comes back ahead of its write's call. -/
def Rg.Src (g : Rg) : Prop := ∀ i, i < g.n → g.w i = false → g.v i ≠ 0 → ∃ j, j < g.n ∧ g.w j = true ∧ g.v j = g.v i ∧ g.c j ≤ g.e i
/-- No two values are each ahead of the other one (0 is ahead of all). -/
structure Rg.Apart (g : Rg) : Prop where
  two : ∀ i j k l, i < g.n → j < g.n → k < g.n → l < g.n → g.v i = g.v l → g.v j = g.v k → g.v i ≠ g.v j → ¬ (g.e i < g.c j ∧ g.e k < g.c l)
  nought : ∀ k l, k < g.n → l < g.n → g.v k ≠ 0 → g.v l = 0 → ¬ g.e k < g.c l

/-- What is told last ahead of a place. -/
def Rg.at (g : Rg) (ord : List Nat) : Nat → Int
  | 0 => 0
  | p + 1 => g.v (ord.getD p 0)
structure Rg.Good (g : Rg) (ord : List Nat) : Prop where
  perm : ord.Perm (List.range g.n)
  time : ∀ p q, p < q → q < ord.length → ¬ g.e (ord.getD q 0) < g.c (ord.getD p 0)
  last : ∀ p, p < ord.length → g.w (ord.getD p 0) = false → g.v (ord.getD p 0) = g.at ord p

theorem Rg.Good.len {g : Rg} {ord : List Nat} (h : g.Good ord) : ord.length = g.n := by simpa using h.perm.length_eq
theorem Rg.Good.lt {g : Rg} {ord : List Nat} (h : g.Good ord) {p : Nat} (hp : p < ord.length) : ord.getD p 0 < g.n := by
  have : ord.getD p 0 ∈ ord := by rw [List.getD_eq_getElem?_getD, List.getElem?_eq_getElem hp]; exact List.getElem_mem hp
  exact List.mem_range.1 (h.perm.mem_iff.1 this)
theorem Rg.Good.place {g : Rg} {ord : List Nat} (h : g.Good ord) {i : Nat} (hi : i < g.n) : ∃ p, p < ord.length ∧ ord.getD p 0 = i := by
  obtain ⟨p, hp, e⟩ := List.getElem_of_mem (h.perm.mem_iff.2 (List.mem_range.2 hi))
  exact ⟨p, hp, by rw [List.getD_eq_getElem?_getD, List.getElem?_eq_getElem hp]; exact e⟩
theorem Rg.Good.inj {g : Rg} {ord : List Nat} (h : g.Good ord) {p q : Nat} (hp : p < ord.length) (hq : q < ord.length) (e : ord.getD p 0 = ord.getD q 0) : p = q := by
  have hd : ord.Nodup := h.perm.nodup_iff.2 List.nodup_range
  simp only [List.getD_eq_getElem?_getD, List.getElem?_eq_getElem hp, List.getElem?_eq_getElem hq, Option.getD_some] at e
  rcases Nat.lt_trichotomy p q with hl | hl | hl
  · exact absurd e ((List.pairwise_iff_getElem.1 hd) p q hp hq hl)
  · exact hl
  · exact absurd e.symm ((List.pairwise_iff_getElem.1 hd) q p hq hp hl)

section
variable {g : Rg} {ord : List Nat}

theorem gk_nought (ok : g.Ok) (h : g.Good ord) : ∀ p, p < ord.length → g.v (ord.getD p 0) = 0 → ∀ t, t ≤ p → g.v (ord.getD t 0) = 0
  | p, hp, e, t, ht => by
    by_cases htp : t = p
    · rw [htp]; exact e
    · cases p with
      | zero => omega
      | succ p =>
        have hw : g.w (ord.getD (p + 1) 0) = false := by
          cases hw : g.w (ord.getD (p + 1) 0) with
          | false => rfl
          | true => exact absurd e (ok.some _ (h.lt hp) hw)
        have := h.last (p + 1) hp hw
        rw [e] at this
        exact gk_nought ok h p (by omega) this.symm t (by omega)

theorem gk_block (ok : g.Ok) (h : g.Good ord) : ∀ p, p < ord.length → g.v (ord.getD p 0) ≠ 0 →
    ∃ q, q ≤ p ∧ g.w (ord.getD q 0) = true ∧ ∀ t, q ≤ t → t ≤ p → g.v (ord.getD t 0) = g.v (ord.getD p 0)
  | p, hp, hne => by
    cases hw : g.w (ord.getD p 0) with
    | true => exact ⟨p, Nat.le_refl _, hw, fun t h1 h2 => by rw [Nat.le_antisymm h2 h1]⟩
    | false =>
      have hl := h.last p hp hw
      cases p with
      | zero => exact absurd hl hne
      | succ p =>
        have hl : g.v (ord.getD (p + 1) 0) = g.v (ord.getD p 0) := hl
        obtain ⟨q, hq, hwq, ha⟩ := gk_block ok h p (by omega) (by rw [← hl]; exact hne)
        refine ⟨q, by omega, hwq, fun t h1 h2 => ?_⟩
        by_cases e : t = p + 1
        · rw [e]
        · rw [ha t h1 (by omega), hl]

theorem gk_between (ok : g.Ok) (h : g.Good ord) {p t p' : Nat} (hp' : p' < ord.length) (e : g.v (ord.getD p 0) = g.v (ord.getD p' 0)) (h1 : p ≤ t) (h2 : t ≤ p') : g.v (ord.getD t 0) = g.v (ord.getD p 0) := by
  by_cases h0 : g.v (ord.getD p' 0) = 0
  · rw [e, h0]; exact gk_nought ok h p' hp' h0 t h2
  · obtain ⟨q, hq, hw, ha⟩ := gk_block ok h p (by omega) (by rw [e]; exact h0)
    obtain ⟨q', hq', hw', ha'⟩ := gk_block ok h p' hp' h0
    have e1 := ha q (Nat.le_refl _) hq
    have e2 := ha' q' (Nat.le_refl _) hq'
    have : ord.getD q 0 = ord.getD q' 0 := ok.once _ _ (h.lt (by omega)) (h.lt (by omega)) hw hw' (by rw [e1, e2, e])
    have : q = q' := h.inj (by omega) (by omega) this
    rw [ha' t (by omega) h2, e]

theorem gk_ahead (ok : g.Ok) (h : g.Good ord) {p q : Nat} (hp : p < ord.length) (hq : q < ord.length) (hb : g.e (ord.getD p 0) < g.c (ord.getD q 0)) : p < q := by
  rcases Nat.lt_trichotomy p q with hl | hl | hl
  · exact hl
  · subst hl; have := ok.pos _ (h.lt hp); omega
  · exact absurd hb (h.time q p hl hp)

/-- AN ORDER KEEPS ALL. -/
theorem gk_only (ok : g.Ok) (h : g.Good ord) : g.Src ∧ g.Apart := by
  refine ⟨?_, ?_, ?_⟩
  · intro i hi hw hne
    obtain ⟨p, hp, rfl⟩ := h.place hi
    obtain ⟨q, hq, hwq, ha⟩ := gk_block ok h p hp hne
    refine ⟨_, h.lt (by omega), hwq, ha q (Nat.le_refl _) hq, ?_⟩
    have : q ≠ p := by intro e; subst e; rw [hw] at hwq; cases hwq
    have := h.time q p (by omega) hp
    omega
  · intro i j k l hi hj hk hl e1 e2 hne ⟨b1, b2⟩
    obtain ⟨pi, hpi, rfl⟩ := h.place hi
    obtain ⟨pj, hpj, rfl⟩ := h.place hj
    obtain ⟨pk, hpk, rfl⟩ := h.place hk
    obtain ⟨pl, hpl, rfl⟩ := h.place hl
    have h1 := gk_ahead ok h hpi hpj b1
    have h2 := gk_ahead ok h hpk hpl b2
    by_cases hc : pi ≤ pk
    · exact hne (by rw [e2]; exact (gk_between ok h hpl e1 hc (by omega)).symm)
    · exact hne (by rw [gk_between ok h hpj e2.symm (p := pk) (t := pi) (by omega) (by omega), e2])
  · intro k l hk hl hne e b
    obtain ⟨pk, hpk, rfl⟩ := h.place hk
    obtain ⟨pl, hpl, rfl⟩ := h.place hl
    have h2 := gk_ahead ok h hpk hpl b
    exact hne (gk_nought ok h pl hpl e pk (by omega))
end

/-! ### an order is made -/

theorem least_of (f : Nat → Int) (p : Nat → Prop) : ∀ n, (∃ i, i < n ∧ p i) → ∃ i, i < n ∧ p i ∧ ∀ j, j < n → p j → f i ≤ f j
  | 0, ⟨i, hi, _⟩ => by omega
  | n + 1, ⟨i, hi, hp⟩ => by
    by_cases hx : ∃ i, i < n ∧ p i
    · obtain ⟨a, ha, hpa, hl⟩ := least_of f p n hx
      by_cases hn : p n ∧ f n < f a
      · refine ⟨n, by omega, hn.1, fun j hj hpj => ?_⟩
        by_cases e : j = n
        · rw [e]; exact Int.le_refl _
        · have := hl j (by omega) hpj; omega
      · refine ⟨a, by omega, hpa, fun j hj hpj => ?_⟩
        by_cases e : j = n
        · subst e; by_cases hlt : f j < f a
          · exact absurd ⟨hpj, hlt⟩ hn
          · omega
        · exact hl j (by omega) hpj
    · have : i = n := by
        by_cases e : i = n
        · exact e
        · exact absurd ⟨i, by omega, hp⟩ hx
      subst this
      exact ⟨i, by omega, hp, fun j hj hpj => by
        by_cases e : j = i
        · rw [e]; exact Int.le_refl _
        · exact absurd ⟨j, by omega, hpj⟩ hx⟩

/-- The least return, the greatest call of each value's ops. -/
theorem edges_of (g : Rg) : ∃ E B : Int → Int, ∀ i, i < g.n →
    (∃ j, j < g.n ∧ g.v j = g.v i ∧ g.e j = E (g.v i)) ∧ E (g.v i) ≤ g.e i ∧ (∃ j, j < g.n ∧ g.v j = g.v i ∧ g.c j = B (g.v i)) ∧ g.c i ≤ B (g.v i) := by
  have h1 : ∀ A : Int, ∃ m : Int, (∃ i, i < g.n ∧ g.v i = A) → (∃ j, j < g.n ∧ g.v j = A ∧ g.e j = m) ∧ ∀ i, i < g.n → g.v i = A → m ≤ g.e i := by
    intro A
    by_cases hx : ∃ i, i < g.n ∧ g.v i = A
    · obtain ⟨i, hi, e, hl⟩ := least_of g.e (fun i => g.v i = A) g.n hx
      exact ⟨g.e i, fun _ => ⟨⟨i, hi, e, rfl⟩, hl⟩⟩
    · exact ⟨0, fun h => absurd h hx⟩
  have h2 : ∀ A : Int, ∃ m : Int, (∃ i, i < g.n ∧ g.v i = A) → (∃ j, j < g.n ∧ g.v j = A ∧ g.c j = m) ∧ ∀ i, i < g.n → g.v i = A → g.c i ≤ m := by
    intro A
    by_cases hx : ∃ i, i < g.n ∧ g.v i = A
    · obtain ⟨i, hi, e, hl⟩ := least_of (fun i => -g.c i) (fun i => g.v i = A) g.n hx
      exact ⟨g.c i, fun _ => ⟨⟨i, hi, e, rfl⟩, fun j hj ej => by have := hl j hj ej; omega⟩⟩
    · exact ⟨0, fun h => absurd h hx⟩
  refine ⟨fun A => Classical.choose (h1 A), fun A => Classical.choose (h2 A), fun i hi => ?_⟩
  have a := Classical.choose_spec (h1 (g.v i)) ⟨i, hi, rfl⟩
  have b := Classical.choose_spec (h2 (g.v i)) ⟨i, hi, rfl⟩
  exact ⟨a.1, a.2 i hi rfl, b.1, b.2 i hi rfl⟩

theorem sorted_of (key : Nat → Int) (n : Nat) : ∃ ord : List Nat, ord.Perm (List.range n) ∧ ∀ p q, p < q → q < ord.length → key (ord.getD p 0) ≤ key (ord.getD q 0) := by
  refine ⟨(List.range n).mergeSort (fun a b => decide (key a ≤ key b)), List.mergeSort_perm _ _, fun p q hpq hq => ?_⟩
  have hs : ((List.range n).mergeSort (fun a b => decide (key a ≤ key b))).Pairwise (fun a b => decide (key a ≤ key b) = true) :=
    List.pairwise_mergeSort (fun a b c h1 h2 => by simp only [decide_eq_true_eq] at *; omega) (fun a b => by simp only [Bool.or_eq_true, decide_eq_true_eq]; omega) _
  have hp := Nat.lt_trans hpq hq
  have := (List.pairwise_iff_getElem.1 hs) p q hp hq hpq
  simpa [List.getD_eq_getElem?_getD, List.getElem?_eq_getElem hq, List.getElem?_eq_getElem hp] using this

theorem key_mid {t1 t2 v1 v2 f : Int} {j a b : Nat} (h1 : -1000000 ≤ v1 ∧ v1 ≤ 1000000) (h2 : -1000000 ≤ v2 ∧ v2 ≤ 1000000) (hf : 0 ≤ f ∧ f ≤ 1) (hj : j < 64) (ha : a < 64) (hb : b < 64)
    (k1 : ((t1 * 4000001 + v1) * 2 + 0) * 64 + (j : Int) ≤ ((t2 * 4000001 + v2) * 2 + f) * 64 + b) (k2 : ((t2 * 4000001 + v2) * 2 + f) * 64 + (b : Int) ≤ ((t1 * 4000001 + v1) * 2 + 1) * 64 + a) : v1 = v2 := by
  have e : t1 * 4000001 + v1 = t2 * 4000001 + v2 := by omega
  have : t1 = t2 := by omega
  omega

/-- THE ORDER THAT IS MADE. -/
theorem gk_if {g : Rg} (ok : g.Ok) (hs : g.Src) (ha : g.Apart) : ∃ ord, g.Good ord := by
  obtain ⟨E, B, hEB⟩ := edges_of g
  -- the farthest edge of a value
  let T : Int → Int := fun A => if A = 0 then -1 else max (E A) (B A)
  -- 0's calls come ahead of all other returns
  have hcross : ∀ a b, a < g.n → b < g.n → g.v a ≠ 0 → g.v b ≠ 0 → g.v a ≠ g.v b → g.e b < g.c a → T (g.v b) < T (g.v a) := by
    intro a b hla hlb h0a h0b hne hbe
    obtain ⟨⟨i, hi, vi, ei⟩, hEa, _, hBa⟩ := hEB a hla
    obtain ⟨_, hEb, ⟨j, hj, vj, cj⟩, hBb⟩ := hEB b hlb
    have h1 := ha.two i j b a hi hj hlb hla vi vj (by rw [vi, vj]; exact hne)
    have h2 := ok.own i j hi hj
    simp only [T, if_neg h0a, if_neg h0b]
    have : ¬ g.e i < g.c j := fun h => h1 ⟨h, hbe⟩
    omega
  have hT0 : ∀ b, b < g.n → g.v b ≠ 0 → (0 : Int) ≤ T (g.v b) := by
    intro b hlb h0
    obtain ⟨_, _, _, hBb⟩ := hEB b hlb
    have := ok.pos b hlb
    simp only [T, if_neg h0]
    omega
  have hTle : ∀ b, b < g.n → g.v b ≠ 0 → ∃ j, j < g.n ∧ (T (g.v b) = g.e j ∨ T (g.v b) = g.c j) := by
    intro b hlb h0
    obtain ⟨⟨i, hi, _, ei⟩, _, ⟨j, hj, _, cj⟩, _⟩ := hEB b hlb
    simp only [T, if_neg h0]
    by_cases hm : E (g.v b) ≤ B (g.v b)
    · exact ⟨j, hj, .inr (by omega)⟩
    · exact ⟨i, hi, .inl (by omega)⟩
  let key : Nat → Int := fun i => ((T (g.v i) * 4000001 + g.v i) * 2 + (if g.w i = true then 0 else 1)) * 64 + i
  have hkT : ∀ a b, a < g.n → b < g.n → T (g.v a) < T (g.v b) → key a < key b := by
    intro a b hla hlb h
    have := ok.num a hla; have := ok.num b hlb; have := ok.few
    simp only [key]
    split <;> split <;> omega
  obtain ⟨ord, hp, hsort⟩ := sorted_of key g.n
  have hmem : ∀ p, p < ord.length → ord.getD p 0 < g.n := fun p hpl => by
    have : ord.getD p 0 ∈ ord := by rw [List.getD_eq_getElem?_getD, List.getElem?_eq_getElem hpl]; exact List.getElem_mem hpl
    exact List.mem_range.1 (hp.mem_iff.1 this)
  have hinj : ∀ p q, p < q → q < ord.length → ord.getD p 0 ≠ ord.getD q 0 := fun p q hpq hq => by
    have hd : ord.Nodup := hp.nodup_iff.2 List.nodup_range
    have hp := Nat.lt_trans hpq hq
    have := (List.pairwise_iff_getElem.1 hd) p q hp hq hpq
    simpa [List.getD_eq_getElem?_getD, List.getElem?_eq_getElem hq, List.getElem?_eq_getElem hp] using this
  refine ⟨ord, hp, ?_, ?_⟩
  · intro p q hpq hq hb
    have hla := hmem p (by omega); have hlb := hmem q hq
    have hk := hsort p q hpq hq
    have hne := hinj p q hpq hq
    generalize ord.getD p 0 = a at *
    generalize ord.getD q 0 = b at *
    by_cases h0a : g.v a = 0
    · by_cases h0b : g.v b = 0
      · -- both tell 0: neither writes
        have hwa : g.w a = false := by cases h : g.w a with | false => rfl | true => exact absurd h0a (ok.some a hla h)
        have hwb : g.w b = false := by cases h : g.w b with | false => rfl | true => exact absurd h0b (ok.some b hlb h)
        have : b < a := by
          rcases Nat.lt_trichotomy a b with h | h | h
          · have := ok.rise a b h hlb; have := ok.pos b hlb; omega
          · exact absurd h hne
          · exact h
        simp only [key, h0a, h0b, hwa, hwb] at hk
        omega
      · exact ha.nought b a hlb hla h0b h0a hb
    · by_cases h0b : g.v b = 0
      · have h1 := hT0 a hla h0a
        have h2 : T (g.v b) = -1 := by simp only [T, if_pos h0b]
        have := hkT b a hlb hla (by omega)
        omega
      · by_cases hv : g.v a = g.v b
        · have hlt : b < a := by
            rcases Nat.lt_trichotomy a b with h | h | h
            · have := ok.rise a b h hlb; have := ok.pos b hlb; omega
            · exact absurd h hne
            · exact h
          cases hwa : g.w a with
          | true =>
            cases hwb : g.w b with
            | true => exact hne (ok.once a b hla hlb hwa hwb hv)
            | false =>
              obtain ⟨j, hj, hwj, hvj, hcj⟩ := hs b hlb hwb h0b
              have : j = a := ok.once j a hj hla hwj hwa (by rw [hvj, hv])
              subst this
              omega
          | false =>
            simp only [key, hv, hwa] at hk
            cases hwb : g.w b with
            | true => simp only [hwb] at hk; have := ok.few; simp at hk; omega
            | false => simp only [hwb] at hk; simp at hk; omega
        · have := hkT b a hlb hla (hcross a b hla hlb h0a h0b hv hb)
          omega
  · intro p hpl hw
    have hla := hmem p hpl
    cases p with
    | zero =>
      show _ = (0 : Int)
      by_cases h0 : g.v (ord.getD 0 0) = 0
      · exact h0
      · exfalso
        obtain ⟨j, hj, hwj, hvj, _⟩ := hs _ hla hw h0
        obtain ⟨q, hq, e⟩ : ∃ q, q < ord.length ∧ ord.getD q 0 = j := by
          obtain ⟨q, hq, e⟩ := List.getElem_of_mem (hp.mem_iff.2 (List.mem_range.2 hj))
          exact ⟨q, hq, by rw [List.getD_eq_getElem?_getD, List.getElem?_eq_getElem hq]; exact e⟩
        have hq0 : q ≠ 0 := by intro e0; subst e0; rw [e, hwj] at hw; cases hw
        have := hsort 0 q (by omega) hq
        rw [e] at this
        simp only [key, hvj, hwj, hw, if_true] at this
        have := ok.few
        rw [if_neg (by decide)] at *
        omega
    | succ p =>
      show _ = g.v (ord.getD p 0)
      have hlb := hmem p (by omega)
      have hk := hsort p (p + 1) (by omega) hpl
      by_cases h0 : g.v (ord.getD (p + 1) 0) = 0
      · rw [h0]
        by_cases h0b : g.v (ord.getD p 0) = 0
        · exact h0b.symm
        · exfalso
          have h1 := hT0 _ hlb h0b
          have h2 : T (g.v (ord.getD (p + 1) 0)) = -1 := by simp only [T, if_pos h0]
          have := hkT _ _ hla hlb (by omega)
          omega
      · obtain ⟨j, hj, hwj, hvj, _⟩ := hs _ hla hw h0
        obtain ⟨q, hq, e⟩ : ∃ q, q < ord.length ∧ ord.getD q 0 = j := by
          obtain ⟨q, hq, e⟩ := List.getElem_of_mem (hp.mem_iff.2 (List.mem_range.2 hj))
          exact ⟨q, hq, by rw [List.getD_eq_getElem?_getD, List.getElem?_eq_getElem hq]; exact e⟩
        have hfew := ok.few
        have hqp : q ≤ p := by
          by_cases hqp : q ≤ p
          · exact hqp
          · exfalso
            have hne : q ≠ p + 1 := by intro e0; subst e0; rw [e, hwj] at hw; cases hw
            have := hsort (p + 1) q (by omega) hq
            rw [e] at this
            simp only [key, hvj, hwj, hw] at this
            simp at this
            omega
        have hjp : key j ≤ key (ord.getD p 0) := by
          by_cases e0 : q = p
          · subst e0; rw [e]; exact Int.le_refl _
          · have := hsort q p (by omega) (by omega); rwa [e] at this
        have hn1 := ok.num _ hla
        have hn2 := ok.num _ hlb
        have hf : (0 : Int) ≤ (if g.w (ord.getD p 0) = true then 0 else 1) ∧ (if g.w (ord.getD p 0) = true then (0 : Int) else 1) ≤ 1 := by split <;> omega
        refine key_mid hn1 hn2 hf (show j < 64 by omega) (show ord.getD (p + 1) 0 < 64 by omega) (show ord.getD p 0 < 64 by omega) (t1 := T (g.v (ord.getD (p + 1) 0))) (t2 := T (g.v (ord.getD p 0))) ?_ ?_
        · simpa only [key, hvj, hwj, if_true] using hjp
        · have hk1 : key (ord.getD (p + 1) 0) = ((T (g.v (ord.getD (p + 1) 0)) * 4000001 + g.v (ord.getD (p + 1) 0)) * 2 + 1) * 64 + (ord.getD (p + 1) 0 : Nat) := by
            simp only [key, hw]; rfl
          rw [← hk1]; exact hk

end Go.Proofs.YtfojmbbhcmeejaaDoor

namespace Go.Proofs.YtfojmbbhcmeejaaDoor

/-- Of a queue: w tells who pushes. -/
structure Rg.QOk (g : Rg) : Prop where
  few : g.n ≤ 64
  pos : ∀ i, i < g.n → 0 ≤ g.c i ∧ g.c i < g.e i
  num : ∀ i, i < g.n → g.e i ≤ 1000000
  own : ∀ i j, i < g.n → j < g.n → g.e i ≠ g.c j
  once : ∀ i j, i < g.n → j < g.n → g.w i = true → g.w j = true → g.v i = g.v j → i = j

structure Rg.Fine (g : Rg) : Prop where
  thin : ∀ i, i < g.n → g.w i = false → ∃ j, j < g.n ∧ g.w j = true ∧ g.v j = g.v i
  twice : ∀ i k, i < g.n → k < g.n → g.w i = false → g.w k = false → g.v i = g.v k → i = k
  early : ∀ i j, i < g.n → j < g.n → g.w i = false → g.w j = true → g.v i = g.v j → ¬ g.e i < g.c j
  crossed : ∀ a b q, a < g.n → b < g.n → q < g.n → g.w a = true → g.w b = true → g.w q = false → g.v q = g.v b → g.e a < g.c b →
    ∃ x, x < g.n ∧ g.w x = false ∧ g.v x = g.v a ∧ ¬ g.e q < g.c x

/-- What is done one behind the other leaves this in the queue. -/
inductive Rg.Fifo (g : Rg) : List Nat → List Int → Prop
  | nil : Rg.Fifo g [] []
  | push {l st i} : Rg.Fifo g l st → g.w i = true → Rg.Fifo g (l ++ [i]) (st ++ [g.v i])
  | pop {l st i} : Rg.Fifo g l (g.v i :: st) → g.w i = false → Rg.Fifo g (l ++ [i]) st

structure Rg.QGood (g : Rg) (ord : List Nat) : Prop where
  perm : ord.Perm (List.range g.n)
  time : ∀ p q, (hpq : p < q) → (hq : q < ord.length) → ¬ g.e ord[q] < g.c (ord[p]'(Nat.lt_trans hpq hq))
  fifo : ∃ st, g.Fifo ord st

def Rg.ins (g : Rg) (l : List Nat) : List Int := (l.filter g.w).map g.v
def Rg.outs (g : Rg) (l : List Nat) : List Int := (l.filter fun i => !g.w i).map g.v

section
variable {g : Rg} {ord : List Nat}

theorem fifo_sum {l : List Nat} {st : List Int} (h : g.Fifo l st) : g.ins l = g.outs l ++ st := by
  induction h with
  | nil => rfl
  | @push l st i _ hw ih => simp only [Rg.ins, Rg.outs] at *; simp [List.filter_append, hw, ih]
  | @pop l st i _ hw ih => simp only [Rg.ins, Rg.outs] at *; simp [List.filter_append, hw, ih]

theorem fifo_at {l : List Nat} {st : List Int} (h : g.Fifo l st) : ∀ p, (hp : p < l.length) → g.w l[p] = false → ∃ s, g.Fifo (l.take p) (g.v l[p] :: s) := by
  induction h with
  | nil => intro p hp; simp at hp
  | @push l st i _ hw ih =>
    intro p hp hf
    by_cases hpl : p < l.length
    · have e : (l ++ [i])[p]'hp = l[p] := List.getElem_append_left hpl
      rw [e] at hf ⊢
      rw [List.take_append_of_le_length (by omega)]
      exact ih p hpl hf
    · have : p = l.length := by simp at hp; omega
      subst this
      have e : (l ++ [i])[l.length]'hp = i := by simp
      rw [e, hw] at hf; cases hf
  | @pop l st i h0 hw ih =>
    intro p hp hf
    by_cases hpl : p < l.length
    · have e : (l ++ [i])[p]'hp = l[p] := List.getElem_append_left hpl
      rw [e] at hf ⊢
      rw [List.take_append_of_le_length (by omega)]
      exact ih p hpl hf
    · have : p = l.length := by simp at hp; omega
      subst this
      have e : (l ++ [i])[l.length]'hp = i := by simp
      rw [e]
      rw [List.take_append_of_le_length (by omega), List.take_of_length_le (by omega)]
      exact ⟨st, h0⟩

theorem cut_one {b : Int} : ∀ {x x' y y' : List Int}, x ++ b :: y = x' ++ b :: y' → b ∉ x → b ∉ x' → x = x'
  | [], [], _, _, _, _, _ => rfl
  | [], a :: x', _, _, h, _, h' => by simp at h; exact absurd (by simp [h.1]) h'
  | a :: x, [], _, _, h, h', _ => by simp at h; exact absurd (by simp [h.1]) h'
  | a :: x, a' :: x', y, y', h, h1, h2 => by
    simp at h
    rw [h.1, cut_one h.2 (fun hm => h1 (List.mem_cons_of_mem _ hm)) (fun hm => h2 (List.mem_cons_of_mem _ hm))]

theorem ins_nodup (ok : g.QOk) {l : List Nat} (hn : l.Nodup) (hr : ∀ x ∈ l, x < g.n) : (g.ins l).Nodup := by
  unfold Rg.ins
  rw [List.nodup_iff_pairwise_ne, List.pairwise_map]
  refine List.Pairwise.imp_of_mem ?_ (List.Pairwise.filter g.w hn)
  intro a b ha hb hne e
  have ha := List.mem_filter.1 ha
  have hb := List.mem_filter.1 hb
  exact hne (ok.once a b (hr a ha.1) (hr b hb.1) ha.2 hb.2 e)

theorem mem_ins {l : List Nat} {x : Int} : x ∈ g.ins l ↔ ∃ i ∈ l, g.w i = true ∧ g.v i = x := by
  simp only [Rg.ins, List.mem_map, List.mem_filter]
  constructor
  · rintro ⟨i, ⟨h1, h2⟩, h3⟩; exact ⟨i, h1, h2, h3⟩
  · rintro ⟨i, h1, h2, h3⟩; exact ⟨i, ⟨h1, h2⟩, h3⟩
theorem mem_outs {l : List Nat} {x : Int} : x ∈ g.outs l ↔ ∃ i ∈ l, g.w i = false ∧ g.v i = x := by
  simp only [Rg.outs, List.mem_map, List.mem_filter, Bool.not_eq_true']
  constructor
  · rintro ⟨i, ⟨h1, h2⟩, h3⟩; exact ⟨i, h1, h2, h3⟩
  · rintro ⟨i, h1, h2, h3⟩; exact ⟨i, ⟨h1, h2⟩, h3⟩

/-- AN ORDER KEEPS ALL FOUR. -/
theorem qu_only (ok : g.QOk) (h : g.QGood ord) : g.Fine := by
  obtain ⟨st, hf⟩ := h.fifo
  have hd : ord.Nodup := h.perm.nodup_iff.2 List.nodup_range
  have hr : ∀ x ∈ ord, x < g.n := fun x hx => List.mem_range.1 (h.perm.mem_iff.1 hx)
  have place : ∀ i, i < g.n → ∃ p, ∃ hp : p < ord.length, ord[p] = i := fun i hi => List.getElem_of_mem (h.perm.mem_iff.2 (List.mem_range.2 hi))
  have inTake : ∀ {i p : Nat}, i ∈ ord.take p → ∃ q, ∃ hq : q < ord.length, q < p ∧ ord[q] = i := by
    intro i p hi
    obtain ⟨q, hq, e⟩ := List.mem_take_iff_getElem.1 hi
    exact ⟨q, by omega, by omega, e⟩
  have same : ∀ {p q : Nat} (hp : p < ord.length) (hq : q < ord.length), ord[p] = ord[q] → p = q := by
    intro p q hp hq e
    rcases Nat.lt_trichotomy p q with hl | hl | hl
    · exact absurd e ((List.pairwise_iff_getElem.1 hd) p q hp hq hl)
    · exact hl
    · exact absurd e.symm ((List.pairwise_iff_getElem.1 hd) q p hq hp hl)
  have ahead : ∀ {p q : Nat} (hp : p < ord.length) (hq : q < ord.length), g.e ord[p] < g.c ord[q] → p < q := by
    intro p q hp hq hb
    rcases Nat.lt_trichotomy p q with hl | hl | hl
    · exact hl
    · subst hl; have := ok.pos _ (hr _ (List.getElem_mem hp)); omega
    · exact absurd hb (h.time q p hl hp)
  have tn : ∀ p, (ord.take p).Nodup := fun p => List.Pairwise.sublist (List.take_sublist p ord) hd
  have tr : ∀ p, ∀ x ∈ ord.take p, x < g.n := fun p x hx => hr x (List.mem_of_mem_take hx)
  -- a pop's push stands ahead of it
  have pushed : ∀ p, (hp : p < ord.length) → g.w ord[p] = false → ∃ q, ∃ hq : q < ord.length, q < p ∧ g.w ord[q] = true ∧ g.v ord[q] = g.v ord[p] := by
    intro p hp hw
    obtain ⟨s, hs⟩ := fifo_at hf p hp hw
    have : g.v ord[p] ∈ g.ins (ord.take p) := by rw [fifo_sum hs]; simp
    obtain ⟨i, hi, hwi, e⟩ := mem_ins.1 this
    obtain ⟨q, hq, hqp, e'⟩ := inTake hi
    subst e'
    exact ⟨q, hq, hqp, hwi, e⟩
  refine ⟨?_, ?_, ?_, ?_⟩
  · intro i hi hw
    obtain ⟨p, hp, rfl⟩ := place i hi
    obtain ⟨q, hq, _, hwq, e⟩ := pushed p hp hw
    exact ⟨_, hr _ (List.getElem_mem hq), hwq, e⟩
  · intro i k hi hk hwi hwk e
    have key : ∀ p t, (hp : p < ord.length) → (ht : t < ord.length) → p < t → g.w ord[p] = false → g.w ord[t] = false → g.v ord[p] = g.v ord[t] → False := by
      intro p t hp ht hpt hwp hwt e
      obtain ⟨s, hs⟩ := fifo_at hf t ht hwt
      have hn := ins_nodup ok (tn t) (tr t)
      rw [fifo_sum hs, List.nodup_append] at hn
      refine hn.2.2 _ (mem_outs.2 ⟨ord[p], ?_, hwp, e⟩) _ (List.mem_cons_self ..) rfl
      exact List.mem_take_iff_getElem.2 ⟨p, by omega, rfl⟩
    obtain ⟨p, hp, rfl⟩ := place i hi
    obtain ⟨t, ht, rfl⟩ := place k hk
    rcases Nat.lt_trichotomy p t with hl | hl | hl
    · exact (key p t hp ht hl hwi hwk e).elim
    · subst hl; rfl
    · exact (key t p ht hp hl hwk hwi e.symm).elim
  · intro i j hi hj hwi hwj e hb
    obtain ⟨p, hp, rfl⟩ := place i hi
    obtain ⟨t, ht, rfl⟩ := place j hj
    obtain ⟨q, hq, hqp, hwq, e'⟩ := pushed p hp hwi
    have : ord[q] = ord[t] := ok.once _ _ (hr _ (List.getElem_mem hq)) hj hwq hwj (by rw [e', e])
    have := same hq ht this
    subst this
    have := ahead hp ht hb
    omega
  · intro a b q ha hb hq hwa hwb hwq e hab
    obtain ⟨pa, hpa, rfl⟩ := place a ha
    obtain ⟨pb, hpb, rfl⟩ := place b hb
    obtain ⟨t, ht, rfl⟩ := place q hq
    have hpab := ahead hpa hpb hab
    obtain ⟨pb', hpb', hlt, hwb', e'⟩ := pushed t ht hwq
    have : pb' = pb := same hpb' hpb (ok.once _ _ (hr _ (List.getElem_mem hpb')) hb hwb' hwb (by rw [e', e]))
    subst this
    obtain ⟨s, hs⟩ := fifo_at hf t ht hwq
    have hsum := fifo_sum hs
    have hn := ins_nodup ok (tn t) (tr t)
    -- what was pushed up to t, cut at b
    have hcut : ord.take t = ord.take pb' ++ ord[pb'] :: (ord.take t).drop (pb' + 1) := by
      have h1 : ord.take pb' = (ord.take t).take pb' := by rw [List.take_take]; congr 1; omega
      have h2 : ord[pb'] = (ord.take t)[pb']'(by simp; omega) := by rw [List.getElem_take]
      rw [h1, h2, ← List.drop_eq_getElem_cons, List.take_append_drop]
    have hins : g.ins (ord.take t) = g.ins (ord.take pb') ++ g.v ord[pb'] :: g.ins ((ord.take t).drop (pb' + 1)) := by
      conv => lhs; rw [hcut]
      simp [Rg.ins, List.filter_append, hwb]
    rw [← e] at hins
    have hn1 := hn
    rw [hins, List.nodup_append] at hn1
    rw [hsum, List.nodup_append] at hn
    have heq := cut_one (hins.symm.trans hsum) (fun hm => hn1.2.2 _ hm _ (List.mem_cons_self ..) rfl) (fun hm => hn.2.2 _ hm _ (List.mem_cons_self ..) rfl)
    have hmem : g.v ord[pa] ∈ g.outs (ord.take t) := by
      rw [← heq]
      exact mem_ins.2 ⟨_, List.mem_take_iff_getElem.2 ⟨pa, by omega, rfl⟩, hwa, rfl⟩
    obtain ⟨x, hx, hwx, ex⟩ := mem_outs.1 hmem
    obtain ⟨px, hpx, hlx, rfl⟩ := inTake hx
    exact ⟨_, hr _ (List.getElem_mem hpx), hwx, ex, h.time px t hlx ht⟩
end

end Go.Proofs.YtfojmbbhcmeejaaDoor

namespace Go.Proofs.YtfojmbbhcmeejaaDoor

/-- Of things with two times each (a from a's β to α, from δ to γ) one is ahead of all, if no two are each ahead of the other one. -/
theorem source_of {α β γ δ : Nat → Int} (S : List Nat) (hS : S ≠ []) (h1 : ∀ a ∈ S, β a < α a) (h2 : ∀ a ∈ S, δ a < γ a)
    (h3 : ∀ a ∈ S, ∀ b ∈ S, ¬ (α a < β b ∧ γ b < δ a)) : ∃ a ∈ S, ∀ b ∈ S, ¬ (α b < β a ∨ γ b < δ a) := by
  have least : ∀ (f : Nat → Int) (S : List Nat), S ≠ [] → ∃ a ∈ S, ∀ b ∈ S, f a ≤ f b := by
    intro f S
    induction S with
    | nil => intro h; exact absurd rfl h
    | cons x S ih =>
      intro _
      by_cases hS : S = []
      · subst hS; exact ⟨x, by simp, fun b hb => by simp at hb; rw [hb]; exact Int.le_refl _⟩
      · obtain ⟨a, ha, hl⟩ := ih hS
        by_cases hx : f x ≤ f a
        · refine ⟨x, by simp, fun b hb => ?_⟩
          rcases List.mem_cons.1 hb with rfl | hb
          · exact Int.le_refl _
          · exact Int.le_trans hx (hl b hb)
        · refine ⟨a, List.mem_cons_of_mem _ ha, fun b hb => ?_⟩
          rcases List.mem_cons.1 hb with rfl | hb
          · omega
          · exact hl b hb
  obtain ⟨z, hz, lz⟩ := least α S hS
  obtain ⟨u, hu, lu⟩ := least γ S hS
  by_cases hc : γ u < δ z
  · refine ⟨u, hu, fun b hb hor => ?_⟩
    rcases hor with h | h
    · exact h3 z hz u hu ⟨by have := lz b hb; omega, hc⟩
    · have := lu b hb; have := h2 u hu; omega
  · refine ⟨z, hz, fun b hb hor => ?_⟩
    rcases hor with h | h
    · have := lz b hb; have := h1 z hz; omega
    · have := lu b hb; omega

/-- So they can be put one behind the other. -/
theorem line_of {α β γ δ : Nat → Int} : ∀ (m : Nat) (S : List Nat), S.length = m → S.Nodup → (∀ a ∈ S, β a < α a) → (∀ a ∈ S, δ a < γ a) →
    (∀ a ∈ S, ∀ b ∈ S, ¬ (α a < β b ∧ γ b < δ a)) → ∃ L : List Nat, L.Perm S ∧ L.Pairwise fun a b => ¬ (α b < β a ∨ γ b < δ a)
  | 0, S, hm, _, _, _, _ => ⟨[], by rw [List.length_eq_zero_iff.1 hm], .nil⟩
  | m + 1, S, hm, hn, h1, h2, h3 => by
    obtain ⟨a, ha, hs⟩ := source_of S (fun e => by simp [e] at hm) h1 h2 h3
    have sub : ∀ x ∈ S.erase a, x ∈ S := fun x hx => List.mem_of_mem_erase hx
    obtain ⟨L, hL, hp⟩ := line_of m (S.erase a) (by rw [List.length_erase_of_mem ha]; omega) (hn.erase a) (fun x hx => h1 x (sub x hx)) (fun x hx => h2 x (sub x hx))
      (fun x hx y hy => h3 x (sub x hx) y (sub y hy))
    exact ⟨a :: L, (hL.cons a).trans (List.perm_cons_erase ha).symm, List.pairwise_cons.2 ⟨fun b hb => hs b (sub b (hL.mem_iff.1 hb)), hp⟩⟩

/-- The greatest of a row's first numbers. -/
def topI (f : Nat → Int) : Nat → Int
  | 0 => f 0
  | k + 1 => max (topI f k) (f (k + 1))
theorem topI_ge (f : Nat → Int) : ∀ k j, j ≤ k → f j ≤ topI f k
  | 0, j, h => by rw [Nat.le_zero.1 h]; exact Int.le_refl _
  | k + 1, j, h => by
    unfold topI
    by_cases e : j = k + 1
    · subst e; omega
    · have := topI_ge f k j (by omega); omega
theorem topI_lt (f : Nat → Int) (x : Int) : ∀ k, (∀ j, j ≤ k → f j < x) → topI f k < x
  | 0, h => h 0 (Nat.le_refl _)
  | k + 1, h => by
    unfold topI
    have := topI_lt f x k (fun j hj => h j (by omega))
    have := h (k + 1) (Nat.le_refl _)
    omega
theorem topI_mono (f : Nat → Int) {j k : Nat} (h : j ≤ k) : topI f j ≤ topI f k := by
  induction k with
  | zero => rw [Nat.le_zero.1 h]; exact Int.le_refl _
  | succ k ih =>
    by_cases e : j = k + 1
    · subst e; exact Int.le_refl _
    · have := ih (by omega)
      show _ ≤ max (topI f k) (f (k + 1))
      omega

/-- THE ORDER THAT IS MADE. -/
theorem qu_if {g : Rg} (ok : g.QOk) (hf : g.Fine) : ∃ ord, g.QGood ord := by
  -- who pops what was pushed by a (g.n: nobody)
  have hpi : ∀ a : Nat, ∃ q : Nat, (q < g.n ∧ g.w q = false ∧ g.v q = g.v a) ∨ (q = g.n ∧ ∀ x, x < g.n → g.w x = false → g.v x ≠ g.v a) := by
    intro a
    by_cases h : ∃ q, q < g.n ∧ g.w q = false ∧ g.v q = g.v a
    · obtain ⟨q, hq⟩ := h; exact ⟨q, .inl hq⟩
    · exact ⟨g.n, .inr ⟨rfl, fun x hx hw e => h ⟨x, hx, hw, e⟩⟩⟩
  let π : Nat → Nat := fun a => Classical.choose (hpi a)
  have hπ : ∀ a, (π a < g.n ∧ g.w (π a) = false ∧ g.v (π a) = g.v a) ∨ (π a = g.n ∧ ∀ x, x < g.n → g.w x = false → g.v x ≠ g.v a) := fun a => Classical.choose_spec (hpi a)
  have hπlt : ∀ a, π a < g.n → g.w (π a) = false ∧ g.v (π a) = g.v a := fun a h => by
    rcases hπ a with h1 | h1
    · exact h1.2
    · omega
  have hπof : ∀ a q, q < g.n → g.w q = false → g.v q = g.v a → q = π a := fun a q hq hw e => by
    rcases hπ a with h1 | h1
    · exact hf.twice q (π a) hq h1.1 hw h1.2.1 (by rw [e, h1.2.2])
    · exact absurd e (h1.2 q hq hw)
  let γ : Nat → Int := fun a => if π a < g.n then g.e (π a) else 3000000
  let δ : Nat → Int := fun a => if π a < g.n then max (g.c (π a)) (g.c a) else 2000000
  let α : Nat → Int := fun a => min (g.e a) (γ a)
  let S := (List.range g.n).filter g.w
  have hS : ∀ a, a ∈ S ↔ a < g.n ∧ g.w a = true := fun a => by simp [S]
  have hearly : ∀ a, a ∈ S → π a < g.n → g.c a < g.e (π a) := fun a ha h => by
    have ha := (hS a).1 ha
    have h1 := hπlt a h
    have := hf.early (π a) a h ha.1 h1.1 ha.2 h1.2
    have := ok.own (π a) a h ha.1
    omega
  have hγc : ∀ a, a ∈ S → g.c a < γ a := fun a ha => by
    simp only [γ]
    split
    · exact hearly a ha (by assumption)
    · have := (hS a).1 ha; have := ok.pos a this.1; have := ok.num a ((hS a).1 ha).1; omega
  have h1 : ∀ a ∈ S, g.c a < α a := fun a ha => by
    have := hγc a ha; have := ok.pos a ((hS a).1 ha).1
    simp only [α]; omega
  have h2 : ∀ a ∈ S, δ a < γ a := fun a ha => by
    simp only [γ, δ]
    split
    · rename_i h
      have := hearly a ha h; have := ok.pos _ h; omega
    · omega
  have h3 : ∀ a ∈ S, ∀ b ∈ S, ¬ (α a < g.c b ∧ γ b < δ a) := by
    intro a ha b hb ⟨hx, hy⟩
    have hga := hγc a ha; have hgb := hγc b hb
    have hma := (hS a).1 ha; have hmb := (hS b).1 hb
    have pa := ok.pos a hma.1; have na := ok.num a hma.1
    have pb := ok.pos b hmb.1; have nb := ok.num b hmb.1
    by_cases hpb : π b < g.n
    · have ppb := ok.pos _ hpb; have npb := ok.num _ hpb
      have qb := hπlt b hpb
      have eγb : γ b = g.e (π b) := by simp only [γ, if_pos hpb]
      by_cases hpa : π a < g.n
      · have ppa := ok.pos _ hpa
        have qa := hπlt a hpa
        have eγa : γ a = g.e (π a) := by simp only [γ, if_pos hpa]
        have eδa : δ a = max (g.c (π a)) (g.c a) := by simp only [δ, if_pos hpa]
        simp only [α] at hx
        rw [eγa] at hx hga; rw [eγb] at hy hgb; rw [eδa] at hy
        by_cases hab : g.e a < g.c b
        · obtain ⟨x, hxl, hwx, hvx, hnx⟩ := hf.crossed a b (π b) hma.1 hmb.1 hpb hma.2 hmb.2 qb.1 qb.2 hab
          have := hπof a x hxl hwx hvx
          subst this
          omega
        · omega
      · have eγa : γ a = 3000000 := by simp only [γ, if_neg hpa]
        simp only [α] at hx
        rw [eγa] at hx
        obtain ⟨x, hxl, hwx, hvx, _⟩ := hf.crossed a b (π b) hma.1 hmb.1 hpb hma.2 hmb.2 qb.1 qb.2 (by omega)
        have := hπof a x hxl hwx hvx
        omega
    · have eγb : γ b = 3000000 := by simp only [γ, if_neg hpb]
      rw [eγb] at hy
      simp only [δ] at hy
      split at hy
      · rename_i hpa
        have := ok.pos _ hpa; have := ok.num _ hpa
        omega
      · omega
  obtain ⟨L, hL, hpair⟩ := line_of (α := α) (β := g.c) (γ := γ) (δ := δ) S.length S rfl (List.Pairwise.filter _ List.nodup_range) h1 h2 h3
  have hLS : ∀ a, a ∈ L ↔ a < g.n ∧ g.w a = true := fun a => by rw [hL.mem_iff, hS]
  have hLn : L.Nodup := hL.nodup_iff.2 (List.Pairwise.filter _ List.nodup_range)
  have hlen : L.length ≤ 64 := by
    have : L.length = S.length := hL.length_eq
    have h' : S.length ≤ (List.range g.n).length := List.length_filter_le ..
    rw [List.length_range] at h'
    have := ok.few
    omega
  let it : Nat → Nat := fun k => L.getD k 0
  have itS : ∀ k, k < L.length → it k ∈ L := fun k hk => by
    simp only [it, List.getD_eq_getElem?_getD, List.getElem?_eq_getElem hk]; exact List.getElem_mem hk
  have itL : ∀ k, k < L.length → it k < g.n ∧ g.w (it k) = true := fun k hk => (hLS _).1 (itS k hk)
  have itD : ∀ j k, j < k → k < L.length → ¬ (α (it k) < g.c (it j) ∨ γ (it k) < δ (it j)) := fun j k hjk hk => by
    have hj := Nat.lt_trans hjk hk
    have := (List.pairwise_iff_getElem.1 hpair) j k hj hk hjk
    simpa [it, List.getD_eq_getElem?_getD, List.getElem?_eq_getElem hk, List.getElem?_eq_getElem hj] using this
  have itI : ∀ j k, j < L.length → k < L.length → it j = it k → j = k := fun j k hj hk e => by
    simp only [it, List.getD_eq_getElem?_getD, List.getElem?_eq_getElem hj, List.getElem?_eq_getElem hk, Option.getD_some] at e
    rcases Nat.lt_trichotomy j k with hl | hl | hl
    · exact absurd e ((List.pairwise_iff_getElem.1 hLn) j k hj hk hl)
    · exact hl
    · exact absurd e.symm ((List.pairwise_iff_getElem.1 hLn) k j hk hj hl)
  have hrk : ∀ a : Nat, ∃ k, a ∈ L → k < L.length ∧ it k = a := fun a => by
    by_cases ha : a ∈ L
    · obtain ⟨k, hk, e⟩ := List.getElem_of_mem ha
      exact ⟨k, fun _ => ⟨hk, by simp [it, List.getD_eq_getElem?_getD, List.getElem?_eq_getElem hk, e]⟩⟩
    · exact ⟨0, fun h => absurd h ha⟩
  -- an op's rank: that of its value
  have hop : ∀ i : Nat, ∃ k, i < g.n → k < L.length ∧ (g.w i = true → it k = i) ∧ (g.w i = false → π (it k) = i) := fun i => by
    by_cases hi : i < g.n
    · cases hw : g.w i with
      | true =>
        obtain ⟨k, hk⟩ := hrk i
        have := hk ((hLS i).2 ⟨hi, hw⟩)
        exact ⟨k, fun _ => ⟨this.1, fun _ => this.2, fun h => by cases h⟩⟩
      | false =>
        obtain ⟨j, hj, hwj, e⟩ := hf.thin i hi hw
        obtain ⟨k, hk⟩ := hrk j
        have := hk ((hLS j).2 ⟨hj, hwj⟩)
        exact ⟨k, fun _ => ⟨this.1, (fun h => by cases h), fun _ => by rw [this.2]; exact (hπof j i hi hw e.symm).symm⟩⟩
    · exact ⟨0, fun h => absurd h hi⟩
  let rk : Nat → Nat := fun i => Classical.choose (hop i)
  have hrk : ∀ i, i < g.n → rk i < L.length ∧ (g.w i = true → it (rk i) = i) ∧ (g.w i = false → π (it (rk i)) = i) := fun i => Classical.choose_spec (hop i)
  -- the times
  let P : Nat → Int := topI fun k => g.c (it k)
  let Q : Nat → Int := topI fun k => max (g.c (it k)) (g.c (π (it k)))
  have hPe : ∀ k, k < L.length → P k < g.e (it k) ∧ P k < γ (it k) := by
    intro k hk
    have hik := itL k hk
    have pk := ok.pos _ hik.1
    have key : ∀ j, j ≤ k → g.c (it j) < g.e (it k) ∧ g.c (it j) < γ (it k) := by
      intro j hj
      by_cases e : j = k
      · subst e
        exact ⟨pk.2, hγc _ ((hS _).2 hik)⟩
      · have h := itD j k (by omega) hk
        have hij := itL j (by omega)
        have o1 := ok.own (it k) (it j) hik.1 hij.1
        have h' : g.c (it j) ≤ α (it k) := by
          by_cases hlt : α (it k) < g.c (it j)
          · exact absurd (.inl hlt) h
          · omega
        simp only [α] at h'
        refine ⟨by omega, ?_⟩
        have pj := ok.pos _ hij.1; have nj := ok.num _ hij.1
        by_cases hpk : π (it k) < g.n
        · have eγ : γ (it k) = g.e (π (it k)) := by simp only [γ, if_pos hpk]
          have o2 := ok.own (π (it k)) (it j) hpk hij.1
          omega
        · have eγ : γ (it k) = 3000000 := by simp only [γ, if_neg hpk]
          omega
    exact ⟨topI_lt _ _ k (fun j hj => (key j hj).1), topI_lt _ _ k (fun j hj => (key j hj).2)⟩
  have hpop : ∀ j k, j ≤ k → k < L.length → π (it k) < g.n → π (it j) < g.n := by
    intro j k hj hk hpk
    by_cases e : j = k
    · rw [e]; exact hpk
    · have h := itD j k (by omega) hk
      by_cases hpj : π (it j) < g.n
      · exact hpj
      · exfalso
        have e1 : γ (it k) = g.e (π (it k)) := by simp only [γ, if_pos hpk]
        have e2 : δ (it j) = 2000000 := by simp only [δ, if_neg hpj]
        have := ok.num _ hpk
        exact h (.inr (by omega))
  have hQe : ∀ k, k < L.length → π (it k) < g.n → Q k < g.e (π (it k)) := by
    intro k hk hpk
    have eγ : γ (it k) = g.e (π (it k)) := by simp only [γ, if_pos hpk]
    refine topI_lt _ _ k (fun j hj => ?_)
    have hP := (hPe k hk).2
    have hPj := topI_ge (fun k => g.c (it k)) k j hj
    have hc : g.c (π (it j)) < g.e (π (it k)) := by
      have hpj := hpop j k hj hk hpk
      by_cases e : j = k
      · subst e; exact (ok.pos _ hpk).2
      · have h := itD j k (by omega) hk
        have eδ : δ (it j) = max (g.c (π (it j))) (g.c (it j)) := by simp only [δ, if_pos hpj]
        have o := ok.own (π (it k)) (π (it j)) hpk hpj
        have : ¬ γ (it k) < δ (it j) := fun hlt => h (.inr hlt)
        omega
    have hP' : topI (fun k => g.c (it k)) k < γ (it k) := hP
    have hPj' : g.c (it j) ≤ topI (fun k => g.c (it k)) k := hPj
    omega
  let pt : Nat → Int := fun i => if g.w i = true then P (rk i) else Q (rk i)
  let key : Nat → Int := fun i => (pt i * 2 + (if g.w i = true then 0 else 1)) * 64 + rk i
  have hptc : ∀ i, i < g.n → g.c i ≤ pt i := by
    intro i hi
    have h := hrk i hi
    simp only [pt]
    cases hw : g.w i with
    | true =>
      rw [if_pos rfl]
      have := topI_ge (fun k => g.c (it k)) (rk i) (rk i) (Nat.le_refl _)
      simp only [h.2.1 hw] at this
      exact this
    | false =>
      rw [if_neg (by decide)]
      have := topI_ge (fun k => max (g.c (it k)) (g.c (π (it k)))) (rk i) (rk i) (Nat.le_refl _)
      simp only [h.2.2 hw] at this
      exact Int.le_trans (by omega) this
  have hpte : ∀ i, i < g.n → pt i < g.e i := by
    intro i hi
    have h := hrk i hi
    simp only [pt]
    cases hw : g.w i with
    | true =>
      rw [if_pos rfl]
      have := (hPe _ h.1).1
      rwa [h.2.1 hw] at this
    | false =>
      rw [if_neg (by decide)]
      have := hQe _ h.1 (by rw [h.2.2 hw]; exact hi)
      rwa [h.2.2 hw] at this
  obtain ⟨ord, hp, hsort⟩ := sorted_of key g.n
  have hget : ∀ p, (hpl : p < ord.length) → ord.getD p 0 = ord[p] := fun p hpl => by rw [List.getD_eq_getElem?_getD, List.getElem?_eq_getElem hpl]; rfl
  have hmem : ∀ x ∈ ord, x < g.n := fun x hx => List.mem_range.1 (hp.mem_iff.1 hx)
  -- what has a lesser key stands ahead
  have hless : ∀ x m, x < g.n → (hm : m < ord.length) → key x < key ord[m] → x ∈ ord.take m := by
    intro x m hx hm hlt
    obtain ⟨p, hpl, e⟩ := List.getElem_of_mem (hp.mem_iff.2 (List.mem_range.2 hx))
    subst e
    by_cases hpm : p < m
    · exact List.mem_take_iff_getElem.2 ⟨p, by omega, rfl⟩
    · exfalso
      by_cases e : p = m
      · subst e; omega
      · have := hsort m p (by omega) hpl
        rw [hget m hm, hget p hpl] at this
        omega
  have hnot : ∀ m, (hm : m < ord.length) → ord[m] ∉ ord.take m := by
    intro m hm hin
    obtain ⟨q, hq, e⟩ := List.mem_take_iff_getElem.1 hin
    have hd : ord.Nodup := hp.nodup_iff.2 List.nodup_range
    exact (List.pairwise_iff_getElem.1 hd) q m (by omega) hm (by omega) e
  have kPush : ∀ j k, j < k → k < L.length → key (it j) < key (it k) := by
    intro j k hjk hk
    have hij := itL j (by omega); have hik := itL k hk
    have rj : rk (it j) = j := itI _ _ (hrk _ hij.1).1 (by omega) ((hrk _ hij.1).2.1 hij.2)
    have rk' : rk (it k) = k := itI _ _ (hrk _ hik.1).1 hk ((hrk _ hik.1).2.1 hik.2)
    have hm : P j ≤ P k := topI_mono _ (by omega)
    simp only [key, pt, hij.2, hik.2, if_true, rj, rk']
    omega
  have rkPop : ∀ k, k < L.length → π (it k) < g.n → rk (π (it k)) = k := by
    intro k hk hpk
    have hq := hπlt _ hpk
    have h := hrk _ hpk
    have h' := h.2.2 hq.1
    have hir := itL _ h.1
    have hq' := hπlt (it (rk (π (it k)))) (by rw [h']; exact hpk)
    rw [h'] at hq'
    have hik := itL k hk
    exact itI _ _ h.1 hk (ok.once _ _ hir.1 hik.1 hir.2 hik.2 (by rw [← hq'.2, hq.2]))
  have kPop : ∀ j k, j < k → k < L.length → π (it k) < g.n → key (π (it j)) < key (π (it k)) := by
    intro j k hjk hk hpk
    have hpj := hpop j k (by omega) hk hpk
    have rj := rkPop j (by omega) hpj
    have rk' := rkPop k hk hpk
    have hm : Q j ≤ Q k := topI_mono _ (by omega)
    simp only [key, pt, (hπlt _ hpj).1, (hπlt _ hpk).1, rj, rk']
    simp only [Bool.false_eq_true, if_false]
    omega
  have kBoth : ∀ k, k < L.length → π (it k) < g.n → key (it k) < key (π (it k)) := by
    intro k hk hpk
    have hik := itL k hk
    have rk1 : rk (it k) = k := itI _ _ (hrk _ hik.1).1 hk ((hrk _ hik.1).2.1 hik.2)
    have rk2 := rkPop k hk hpk
    have hPQ : P k ≤ Q k := by
      have : P k < Q k + 1 := topI_lt _ _ k (fun j hj => by
        have := topI_ge (fun k => max (g.c (it k)) (g.c (π (it k)))) k j hj
        have h' : max (g.c (it j)) (g.c (π (it j))) ≤ Q k := this
        omega)
      omega
    simp only [key, pt, hik.2, (hπlt _ hpk).1, rk1, rk2]
    simp only [Bool.false_eq_true, if_true, if_false]
    omega
  refine ⟨ord, hp, ?_, ?_⟩
  · intro p q hpq hq hb
    have hpl := Nat.lt_trans hpq hq
    have h1 := hsort p q hpq hq
    rw [hget p hpl, hget q hq] at h1
    have hla := hmem _ (List.getElem_mem hpl); have hlb := hmem _ (List.getElem_mem hq)
    have a1 := hptc _ hla; have a2 := hpte _ hlb
    have r1 := (hrk _ hla).1; have r2 := (hrk _ hlb).1
    simp only [key] at h1
    split at h1 <;> split at h1 <;> omega
  · -- the first s were pushed, the first t popped
    have main : ∀ m, m ≤ ord.length → ∃ s t, t ≤ s ∧ s ≤ L.length ∧ (∀ k, k < L.length → (it k ∈ ord.take m ↔ k < s)) ∧ (∀ k, k < L.length → π (it k) < g.n → (π (it k) ∈ ord.take m ↔ k < t)) ∧
        g.Fifo (ord.take m) (((L.take s).drop t).map g.v) := by
      intro m
      induction m with
      | zero => intro _; exact ⟨0, 0, by omega, by omega, fun k _ => by simp, fun k _ _ => by simp, by simpa using Rg.Fifo.nil⟩
      | succ m ih =>
        intro hm
        obtain ⟨s, t, hts, hsl, hpu, hpo, hfi⟩ := ih (by omega)
        have hml : m < ord.length := by omega
        have ht : ord.take (m + 1) = ord.take m ++ [ord[m]] := by rw [List.take_append_getElem hml]
        have hi := hmem _ (List.getElem_mem hml)
        have hnin := hnot m hml
        have hr := hrk _ hi
        have hls := hless
        generalize hx : ord[m] = i at *
        rw [ht]
        cases hw : g.w i with
        | true =>
          have hit := hr.2.1 hw
          generalize rk i = k at *
          have hks : k = s := by
            have h1 : ¬ k < s := fun h => hnin (by rw [← hit]; exact (hpu k hr.1).2 h)
            by_cases e : k = s
            · exact e
            · exfalso
              have hsk : s < k := by omega
              have := hls (it s) m (itL s (by omega)).1 hml (by rw [hx, ← hit]; exact kPush s k hsk hr.1)
              have := (hpu s (by omega)).1 this
              omega
          subst hks
          refine ⟨k + 1, t, by omega, by omega, fun j hj => ?_, fun j hj hpj => ?_, ?_⟩
          · rw [List.mem_append, List.mem_singleton, hpu j hj]
            constructor
            · rintro (h | h)
              · omega
              · have := itI j k hj hr.1 (by rw [h, hit]); omega
            · intro h
              by_cases e : j = k
              · exact .inr (by rw [e, hit])
              · exact .inl (by omega)
          · rw [List.mem_append, List.mem_singleton, hpo j hj hpj]
            constructor
            · rintro (h | h)
              · exact h
              · have := (hπlt _ hpj).1; rw [h, hw] at this; cases this
            · exact fun h => .inl h
          · have hLk : L[k]'hr.1 = i := by
              have : L[k]'hr.1 = it k := by simp [it, List.getD_eq_getElem?_getD, List.getElem?_eq_getElem hr.1]
              exact this.trans hit
            have : ((L.take (k + 1)).drop t).map g.v = ((L.take k).drop t).map g.v ++ [g.v i] := by
              rw [← List.take_append_getElem hr.1, List.drop_append_of_le_length (by rw [List.length_take]; omega), List.map_append, hLk]; rfl
            rw [this]
            exact .push hfi hw
        | false =>
          have hit := hr.2.2 hw
          generalize rk i = k at *
          have hpk : π (it k) < g.n := by rw [hit]; exact hi
          have hkt : k = t := by
            have h1 : ¬ k < t := fun h => hnin (by rw [← hit]; exact (hpo k hr.1 hpk).2 h)
            by_cases e : k = t
            · exact e
            · exfalso
              have htk : t < k := by omega
              have hpt := hpop t k (by omega) hr.1 hpk
              have := hls (π (it t)) m hpt hml (by rw [hx, ← hit]; exact kPop t k htk hr.1 hpk)
              have := (hpo t (by omega) hpt).1 this
              omega
          subst hkt
          have hks : k < s := (hpu k hr.1).1 (hls (it k) m (itL k hr.1).1 hml (by rw [hx]; have := kBoth k hr.1 hpk; rwa [hit] at this))
          refine ⟨s, k + 1, by omega, hsl, fun j hj => ?_, fun j hj hpj => ?_, ?_⟩
          · rw [List.mem_append, List.mem_singleton, hpu j hj]
            constructor
            · rintro (h | h)
              · exact h
              · have := (itL j hj).2; rw [h, hw] at this; cases this
            · exact fun h => .inl h
          · rw [List.mem_append, List.mem_singleton, hpo j hj hpj]
            constructor
            · rintro (h | h)
              · omega
              · have := rkPop j hj hpj
                have h2 := rkPop k hr.1 hpk
                rw [h] at this; rw [hit] at h2; omega
            · intro h
              by_cases e : j = k
              · exact .inr (by rw [e, hit])
              · exact .inl (by omega)
          · have hvk : g.v (L[k]'hr.1) = g.v i := by
              have : L[k]'hr.1 = it k := by simp [it, List.getD_eq_getElem?_getD, List.getElem?_eq_getElem hr.1]
              rw [this, ← (hπlt _ hpk).2, hit]
            have hc : ((L.take s).drop k).map g.v = g.v i :: ((L.take s).drop (k + 1)).map g.v := by
              rw [List.drop_eq_getElem_cons (by rw [List.length_take]; omega), List.map_cons, List.getElem_take, hvk]
            rw [hc] at hfi
            exact .pop hfi hw
    obtain ⟨s, t, _, _, _, _, hfi⟩ := main ord.length (Nat.le_refl _)
    rw [List.take_of_length_le (Nat.le_refl _)] at hfi
    exact ⟨_, hfi⟩

end Go.Proofs.YtfojmbbhcmeejaaDoor
