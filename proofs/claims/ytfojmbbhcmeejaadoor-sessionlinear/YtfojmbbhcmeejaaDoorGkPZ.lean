/-
  Gibbons and Korach in plain Lean: calls and returns of ops that write values, each once, or read them: there is an order that keeps time, and in which each reads what was written last, just if no read comes back ahead of its write's call, and no two values are each ahead of the other one.
  What can't be of a queue, in plain Lean: calls and returns of ops that push values, each once, or pop them: there is an order that keeps time, and in which each pops what was pushed first of what is left, just if nothing is popped that isn't pushed, nothing twice, nothing ahead of its push, and no two values cross.
  An order of a queue's ops is made where none of the four is found: the values one behind the other, each push and pop at a time between its call and its return.
  What an order shows of a register's ops, and of a queue's, by their values and times alone: there is an order just if the conditions of Gibbons and Korach are kept, or none of a queue's four is found.
  Registers run in an order, key by key: what a read tells is what was written last; so an order that keeps each process' own leaves nothing that can't be.
  Versions taken from an order that shows ops: each row holds its key's writes in order, and nothing is broken.
  A table of eight rows of one's own, each appended to (versions made of an order).
-/
import Derived.WalkKit
import Derived.Test.YtfojmbbhcmeejaaDoorRefUZ
import Derived.Test.YtfojmbbhcmeejaaDoorZnPZ
import Derived.Test.YtfojmbbhcmeejaaDoorSsPZ
import Derived.Test.YtfojmbbhcmeejaaDoorRpWZ
import Derived.Test.YtfojmbbhcmeejaaDoorCheckW
import Derived.Test.YtfojmbbhcmeejaaDoorSearchM
import Derived.Test.YtfojmbbhcmeejaaDoorRefQ
import Derived.Deep.RegionLaw
import Derived.Deep.DeepCutAuto
import Derived.Maps.AppendAt
namespace Go.Proofs.YtfojmbbhcmeejaaDoor

/-- Ops: how many, their calls and returns, which write, what each writes or reads. -/
structure Rg where
  n : Nat
  c : Nat → Int
  e : Nat → Int
  w : Nat → Bool
  v : Nat → Int

structure Rg.Ok (g : Rg) : Prop where
  few : g.n ≤ 64
  pos : ∀ i, i < g.n → 0 ≤ g.c i ∧ g.c i < g.e i
  rise : ∀ i j, i < j → j < g.n → g.c i < g.c j
  own : ∀ i j, i < g.n → j < g.n → g.e i ≠ g.c j
  num : ∀ i, i < g.n → -1000000 ≤ g.v i ∧ g.v i ≤ 1000000
  once : ∀ i j, i < g.n → j < g.n → g.w i = true → g.w j = true → g.v i = g.v j → i = j
  some : ∀ i, i < g.n → g.w i = true → g.v i ≠ 0

/-- No read comes back ahead of its write's call. -/
def Rg.Src (g : Rg) : Prop := ∀ i, i < g.n → g.w i = false → g.v i ≠ 0 → ∃ j, j < g.n ∧ g.w j = true ∧ g.v j = g.v i ∧ g.c j ≤ g.e i
/-- No two values are each ahead of the other one (0 is ahead of all). -/
structure Rg.Apart (g : Rg) : Prop where
  two : ∀ i j k l, i < g.n → j < g.n → k < g.n → l < g.n → g.v i = g.v l → g.v j = g.v k → g.v i ≠ g.v j → ¬ (g.e i < g.c j ∧ g.e k < g.c l)
  nought : ∀ k l, k < g.n → l < g.n → g.v k ≠ 0 → g.v l = 0 → ¬ g.e k < g.c l

/-- What is told last ahead of a place. -/
def Rg.at (g : Rg) (ord : List Nat) : Nat → Int
  | 0 => 0
  | p + 1 => g.v (ord.getD p 0)
structure Rg.Good (g : Rg) (ord : List Nat) : Prop where
  perm : ord.Perm (List.range g.n)
  time : ∀ p q, p < q → q < ord.length → ¬ g.e (ord.getD q 0) < g.c (ord.getD p 0)
  last : ∀ p, p < ord.length → g.w (ord.getD p 0) = false → g.v (ord.getD p 0) = g.at ord p

theorem Rg.Good.len {g : Rg} {ord : List Nat} (h : g.Good ord) : ord.length = g.n := by simpa using h.perm.length_eq
theorem Rg.Good.lt {g : Rg} {ord : List Nat} (h : g.Good ord) {p : Nat} (hp : p < ord.length) : ord.getD p 0 < g.n := by
  have : ord.getD p 0 ∈ ord := by rw [List.getD_eq_getElem?_getD, List.getElem?_eq_getElem hp]; exact List.getElem_mem hp
  exact List.mem_range.1 (h.perm.mem_iff.1 this)
theorem Rg.Good.place {g : Rg} {ord : List Nat} (h : g.Good ord) {i : Nat} (hi : i < g.n) : ∃ p, p < ord.length ∧ ord.getD p 0 = i := by
  obtain ⟨p, hp, e⟩ := List.getElem_of_mem (h.perm.mem_iff.2 (List.mem_range.2 hi))
  exact ⟨p, hp, by rw [List.getD_eq_getElem?_getD, List.getElem?_eq_getElem hp]; exact e⟩
theorem Rg.Good.inj {g : Rg} {ord : List Nat} (h : g.Good ord) {p q : Nat} (hp : p < ord.length) (hq : q < ord.length) (e : ord.getD p 0 = ord.getD q 0) : p = q := by
  have hd : ord.Nodup := h.perm.nodup_iff.2 List.nodup_range
  simp only [List.getD_eq_getElem?_getD, List.getElem?_eq_getElem hp, List.getElem?_eq_getElem hq, Option.getD_some] at e
  rcases Nat.lt_trichotomy p q with hl | hl | hl
  · exact absurd e ((List.pairwise_iff_getElem.1 hd) p q hp hq hl)
  · exact hl
  · exact absurd e.symm ((List.pairwise_iff_getElem.1 hd) q p hq hp hl)

section
variable {g : Rg} {ord : List Nat}

theorem gk_nought (ok : g.Ok) (h : g.Good ord) : ∀ p, p < ord.length → g.v (ord.getD p 0) = 0 → ∀ t, t ≤ p → g.v (ord.getD t 0) = 0
  | p, hp, e, t, ht => by
    by_cases htp : t = p
    · rw [htp]; exact e
    · cases p with
      | zero => omega
      | succ p =>
        have hw : g.w (ord.getD (p + 1) 0) = false := by
          cases hw : g.w (ord.getD (p + 1) 0) with
          | false => rfl
          | true => exact absurd e (ok.some _ (h.lt hp) hw)
        have := h.last (p + 1) hp hw
        rw [e] at this
        exact gk_nought ok h p (by omega) this.symm t (by omega)

theorem gk_block (ok : g.Ok) (h : g.Good ord) : ∀ p, p < ord.length → g.v (ord.getD p 0) ≠ 0 →
    ∃ q, q ≤ p ∧ g.w (ord.getD q 0) = true ∧ ∀ t, q ≤ t → t ≤ p → g.v (ord.getD t 0) = g.v (ord.getD p 0)
  | p, hp, hne => by
    cases hw : g.w (ord.getD p 0) with
    | true => exact ⟨p, Nat.le_refl _, hw, fun t h1 h2 => by rw [Nat.le_antisymm h2 h1]⟩
    | false =>
      have hl := h.last p hp hw
      cases p with
      | zero => exact absurd hl hne
      | succ p =>
        have hl : g.v (ord.getD (p + 1) 0) = g.v (ord.getD p 0) := hl
        obtain ⟨q, hq, hwq, ha⟩ := gk_block ok h p (by omega) (by rw [← hl]; exact hne)
        refine ⟨q, by omega, hwq, fun t h1 h2 => ?_⟩
        by_cases e : t = p + 1
        · rw [e]
        · rw [ha t h1 (by omega), hl]

theorem gk_between (ok : g.Ok) (h : g.Good ord) {p t p' : Nat} (hp' : p' < ord.length) (e : g.v (ord.getD p 0) = g.v (ord.getD p' 0)) (h1 : p ≤ t) (h2 : t ≤ p') : g.v (ord.getD t 0) = g.v (ord.getD p 0) := by
  by_cases h0 : g.v (ord.getD p' 0) = 0
  · rw [e, h0]; exact gk_nought ok h p' hp' h0 t h2
  · obtain ⟨q, hq, hw, ha⟩ := gk_block ok h p (by omega) (by rw [e]; exact h0)
    obtain ⟨q', hq', hw', ha'⟩ := gk_block ok h p' hp' h0
    have e1 := ha q (Nat.le_refl _) hq
    have e2 := ha' q' (Nat.le_refl _) hq'
    have : ord.getD q 0 = ord.getD q' 0 := ok.once _ _ (h.lt (by omega)) (h.lt (by omega)) hw hw' (by rw [e1, e2, e])
    have : q = q' := h.inj (by omega) (by omega) this
    rw [ha' t (by omega) h2, e]

theorem gk_ahead (ok : g.Ok) (h : g.Good ord) {p q : Nat} (hp : p < ord.length) (hq : q < ord.length) (hb : g.e (ord.getD p 0) < g.c (ord.getD q 0)) : p < q := by
  rcases Nat.lt_trichotomy p q with hl | hl | hl
  · exact hl
  · subst hl; have := ok.pos _ (h.lt hp); omega
  · exact absurd hb (h.time q p hl hp)

/-- AN ORDER KEEPS ALL. -/
theorem gk_only (ok : g.Ok) (h : g.Good ord) : g.Src ∧ g.Apart := by
  refine ⟨?_, ?_, ?_⟩
  · intro i hi hw hne
    obtain ⟨p, hp, rfl⟩ := h.place hi
    obtain ⟨q, hq, hwq, ha⟩ := gk_block ok h p hp hne
    refine ⟨_, h.lt (by omega), hwq, ha q (Nat.le_refl _) hq, ?_⟩
    have : q ≠ p := by intro e; subst e; rw [hw] at hwq; cases hwq
    have := h.time q p (by omega) hp
    omega
  · intro i j k l hi hj hk hl e1 e2 hne ⟨b1, b2⟩
    obtain ⟨pi, hpi, rfl⟩ := h.place hi
    obtain ⟨pj, hpj, rfl⟩ := h.place hj
    obtain ⟨pk, hpk, rfl⟩ := h.place hk
    obtain ⟨pl, hpl, rfl⟩ := h.place hl
    have h1 := gk_ahead ok h hpi hpj b1
    have h2 := gk_ahead ok h hpk hpl b2
    by_cases hc : pi ≤ pk
    · exact hne (by rw [e2]; exact (gk_between ok h hpl e1 hc (by omega)).symm)
    · exact hne (by rw [gk_between ok h hpj e2.symm (p := pk) (t := pi) (by omega) (by omega), e2])
  · intro k l hk hl hne e b
    obtain ⟨pk, hpk, rfl⟩ := h.place hk
    obtain ⟨pl, hpl, rfl⟩ := h.place hl
    have h2 := gk_ahead ok h hpk hpl b
    exact hne (gk_nought ok h pl hpl e pk (by omega))
end

/-! ### an order is made -/

theorem least_of (f : Nat → Int) (p : Nat → Prop) : ∀ n, (∃ i, i < n ∧ p i) → ∃ i, i < n ∧ p i ∧ ∀ j, j < n → p j → f i ≤ f j
  | 0, ⟨i, hi, _⟩ => by omega
  | n + 1, ⟨i, hi, hp⟩ => by
    by_cases hx : ∃ i, i < n ∧ p i
    · obtain ⟨a, ha, hpa, hl⟩ := least_of f p n hx
      by_cases hn : p n ∧ f n < f a
      · refine ⟨n, by omega, hn.1, fun j hj hpj => ?_⟩
        by_cases e : j = n
        · rw [e]; exact Int.le_refl _
        · have := hl j (by omega) hpj; omega
      · refine ⟨a, by omega, hpa, fun j hj hpj => ?_⟩
        by_cases e : j = n
        · subst e; by_cases hlt : f j < f a
          · exact absurd ⟨hpj, hlt⟩ hn
          · omega
        · exact hl j (by omega) hpj
    · have : i = n := by
        by_cases e : i = n
        · exact e
        · exact absurd ⟨i, by omega, hp⟩ hx
      subst this
      exact ⟨i, by omega, hp, fun j hj hpj => by
        by_cases e : j = i
        · rw [e]; exact Int.le_refl _
        · exact absurd ⟨j, by omega, hpj⟩ hx⟩

/-- The least return, the greatest call of each value's ops. -/
theorem edges_of (g : Rg) : ∃ E B : Int → Int, ∀ i, i < g.n →
    (∃ j, j < g.n ∧ g.v j = g.v i ∧ g.e j = E (g.v i)) ∧ E (g.v i) ≤ g.e i ∧ (∃ j, j < g.n ∧ g.v j = g.v i ∧ g.c j = B (g.v i)) ∧ g.c i ≤ B (g.v i) := by
  have h1 : ∀ A : Int, ∃ m : Int, (∃ i, i < g.n ∧ g.v i = A) → (∃ j, j < g.n ∧ g.v j = A ∧ g.e j = m) ∧ ∀ i, i < g.n → g.v i = A → m ≤ g.e i := by
    intro A
    by_cases hx : ∃ i, i < g.n ∧ g.v i = A
    · obtain ⟨i, hi, e, hl⟩ := least_of g.e (fun i => g.v i = A) g.n hx
      exact ⟨g.e i, fun _ => ⟨⟨i, hi, e, rfl⟩, hl⟩⟩
    · exact ⟨0, fun h => absurd h hx⟩
  have h2 : ∀ A : Int, ∃ m : Int, (∃ i, i < g.n ∧ g.v i = A) → (∃ j, j < g.n ∧ g.v j = A ∧ g.c j = m) ∧ ∀ i, i < g.n → g.v i = A → g.c i ≤ m := by
    intro A
    by_cases hx : ∃ i, i < g.n ∧ g.v i = A
    · obtain ⟨i, hi, e, hl⟩ := least_of (fun i => -g.c i) (fun i => g.v i = A) g.n hx
      exact ⟨g.c i, fun _ => ⟨⟨i, hi, e, rfl⟩, fun j hj ej => by have := hl j hj ej; omega⟩⟩
    · exact ⟨0, fun h => absurd h hx⟩
  refine ⟨fun A => Classical.choose (h1 A), fun A => Classical.choose (h2 A), fun i hi => ?_⟩
  have a := Classical.choose_spec (h1 (g.v i)) ⟨i, hi, rfl⟩
  have b := Classical.choose_spec (h2 (g.v i)) ⟨i, hi, rfl⟩
  exact ⟨a.1, a.2 i hi rfl, b.1, b.2 i hi rfl⟩

theorem sorted_of (key : Nat → Int) (n : Nat) : ∃ ord : List Nat, ord.Perm (List.range n) ∧ ∀ p q, p < q → q < ord.length → key (ord.getD p 0) ≤ key (ord.getD q 0) := by
  refine ⟨(List.range n).mergeSort (fun a b => decide (key a ≤ key b)), List.mergeSort_perm _ _, fun p q hpq hq => ?_⟩
  have hs : ((List.range n).mergeSort (fun a b => decide (key a ≤ key b))).Pairwise (fun a b => decide (key a ≤ key b) = true) :=
    List.pairwise_mergeSort (fun a b c h1 h2 => by simp only [decide_eq_true_eq] at *; omega) (fun a b => by simp only [Bool.or_eq_true, decide_eq_true_eq]; omega) _
  have hp := Nat.lt_trans hpq hq
  have := (List.pairwise_iff_getElem.1 hs) p q hp hq hpq
  simpa [List.getD_eq_getElem?_getD, List.getElem?_eq_getElem hq, List.getElem?_eq_getElem hp] using this

theorem key_mid {t1 t2 v1 v2 f : Int} {j a b : Nat} (h1 : -1000000 ≤ v1 ∧ v1 ≤ 1000000) (h2 : -1000000 ≤ v2 ∧ v2 ≤ 1000000) (hf : 0 ≤ f ∧ f ≤ 1) (hj : j < 64) (ha : a < 64) (hb : b < 64)
    (k1 : ((t1 * 4000001 + v1) * 2 + 0) * 64 + (j : Int) ≤ ((t2 * 4000001 + v2) * 2 + f) * 64 + b) (k2 : ((t2 * 4000001 + v2) * 2 + f) * 64 + (b : Int) ≤ ((t1 * 4000001 + v1) * 2 + 1) * 64 + a) : v1 = v2 := by
  have e : t1 * 4000001 + v1 = t2 * 4000001 + v2 := by omega
  have : t1 = t2 := by omega
  omega

/-- THE ORDER THAT IS MADE. -/
theorem gk_if {g : Rg} (ok : g.Ok) (hs : g.Src) (ha : g.Apart) : ∃ ord, g.Good ord := by
  obtain ⟨E, B, hEB⟩ := edges_of g
  -- the farthest edge of a value
  let T : Int → Int := fun A => if A = 0 then -1 else max (E A) (B A)
  -- 0's calls come ahead of all other returns
  have hcross : ∀ a b, a < g.n → b < g.n → g.v a ≠ 0 → g.v b ≠ 0 → g.v a ≠ g.v b → g.e b < g.c a → T (g.v b) < T (g.v a) := by
    intro a b hla hlb h0a h0b hne hbe
    obtain ⟨⟨i, hi, vi, ei⟩, hEa, _, hBa⟩ := hEB a hla
    obtain ⟨_, hEb, ⟨j, hj, vj, cj⟩, hBb⟩ := hEB b hlb
    have h1 := ha.two i j b a hi hj hlb hla vi vj (by rw [vi, vj]; exact hne)
    have h2 := ok.own i j hi hj
    simp only [T, if_neg h0a, if_neg h0b]
    have : ¬ g.e i < g.c j := fun h => h1 ⟨h, hbe⟩
    omega
  have hT0 : ∀ b, b < g.n → g.v b ≠ 0 → (0 : Int) ≤ T (g.v b) := by
    intro b hlb h0
    obtain ⟨_, _, _, hBb⟩ := hEB b hlb
    have := ok.pos b hlb
    simp only [T, if_neg h0]
    omega
  have hTle : ∀ b, b < g.n → g.v b ≠ 0 → ∃ j, j < g.n ∧ (T (g.v b) = g.e j ∨ T (g.v b) = g.c j) := by
    intro b hlb h0
    obtain ⟨⟨i, hi, _, ei⟩, _, ⟨j, hj, _, cj⟩, _⟩ := hEB b hlb
    simp only [T, if_neg h0]
    by_cases hm : E (g.v b) ≤ B (g.v b)
    · exact ⟨j, hj, .inr (by omega)⟩
    · exact ⟨i, hi, .inl (by omega)⟩
  let key : Nat → Int := fun i => ((T (g.v i) * 4000001 + g.v i) * 2 + (if g.w i = true then 0 else 1)) * 64 + i
  have hkT : ∀ a b, a < g.n → b < g.n → T (g.v a) < T (g.v b) → key a < key b := by
    intro a b hla hlb h
    have := ok.num a hla; have := ok.num b hlb; have := ok.few
    simp only [key]
    split <;> split <;> omega
  obtain ⟨ord, hp, hsort⟩ := sorted_of key g.n
  have hmem : ∀ p, p < ord.length → ord.getD p 0 < g.n := fun p hpl => by
    have : ord.getD p 0 ∈ ord := by rw [List.getD_eq_getElem?_getD, List.getElem?_eq_getElem hpl]; exact List.getElem_mem hpl
    exact List.mem_range.1 (hp.mem_iff.1 this)
  have hinj : ∀ p q, p < q → q < ord.length → ord.getD p 0 ≠ ord.getD q 0 := fun p q hpq hq => by
    have hd : ord.Nodup := hp.nodup_iff.2 List.nodup_range
    have hp := Nat.lt_trans hpq hq
    have := (List.pairwise_iff_getElem.1 hd) p q hp hq hpq
    simpa [List.getD_eq_getElem?_getD, List.getElem?_eq_getElem hq, List.getElem?_eq_getElem hp] using this
  refine ⟨ord, hp, ?_, ?_⟩
  · intro p q hpq hq hb
    have hla := hmem p (by omega); have hlb := hmem q hq
    have hk := hsort p q hpq hq
    have hne := hinj p q hpq hq
    generalize ord.getD p 0 = a at *
    generalize ord.getD q 0 = b at *
    by_cases h0a : g.v a = 0
    · by_cases h0b : g.v b = 0
      · -- both tell 0: neither writes
        have hwa : g.w a = false := by cases h : g.w a with | false => rfl | true => exact absurd h0a (ok.some a hla h)
        have hwb : g.w b = false := by cases h : g.w b with | false => rfl | true => exact absurd h0b (ok.some b hlb h)
        have : b < a := by
          rcases Nat.lt_trichotomy a b with h | h | h
          · have := ok.rise a b h hlb; have := ok.pos b hlb; omega
          · exact absurd h hne
          · exact h
        simp only [key, h0a, h0b, hwa, hwb] at hk
        omega
      · exact ha.nought b a hlb hla h0b h0a hb
    · by_cases h0b : g.v b = 0
      · have h1 := hT0 a hla h0a
        have h2 : T (g.v b) = -1 := by simp only [T, if_pos h0b]
        have := hkT b a hlb hla (by omega)
        omega
      · by_cases hv : g.v a = g.v b
        · have hlt : b < a := by
            rcases Nat.lt_trichotomy a b with h | h | h
            · have := ok.rise a b h hlb; have := ok.pos b hlb; omega
            · exact absurd h hne
            · exact h
          cases hwa : g.w a with
          | true =>
            cases hwb : g.w b with
            | true => exact hne (ok.once a b hla hlb hwa hwb hv)
            | false =>
              obtain ⟨j, hj, hwj, hvj, hcj⟩ := hs b hlb hwb h0b
              have : j = a := ok.once j a hj hla hwj hwa (by rw [hvj, hv])
              subst this
              omega
          | false =>
            simp only [key, hv, hwa] at hk
            cases hwb : g.w b with
            | true => simp only [hwb] at hk; have := ok.few; simp at hk; omega
            | false => simp only [hwb] at hk; simp at hk; omega
        · have := hkT b a hlb hla (hcross a b hla hlb h0a h0b hv hb)
          omega
  · intro p hpl hw
    have hla := hmem p hpl
    cases p with
    | zero =>
      show _ = (0 : Int)
      by_cases h0 : g.v (ord.getD 0 0) = 0
      · exact h0
      · exfalso
        obtain ⟨j, hj, hwj, hvj, _⟩ := hs _ hla hw h0
        obtain ⟨q, hq, e⟩ : ∃ q, q < ord.length ∧ ord.getD q 0 = j := by
          obtain ⟨q, hq, e⟩ := List.getElem_of_mem (hp.mem_iff.2 (List.mem_range.2 hj))
          exact ⟨q, hq, by rw [List.getD_eq_getElem?_getD, List.getElem?_eq_getElem hq]; exact e⟩
        have hq0 : q ≠ 0 := by intro e0; subst e0; rw [e, hwj] at hw; cases hw
        have := hsort 0 q (by omega) hq
        rw [e] at this
        simp only [key, hvj, hwj, hw, if_true] at this
        have := ok.few
        rw [if_neg (by decide)] at *
        omega
    | succ p =>
      show _ = g.v (ord.getD p 0)
      have hlb := hmem p (by omega)
      have hk := hsort p (p + 1) (by omega) hpl
      by_cases h0 : g.v (ord.getD (p + 1) 0) = 0
      · rw [h0]
        by_cases h0b : g.v (ord.getD p 0) = 0
        · exact h0b.symm
        · exfalso
          have h1 := hT0 _ hlb h0b
          have h2 : T (g.v (ord.getD (p + 1) 0)) = -1 := by simp only [T, if_pos h0]
          have := hkT _ _ hla hlb (by omega)
          omega
      · obtain ⟨j, hj, hwj, hvj, _⟩ := hs _ hla hw h0
        obtain ⟨q, hq, e⟩ : ∃ q, q < ord.length ∧ ord.getD q 0 = j := by
          obtain ⟨q, hq, e⟩ := List.getElem_of_mem (hp.mem_iff.2 (List.mem_range.2 hj))
          exact ⟨q, hq, by rw [List.getD_eq_getElem?_getD, List.getElem?_eq_getElem hq]; exact e⟩
        have hfew := ok.few
        have hqp : q ≤ p := by
          by_cases hqp : q ≤ p
          · exact hqp
          · exfalso
            have hne : q ≠ p + 1 := by intro e0; subst e0; rw [e, hwj] at hw; cases hw
            have := hsort (p + 1) q (by omega) hq
            rw [e] at this
            simp only [key, hvj, hwj, hw] at this
            simp at this
            omega
        have hjp : key j ≤ key (ord.getD p 0) := by
          by_cases e0 : q = p
          · subst e0; rw [e]; exact Int.le_refl _
          · have := hsort q p (by omega) (by omega); rwa [e] at this
        have hn1 := ok.num _ hla
        have hn2 := ok.num _ hlb
        have hf : (0 : Int) ≤ (if g.w (ord.getD p 0) = true then 0 else 1) ∧ (if g.w (ord.getD p 0) = true then (0 : Int) else 1) ≤ 1 := by split <;> omega
        refine key_mid hn1 hn2 hf (show j < 64 by omega) (show ord.getD (p + 1) 0 < 64 by omega) (show ord.getD p 0 < 64 by omega) (t1 := T (g.v (ord.getD (p + 1) 0))) (t2 := T (g.v (ord.getD p 0))) ?_ ?_
        · simpa only [key, hvj, hwj, if_true] using hjp
        · have hk1 : key (ord.getD (p + 1) 0) = ((T (g.v (ord.getD (p + 1) 0)) * 4000001 + g.v (ord.getD (p + 1) 0)) * 2 + 1) * 64 + (ord.getD (p + 1) 0 : Nat) := by
            simp only [key, hw]; rfl
          rw [← hk1]; exact hk

end Go.Proofs.YtfojmbbhcmeejaaDoor

namespace Go.Proofs.YtfojmbbhcmeejaaDoor

/-- Of a queue: w tells who pushes. -/
structure Rg.QOk (g : Rg) : Prop where
  few : g.n ≤ 64
  pos : ∀ i, i < g.n → 0 ≤ g.c i ∧ g.c i < g.e i
  num : ∀ i, i < g.n → g.e i ≤ 1000000
  own : ∀ i j, i < g.n → j < g.n → g.e i ≠ g.c j
  once : ∀ i j, i < g.n → j < g.n → g.w i = true → g.w j = true → g.v i = g.v j → i = j

structure Rg.Fine (g : Rg) : Prop where
  thin : ∀ i, i < g.n → g.w i = false → ∃ j, j < g.n ∧ g.w j = true ∧ g.v j = g.v i
  twice : ∀ i k, i < g.n → k < g.n → g.w i = false → g.w k = false → g.v i = g.v k → i = k
  early : ∀ i j, i < g.n → j < g.n → g.w i = false → g.w j = true → g.v i = g.v j → ¬ g.e i < g.c j
  crossed : ∀ a b q, a < g.n → b < g.n → q < g.n → g.w a = true → g.w b = true → g.w q = false → g.v q = g.v b → g.e a < g.c b →
    ∃ x, x < g.n ∧ g.w x = false ∧ g.v x = g.v a ∧ ¬ g.e q < g.c x

/-- What is done one behind the other leaves this in the queue. -/
inductive Rg.Fifo (g : Rg) : List Nat → List Int → Prop
  | nil : Rg.Fifo g [] []
  | push {l st i} : Rg.Fifo g l st → g.w i = true → Rg.Fifo g (l ++ [i]) (st ++ [g.v i])
  | pop {l st i} : Rg.Fifo g l (g.v i :: st) → g.w i = false → Rg.Fifo g (l ++ [i]) st

structure Rg.QGood (g : Rg) (ord : List Nat) : Prop where
  perm : ord.Perm (List.range g.n)
  time : ∀ p q, (hpq : p < q) → (hq : q < ord.length) → ¬ g.e ord[q] < g.c (ord[p]'(Nat.lt_trans hpq hq))
  fifo : ∃ st, g.Fifo ord st

def Rg.ins (g : Rg) (l : List Nat) : List Int := (l.filter g.w).map g.v
def Rg.outs (g : Rg) (l : List Nat) : List Int := (l.filter fun i => !g.w i).map g.v

section
variable {g : Rg} {ord : List Nat}

theorem fifo_sum {l : List Nat} {st : List Int} (h : g.Fifo l st) : g.ins l = g.outs l ++ st := by
  induction h with
  | nil => rfl
  | @push l st i _ hw ih => simp only [Rg.ins, Rg.outs] at *; simp [List.filter_append, hw, ih]
  | @pop l st i _ hw ih => simp only [Rg.ins, Rg.outs] at *; simp [List.filter_append, hw, ih]

theorem fifo_at {l : List Nat} {st : List Int} (h : g.Fifo l st) : ∀ p, (hp : p < l.length) → g.w l[p] = false → ∃ s, g.Fifo (l.take p) (g.v l[p] :: s) := by
  induction h with
  | nil => intro p hp; simp at hp
  | @push l st i _ hw ih =>
    intro p hp hf
    by_cases hpl : p < l.length
    · have e : (l ++ [i])[p]'hp = l[p] := List.getElem_append_left hpl
      rw [e] at hf ⊢
      rw [List.take_append_of_le_length (by omega)]
      exact ih p hpl hf
    · have : p = l.length := by simp at hp; omega
      subst this
      have e : (l ++ [i])[l.length]'hp = i := by simp
      rw [e, hw] at hf; cases hf
  | @pop l st i h0 hw ih =>
    intro p hp hf
    by_cases hpl : p < l.length
    · have e : (l ++ [i])[p]'hp = l[p] := List.getElem_append_left hpl
      rw [e] at hf ⊢
      rw [List.take_append_of_le_length (by omega)]
      exact ih p hpl hf
    · have : p = l.length := by simp at hp; omega
      subst this
      have e : (l ++ [i])[l.length]'hp = i := by simp
      rw [e]
      rw [List.take_append_of_le_length (by omega), List.take_of_length_le (by omega)]
      exact ⟨st, h0⟩

theorem cut_one {b : Int} : ∀ {x x' y y' : List Int}, x ++ b :: y = x' ++ b :: y' → b ∉ x → b ∉ x' → x = x'
  | [], [], _, _, _, _, _ => rfl
  | [], a :: x', _, _, h, _, h' => by simp at h; exact absurd (by simp [h.1]) h'
  | a :: x, [], _, _, h, h', _ => by simp at h; exact absurd (by simp [h.1]) h'
  | a :: x, a' :: x', y, y', h, h1, h2 => by
    simp at h
    rw [h.1, cut_one h.2 (fun hm => h1 (List.mem_cons_of_mem _ hm)) (fun hm => h2 (List.mem_cons_of_mem _ hm))]

theorem ins_nodup (ok : g.QOk) {l : List Nat} (hn : l.Nodup) (hr : ∀ x ∈ l, x < g.n) : (g.ins l).Nodup := by
  unfold Rg.ins
  rw [List.nodup_iff_pairwise_ne, List.pairwise_map]
  refine List.Pairwise.imp_of_mem ?_ (List.Pairwise.filter g.w hn)
  intro a b ha hb hne e
  have ha := List.mem_filter.1 ha
  have hb := List.mem_filter.1 hb
  exact hne (ok.once a b (hr a ha.1) (hr b hb.1) ha.2 hb.2 e)

theorem mem_ins {l : List Nat} {x : Int} : x ∈ g.ins l ↔ ∃ i ∈ l, g.w i = true ∧ g.v i = x := by
  simp only [Rg.ins, List.mem_map, List.mem_filter]
  constructor
  · rintro ⟨i, ⟨h1, h2⟩, h3⟩; exact ⟨i, h1, h2, h3⟩
  · rintro ⟨i, h1, h2, h3⟩; exact ⟨i, ⟨h1, h2⟩, h3⟩
theorem mem_outs {l : List Nat} {x : Int} : x ∈ g.outs l ↔ ∃ i ∈ l, g.w i = false ∧ g.v i = x := by
  simp only [Rg.outs, List.mem_map, List.mem_filter, Bool.not_eq_true']
  constructor
  · rintro ⟨i, ⟨h1, h2⟩, h3⟩; exact ⟨i, h1, h2, h3⟩
  · rintro ⟨i, h1, h2, h3⟩; exact ⟨i, ⟨h1, h2⟩, h3⟩

/-- AN ORDER KEEPS ALL FOUR. -/
theorem qu_only (ok : g.QOk) (h : g.QGood ord) : g.Fine := by
  obtain ⟨st, hf⟩ := h.fifo
  have hd : ord.Nodup := h.perm.nodup_iff.2 List.nodup_range
  have hr : ∀ x ∈ ord, x < g.n := fun x hx => List.mem_range.1 (h.perm.mem_iff.1 hx)
  have place : ∀ i, i < g.n → ∃ p, ∃ hp : p < ord.length, ord[p] = i := fun i hi => List.getElem_of_mem (h.perm.mem_iff.2 (List.mem_range.2 hi))
  have inTake : ∀ {i p : Nat}, i ∈ ord.take p → ∃ q, ∃ hq : q < ord.length, q < p ∧ ord[q] = i := by
    intro i p hi
    obtain ⟨q, hq, e⟩ := List.mem_take_iff_getElem.1 hi
    exact ⟨q, by omega, by omega, e⟩
  have same : ∀ {p q : Nat} (hp : p < ord.length) (hq : q < ord.length), ord[p] = ord[q] → p = q := by
    intro p q hp hq e
    rcases Nat.lt_trichotomy p q with hl | hl | hl
    · exact absurd e ((List.pairwise_iff_getElem.1 hd) p q hp hq hl)
    · exact hl
    · exact absurd e.symm ((List.pairwise_iff_getElem.1 hd) q p hq hp hl)
  have ahead : ∀ {p q : Nat} (hp : p < ord.length) (hq : q < ord.length), g.e ord[p] < g.c ord[q] → p < q := by
    intro p q hp hq hb
    rcases Nat.lt_trichotomy p q with hl | hl | hl
    · exact hl
    · subst hl; have := ok.pos _ (hr _ (List.getElem_mem hp)); omega
    · exact absurd hb (h.time q p hl hp)
  have tn : ∀ p, (ord.take p).Nodup := fun p => List.Pairwise.sublist (List.take_sublist p ord) hd
  have tr : ∀ p, ∀ x ∈ ord.take p, x < g.n := fun p x hx => hr x (List.mem_of_mem_take hx)
  -- a pop's push stands ahead of it
  have pushed : ∀ p, (hp : p < ord.length) → g.w ord[p] = false → ∃ q, ∃ hq : q < ord.length, q < p ∧ g.w ord[q] = true ∧ g.v ord[q] = g.v ord[p] := by
    intro p hp hw
    obtain ⟨s, hs⟩ := fifo_at hf p hp hw
    have : g.v ord[p] ∈ g.ins (ord.take p) := by rw [fifo_sum hs]; simp
    obtain ⟨i, hi, hwi, e⟩ := mem_ins.1 this
    obtain ⟨q, hq, hqp, e'⟩ := inTake hi
    subst e'
    exact ⟨q, hq, hqp, hwi, e⟩
  refine ⟨?_, ?_, ?_, ?_⟩
  · intro i hi hw
    obtain ⟨p, hp, rfl⟩ := place i hi
    obtain ⟨q, hq, _, hwq, e⟩ := pushed p hp hw
    exact ⟨_, hr _ (List.getElem_mem hq), hwq, e⟩
  · intro i k hi hk hwi hwk e
    have key : ∀ p t, (hp : p < ord.length) → (ht : t < ord.length) → p < t → g.w ord[p] = false → g.w ord[t] = false → g.v ord[p] = g.v ord[t] → False := by
      intro p t hp ht hpt hwp hwt e
      obtain ⟨s, hs⟩ := fifo_at hf t ht hwt
      have hn := ins_nodup ok (tn t) (tr t)
      rw [fifo_sum hs, List.nodup_append] at hn
      refine hn.2.2 _ (mem_outs.2 ⟨ord[p], ?_, hwp, e⟩) _ (List.mem_cons_self ..) rfl
      exact List.mem_take_iff_getElem.2 ⟨p, by omega, rfl⟩
    obtain ⟨p, hp, rfl⟩ := place i hi
    obtain ⟨t, ht, rfl⟩ := place k hk
    rcases Nat.lt_trichotomy p t with hl | hl | hl
    · exact (key p t hp ht hl hwi hwk e).elim
    · subst hl; rfl
    · exact (key t p ht hp hl hwk hwi e.symm).elim
  · intro i j hi hj hwi hwj e hb
    obtain ⟨p, hp, rfl⟩ := place i hi
    obtain ⟨t, ht, rfl⟩ := place j hj
    obtain ⟨q, hq, hqp, hwq, e'⟩ := pushed p hp hwi
    have : ord[q] = ord[t] := ok.once _ _ (hr _ (List.getElem_mem hq)) hj hwq hwj (by rw [e', e])
    have := same hq ht this
    subst this
    have := ahead hp ht hb
    omega
  · intro a b q ha hb hq hwa hwb hwq e hab
    obtain ⟨pa, hpa, rfl⟩ := place a ha
    obtain ⟨pb, hpb, rfl⟩ := place b hb
    obtain ⟨t, ht, rfl⟩ := place q hq
    have hpab := ahead hpa hpb hab
    obtain ⟨pb', hpb', hlt, hwb', e'⟩ := pushed t ht hwq
    have : pb' = pb := same hpb' hpb (ok.once _ _ (hr _ (List.getElem_mem hpb')) hb hwb' hwb (by rw [e', e]))
    subst this
    obtain ⟨s, hs⟩ := fifo_at hf t ht hwq
    have hsum := fifo_sum hs
    have hn := ins_nodup ok (tn t) (tr t)
    -- what was pushed up to t, cut at b
    have hcut : ord.take t = ord.take pb' ++ ord[pb'] :: (ord.take t).drop (pb' + 1) := by
      have h1 : ord.take pb' = (ord.take t).take pb' := by rw [List.take_take]; congr 1; omega
      have h2 : ord[pb'] = (ord.take t)[pb']'(by simp; omega) := by rw [List.getElem_take]
      rw [h1, h2, ← List.drop_eq_getElem_cons, List.take_append_drop]
    have hins : g.ins (ord.take t) = g.ins (ord.take pb') ++ g.v ord[pb'] :: g.ins ((ord.take t).drop (pb' + 1)) := by
      conv => lhs; rw [hcut]
      simp [Rg.ins, List.filter_append, hwb]
    rw [← e] at hins
    have hn1 := hn
    rw [hins, List.nodup_append] at hn1
    rw [hsum, List.nodup_append] at hn
    have heq := cut_one (hins.symm.trans hsum) (fun hm => hn1.2.2 _ hm _ (List.mem_cons_self ..) rfl) (fun hm => hn.2.2 _ hm _ (List.mem_cons_self ..) rfl)
    have hmem : g.v ord[pa] ∈ g.outs (ord.take t) := by
      rw [← heq]
      exact mem_ins.2 ⟨_, List.mem_take_iff_getElem.2 ⟨pa, by omega, rfl⟩, hwa, rfl⟩
    obtain ⟨x, hx, hwx, ex⟩ := mem_outs.1 hmem
    obtain ⟨px, hpx, hlx, rfl⟩ := inTake hx
    exact ⟨_, hr _ (List.getElem_mem hpx), hwx, ex, h.time px t hlx ht⟩
end

end Go.Proofs.YtfojmbbhcmeejaaDoor

namespace Go.Proofs.YtfojmbbhcmeejaaDoor

/-- Of things with two times each (a from a's β to α, from δ to γ) one is ahead of all, if no two are each ahead of the other one. -/
theorem source_of {α β γ δ : Nat → Int} (S : List Nat) (hS : S ≠ []) (h1 : ∀ a ∈ S, β a < α a) (h2 : ∀ a ∈ S, δ a < γ a)
    (h3 : ∀ a ∈ S, ∀ b ∈ S, ¬ (α a < β b ∧ γ b < δ a)) : ∃ a ∈ S, ∀ b ∈ S, ¬ (α b < β a ∨ γ b < δ a) := by
  have least : ∀ (f : Nat → Int) (S : List Nat), S ≠ [] → ∃ a ∈ S, ∀ b ∈ S, f a ≤ f b := by
    intro f S
    induction S with
    | nil => intro h; exact absurd rfl h
    | cons x S ih =>
      intro _
      by_cases hS : S = []
      · subst hS; exact ⟨x, by simp, fun b hb => by simp at hb; rw [hb]; exact Int.le_refl _⟩
      · obtain ⟨a, ha, hl⟩ := ih hS
        by_cases hx : f x ≤ f a
        · refine ⟨x, by simp, fun b hb => ?_⟩
          rcases List.mem_cons.1 hb with rfl | hb
          · exact Int.le_refl _
          · exact Int.le_trans hx (hl b hb)
        · refine ⟨a, List.mem_cons_of_mem _ ha, fun b hb => ?_⟩
          rcases List.mem_cons.1 hb with rfl | hb
          · omega
          · exact hl b hb
  obtain ⟨z, hz, lz⟩ := least α S hS
  obtain ⟨u, hu, lu⟩ := least γ S hS
  by_cases hc : γ u < δ z
  · refine ⟨u, hu, fun b hb hor => ?_⟩
    rcases hor with h | h
    · exact h3 z hz u hu ⟨by have := lz b hb; omega, hc⟩
    · have := lu b hb; have := h2 u hu; omega
  · refine ⟨z, hz, fun b hb hor => ?_⟩
    rcases hor with h | h
    · have := lz b hb; have := h1 z hz; omega
    · have := lu b hb; omega

/-- So they can be put one behind the other. -/
theorem line_of {α β γ δ : Nat → Int} : ∀ (m : Nat) (S : List Nat), S.length = m → S.Nodup → (∀ a ∈ S, β a < α a) → (∀ a ∈ S, δ a < γ a) →
    (∀ a ∈ S, ∀ b ∈ S, ¬ (α a < β b ∧ γ b < δ a)) → ∃ L : List Nat, L.Perm S ∧ L.Pairwise fun a b => ¬ (α b < β a ∨ γ b < δ a)
  | 0, S, hm, _, _, _, _ => ⟨[], by rw [List.length_eq_zero_iff.1 hm], .nil⟩
  | m + 1, S, hm, hn, h1, h2, h3 => by
    obtain ⟨a, ha, hs⟩ := source_of S (fun e => by simp [e] at hm) h1 h2 h3
    have sub : ∀ x ∈ S.erase a, x ∈ S := fun x hx => List.mem_of_mem_erase hx
    obtain ⟨L, hL, hp⟩ := line_of m (S.erase a) (by rw [List.length_erase_of_mem ha]; omega) (hn.erase a) (fun x hx => h1 x (sub x hx)) (fun x hx => h2 x (sub x hx))
      (fun x hx y hy => h3 x (sub x hx) y (sub y hy))
    exact ⟨a :: L, (hL.cons a).trans (List.perm_cons_erase ha).symm, List.pairwise_cons.2 ⟨fun b hb => hs b (sub b (hL.mem_iff.1 hb)), hp⟩⟩

/-- The greatest of a row's first numbers. -/
def topI (f : Nat → Int) : Nat → Int
  | 0 => f 0
  | k + 1 => max (topI f k) (f (k + 1))
theorem topI_ge (f : Nat → Int) : ∀ k j, j ≤ k → f j ≤ topI f k
  | 0, j, h => by rw [Nat.le_zero.1 h]; exact Int.le_refl _
  | k + 1, j, h => by
    unfold topI
    by_cases e : j = k + 1
    · subst e; omega
    · have := topI_ge f k j (by omega); omega
theorem topI_lt (f : Nat → Int) (x : Int) : ∀ k, (∀ j, j ≤ k → f j < x) → topI f k < x
  | 0, h => h 0 (Nat.le_refl _)
  | k + 1, h => by
    unfold topI
    have := topI_lt f x k (fun j hj => h j (by omega))
    have := h (k + 1) (Nat.le_refl _)
    omega
theorem topI_mono (f : Nat → Int) {j k : Nat} (h : j ≤ k) : topI f j ≤ topI f k := by
  induction k with
  | zero => rw [Nat.le_zero.1 h]; exact Int.le_refl _
  | succ k ih =>
    by_cases e : j = k + 1
    · subst e; exact Int.le_refl _
    · have := ih (by omega)
      show _ ≤ max (topI f k) (f (k + 1))
      omega

/-- THE ORDER THAT IS MADE. -/
theorem qu_if {g : Rg} (ok : g.QOk) (hf : g.Fine) : ∃ ord, g.QGood ord := by
  -- who pops what was pushed by a (g.n: nobody)
  have hpi : ∀ a : Nat, ∃ q : Nat, (q < g.n ∧ g.w q = false ∧ g.v q = g.v a) ∨ (q = g.n ∧ ∀ x, x < g.n → g.w x = false → g.v x ≠ g.v a) := by
    intro a
    by_cases h : ∃ q, q < g.n ∧ g.w q = false ∧ g.v q = g.v a
    · obtain ⟨q, hq⟩ := h; exact ⟨q, .inl hq⟩
    · exact ⟨g.n, .inr ⟨rfl, fun x hx hw e => h ⟨x, hx, hw, e⟩⟩⟩
  let π : Nat → Nat := fun a => Classical.choose (hpi a)
  have hπ : ∀ a, (π a < g.n ∧ g.w (π a) = false ∧ g.v (π a) = g.v a) ∨ (π a = g.n ∧ ∀ x, x < g.n → g.w x = false → g.v x ≠ g.v a) := fun a => Classical.choose_spec (hpi a)
  have hπlt : ∀ a, π a < g.n → g.w (π a) = false ∧ g.v (π a) = g.v a := fun a h => by
    rcases hπ a with h1 | h1
    · exact h1.2
    · omega
  have hπof : ∀ a q, q < g.n → g.w q = false → g.v q = g.v a → q = π a := fun a q hq hw e => by
    rcases hπ a with h1 | h1
    · exact hf.twice q (π a) hq h1.1 hw h1.2.1 (by rw [e, h1.2.2])
    · exact absurd e (h1.2 q hq hw)
  let γ : Nat → Int := fun a => if π a < g.n then g.e (π a) else 3000000
  let δ : Nat → Int := fun a => if π a < g.n then max (g.c (π a)) (g.c a) else 2000000
  let α : Nat → Int := fun a => min (g.e a) (γ a)
  let S := (List.range g.n).filter g.w
  have hS : ∀ a, a ∈ S ↔ a < g.n ∧ g.w a = true := fun a => by simp [S]
  have hearly : ∀ a, a ∈ S → π a < g.n → g.c a < g.e (π a) := fun a ha h => by
    have ha := (hS a).1 ha
    have h1 := hπlt a h
    have := hf.early (π a) a h ha.1 h1.1 ha.2 h1.2
    have := ok.own (π a) a h ha.1
    omega
  have hγc : ∀ a, a ∈ S → g.c a < γ a := fun a ha => by
    simp only [γ]
    split
    · exact hearly a ha (by assumption)
    · have := (hS a).1 ha; have := ok.pos a this.1; have := ok.num a ((hS a).1 ha).1; omega
  have h1 : ∀ a ∈ S, g.c a < α a := fun a ha => by
    have := hγc a ha; have := ok.pos a ((hS a).1 ha).1
    simp only [α]; omega
  have h2 : ∀ a ∈ S, δ a < γ a := fun a ha => by
    simp only [γ, δ]
    split
    · rename_i h
      have := hearly a ha h; have := ok.pos _ h; omega
    · omega
  have h3 : ∀ a ∈ S, ∀ b ∈ S, ¬ (α a < g.c b ∧ γ b < δ a) := by
    intro a ha b hb ⟨hx, hy⟩
    have hga := hγc a ha; have hgb := hγc b hb
    have hma := (hS a).1 ha; have hmb := (hS b).1 hb
    have pa := ok.pos a hma.1; have na := ok.num a hma.1
    have pb := ok.pos b hmb.1; have nb := ok.num b hmb.1
    by_cases hpb : π b < g.n
    · have ppb := ok.pos _ hpb; have npb := ok.num _ hpb
      have qb := hπlt b hpb
      have eγb : γ b = g.e (π b) := by simp only [γ, if_pos hpb]
      by_cases hpa : π a < g.n
      · have ppa := ok.pos _ hpa
        have qa := hπlt a hpa
        have eγa : γ a = g.e (π a) := by simp only [γ, if_pos hpa]
        have eδa : δ a = max (g.c (π a)) (g.c a) := by simp only [δ, if_pos hpa]
        simp only [α] at hx
        rw [eγa] at hx hga; rw [eγb] at hy hgb; rw [eδa] at hy
        by_cases hab : g.e a < g.c b
        · obtain ⟨x, hxl, hwx, hvx, hnx⟩ := hf.crossed a b (π b) hma.1 hmb.1 hpb hma.2 hmb.2 qb.1 qb.2 hab
          have := hπof a x hxl hwx hvx
          subst this
          omega
        · omega
      · have eγa : γ a = 3000000 := by simp only [γ, if_neg hpa]
        simp only [α] at hx
        rw [eγa] at hx
        obtain ⟨x, hxl, hwx, hvx, _⟩ := hf.crossed a b (π b) hma.1 hmb.1 hpb hma.2 hmb.2 qb.1 qb.2 (by omega)
        have := hπof a x hxl hwx hvx
        omega
    · have eγb : γ b = 3000000 := by simp only [γ, if_neg hpb]
      rw [eγb] at hy
      simp only [δ] at hy
      split at hy
      · rename_i hpa
        have := ok.pos _ hpa; have := ok.num _ hpa
        omega
      · omega
  obtain ⟨L, hL, hpair⟩ := line_of (α := α) (β := g.c) (γ := γ) (δ := δ) S.length S rfl (List.Pairwise.filter _ List.nodup_range) h1 h2 h3
  have hLS : ∀ a, a ∈ L ↔ a < g.n ∧ g.w a = true := fun a => by rw [hL.mem_iff, hS]
  have hLn : L.Nodup := hL.nodup_iff.2 (List.Pairwise.filter _ List.nodup_range)
  have hlen : L.length ≤ 64 := by
    have : L.length = S.length := hL.length_eq
    have h' : S.length ≤ (List.range g.n).length := List.length_filter_le ..
    rw [List.length_range] at h'
    have := ok.few
    omega
  let it : Nat → Nat := fun k => L.getD k 0
  have itS : ∀ k, k < L.length → it k ∈ L := fun k hk => by
    simp only [it, List.getD_eq_getElem?_getD, List.getElem?_eq_getElem hk]; exact List.getElem_mem hk
  have itL : ∀ k, k < L.length → it k < g.n ∧ g.w (it k) = true := fun k hk => (hLS _).1 (itS k hk)
  have itD : ∀ j k, j < k → k < L.length → ¬ (α (it k) < g.c (it j) ∨ γ (it k) < δ (it j)) := fun j k hjk hk => by
    have hj := Nat.lt_trans hjk hk
    have := (List.pairwise_iff_getElem.1 hpair) j k hj hk hjk
    simpa [it, List.getD_eq_getElem?_getD, List.getElem?_eq_getElem hk, List.getElem?_eq_getElem hj] using this
  have itI : ∀ j k, j < L.length → k < L.length → it j = it k → j = k := fun j k hj hk e => by
    simp only [it, List.getD_eq_getElem?_getD, List.getElem?_eq_getElem hj, List.getElem?_eq_getElem hk, Option.getD_some] at e
    rcases Nat.lt_trichotomy j k with hl | hl | hl
    · exact absurd e ((List.pairwise_iff_getElem.1 hLn) j k hj hk hl)
    · exact hl
    · exact absurd e.symm ((List.pairwise_iff_getElem.1 hLn) k j hk hj hl)
  have hrk : ∀ a : Nat, ∃ k, a ∈ L → k < L.length ∧ it k = a := fun a => by
    by_cases ha : a ∈ L
    · obtain ⟨k, hk, e⟩ := List.getElem_of_mem ha
      exact ⟨k, fun _ => ⟨hk, by simp [it, List.getD_eq_getElem?_getD, List.getElem?_eq_getElem hk, e]⟩⟩
    · exact ⟨0, fun h => absurd h ha⟩
  -- an op's rank: that of its value
  have hop : ∀ i : Nat, ∃ k, i < g.n → k < L.length ∧ (g.w i = true → it k = i) ∧ (g.w i = false → π (it k) = i) := fun i => by
    by_cases hi : i < g.n
    · cases hw : g.w i with
      | true =>
        obtain ⟨k, hk⟩ := hrk i
        have := hk ((hLS i).2 ⟨hi, hw⟩)
        exact ⟨k, fun _ => ⟨this.1, fun _ => this.2, fun h => by cases h⟩⟩
      | false =>
        obtain ⟨j, hj, hwj, e⟩ := hf.thin i hi hw
        obtain ⟨k, hk⟩ := hrk j
        have := hk ((hLS j).2 ⟨hj, hwj⟩)
        exact ⟨k, fun _ => ⟨this.1, (fun h => by cases h), fun _ => by rw [this.2]; exact (hπof j i hi hw e.symm).symm⟩⟩
    · exact ⟨0, fun h => absurd h hi⟩
  let rk : Nat → Nat := fun i => Classical.choose (hop i)
  have hrk : ∀ i, i < g.n → rk i < L.length ∧ (g.w i = true → it (rk i) = i) ∧ (g.w i = false → π (it (rk i)) = i) := fun i => Classical.choose_spec (hop i)
  -- the times
  let P : Nat → Int := topI fun k => g.c (it k)
  let Q : Nat → Int := topI fun k => max (g.c (it k)) (g.c (π (it k)))
  have hPe : ∀ k, k < L.length → P k < g.e (it k) ∧ P k < γ (it k) := by
    intro k hk
    have hik := itL k hk
    have pk := ok.pos _ hik.1
    have key : ∀ j, j ≤ k → g.c (it j) < g.e (it k) ∧ g.c (it j) < γ (it k) := by
      intro j hj
      by_cases e : j = k
      · subst e
        exact ⟨pk.2, hγc _ ((hS _).2 hik)⟩
      · have h := itD j k (by omega) hk
        have hij := itL j (by omega)
        have o1 := ok.own (it k) (it j) hik.1 hij.1
        have h' : g.c (it j) ≤ α (it k) := by
          by_cases hlt : α (it k) < g.c (it j)
          · exact absurd (.inl hlt) h
          · omega
        simp only [α] at h'
        refine ⟨by omega, ?_⟩
        have pj := ok.pos _ hij.1; have nj := ok.num _ hij.1
        by_cases hpk : π (it k) < g.n
        · have eγ : γ (it k) = g.e (π (it k)) := by simp only [γ, if_pos hpk]
          have o2 := ok.own (π (it k)) (it j) hpk hij.1
          omega
        · have eγ : γ (it k) = 3000000 := by simp only [γ, if_neg hpk]
          omega
    exact ⟨topI_lt _ _ k (fun j hj => (key j hj).1), topI_lt _ _ k (fun j hj => (key j hj).2)⟩
  have hpop : ∀ j k, j ≤ k → k < L.length → π (it k) < g.n → π (it j) < g.n := by
    intro j k hj hk hpk
    by_cases e : j = k
    · rw [e]; exact hpk
    · have h := itD j k (by omega) hk
      by_cases hpj : π (it j) < g.n
      · exact hpj
      · exfalso
        have e1 : γ (it k) = g.e (π (it k)) := by simp only [γ, if_pos hpk]
        have e2 : δ (it j) = 2000000 := by simp only [δ, if_neg hpj]
        have := ok.num _ hpk
        exact h (.inr (by omega))
  have hQe : ∀ k, k < L.length → π (it k) < g.n → Q k < g.e (π (it k)) := by
    intro k hk hpk
    have eγ : γ (it k) = g.e (π (it k)) := by simp only [γ, if_pos hpk]
    refine topI_lt _ _ k (fun j hj => ?_)
    have hP := (hPe k hk).2
    have hPj := topI_ge (fun k => g.c (it k)) k j hj
    have hc : g.c (π (it j)) < g.e (π (it k)) := by
      have hpj := hpop j k hj hk hpk
      by_cases e : j = k
      · subst e; exact (ok.pos _ hpk).2
      · have h := itD j k (by omega) hk
        have eδ : δ (it j) = max (g.c (π (it j))) (g.c (it j)) := by simp only [δ, if_pos hpj]
        have o := ok.own (π (it k)) (π (it j)) hpk hpj
        have : ¬ γ (it k) < δ (it j) := fun hlt => h (.inr hlt)
        omega
    have hP' : topI (fun k => g.c (it k)) k < γ (it k) := hP
    have hPj' : g.c (it j) ≤ topI (fun k => g.c (it k)) k := hPj
    omega
  let pt : Nat → Int := fun i => if g.w i = true then P (rk i) else Q (rk i)
  let key : Nat → Int := fun i => (pt i * 2 + (if g.w i = true then 0 else 1)) * 64 + rk i
  have hptc : ∀ i, i < g.n → g.c i ≤ pt i := by
    intro i hi
    have h := hrk i hi
    simp only [pt]
    cases hw : g.w i with
    | true =>
      rw [if_pos rfl]
      have := topI_ge (fun k => g.c (it k)) (rk i) (rk i) (Nat.le_refl _)
      simp only [h.2.1 hw] at this
      exact this
    | false =>
      rw [if_neg (by decide)]
      have := topI_ge (fun k => max (g.c (it k)) (g.c (π (it k)))) (rk i) (rk i) (Nat.le_refl _)
      simp only [h.2.2 hw] at this
      exact Int.le_trans (by omega) this
  have hpte : ∀ i, i < g.n → pt i < g.e i := by
    intro i hi
    have h := hrk i hi
    simp only [pt]
    cases hw : g.w i with
    | true =>
      rw [if_pos rfl]
      have := (hPe _ h.1).1
      rwa [h.2.1 hw] at this
    | false =>
      rw [if_neg (by decide)]
      have := hQe _ h.1 (by rw [h.2.2 hw]; exact hi)
      rwa [h.2.2 hw] at this
  obtain ⟨ord, hp, hsort⟩ := sorted_of key g.n
  have hget : ∀ p, (hpl : p < ord.length) → ord.getD p 0 = ord[p] := fun p hpl => by rw [List.getD_eq_getElem?_getD, List.getElem?_eq_getElem hpl]; rfl
  have hmem : ∀ x ∈ ord, x < g.n := fun x hx => List.mem_range.1 (hp.mem_iff.1 hx)
  -- what has a lesser key stands ahead
  have hless : ∀ x m, x < g.n → (hm : m < ord.length) → key x < key ord[m] → x ∈ ord.take m := by
    intro x m hx hm hlt
    obtain ⟨p, hpl, e⟩ := List.getElem_of_mem (hp.mem_iff.2 (List.mem_range.2 hx))
    subst e
    by_cases hpm : p < m
    · exact List.mem_take_iff_getElem.2 ⟨p, by omega, rfl⟩
    · exfalso
      by_cases e : p = m
      · subst e; omega
      · have := hsort m p (by omega) hpl
        rw [hget m hm, hget p hpl] at this
        omega
  have hnot : ∀ m, (hm : m < ord.length) → ord[m] ∉ ord.take m := by
    intro m hm hin
    obtain ⟨q, hq, e⟩ := List.mem_take_iff_getElem.1 hin
    have hd : ord.Nodup := hp.nodup_iff.2 List.nodup_range
    exact (List.pairwise_iff_getElem.1 hd) q m (by omega) hm (by omega) e
  have kPush : ∀ j k, j < k → k < L.length → key (it j) < key (it k) := by
    intro j k hjk hk
    have hij := itL j (by omega); have hik := itL k hk
    have rj : rk (it j) = j := itI _ _ (hrk _ hij.1).1 (by omega) ((hrk _ hij.1).2.1 hij.2)
    have rk' : rk (it k) = k := itI _ _ (hrk _ hik.1).1 hk ((hrk _ hik.1).2.1 hik.2)
    have hm : P j ≤ P k := topI_mono _ (by omega)
    simp only [key, pt, hij.2, hik.2, if_true, rj, rk']
    omega
  have rkPop : ∀ k, k < L.length → π (it k) < g.n → rk (π (it k)) = k := by
    intro k hk hpk
    have hq := hπlt _ hpk
    have h := hrk _ hpk
    have h' := h.2.2 hq.1
    have hir := itL _ h.1
    have hq' := hπlt (it (rk (π (it k)))) (by rw [h']; exact hpk)
    rw [h'] at hq'
    have hik := itL k hk
    exact itI _ _ h.1 hk (ok.once _ _ hir.1 hik.1 hir.2 hik.2 (by rw [← hq'.2, hq.2]))
  have kPop : ∀ j k, j < k → k < L.length → π (it k) < g.n → key (π (it j)) < key (π (it k)) := by
    intro j k hjk hk hpk
    have hpj := hpop j k (by omega) hk hpk
    have rj := rkPop j (by omega) hpj
    have rk' := rkPop k hk hpk
    have hm : Q j ≤ Q k := topI_mono _ (by omega)
    simp only [key, pt, (hπlt _ hpj).1, (hπlt _ hpk).1, rj, rk']
    simp only [Bool.false_eq_true, if_false]
    omega
  have kBoth : ∀ k, k < L.length → π (it k) < g.n → key (it k) < key (π (it k)) := by
    intro k hk hpk
    have hik := itL k hk
    have rk1 : rk (it k) = k := itI _ _ (hrk _ hik.1).1 hk ((hrk _ hik.1).2.1 hik.2)
    have rk2 := rkPop k hk hpk
    have hPQ : P k ≤ Q k := by
      have : P k < Q k + 1 := topI_lt _ _ k (fun j hj => by
        have := topI_ge (fun k => max (g.c (it k)) (g.c (π (it k)))) k j hj
        have h' : max (g.c (it j)) (g.c (π (it j))) ≤ Q k := this
        omega)
      omega
    simp only [key, pt, hik.2, (hπlt _ hpk).1, rk1, rk2]
    simp only [Bool.false_eq_true, if_true, if_false]
    omega
  refine ⟨ord, hp, ?_, ?_⟩
  · intro p q hpq hq hb
    have hpl := Nat.lt_trans hpq hq
    have h1 := hsort p q hpq hq
    rw [hget p hpl, hget q hq] at h1
    have hla := hmem _ (List.getElem_mem hpl); have hlb := hmem _ (List.getElem_mem hq)
    have a1 := hptc _ hla; have a2 := hpte _ hlb
    have r1 := (hrk _ hla).1; have r2 := (hrk _ hlb).1
    simp only [key] at h1
    split at h1 <;> split at h1 <;> omega
  · -- the first s were pushed, the first t popped
    have main : ∀ m, m ≤ ord.length → ∃ s t, t ≤ s ∧ s ≤ L.length ∧ (∀ k, k < L.length → (it k ∈ ord.take m ↔ k < s)) ∧ (∀ k, k < L.length → π (it k) < g.n → (π (it k) ∈ ord.take m ↔ k < t)) ∧
        g.Fifo (ord.take m) (((L.take s).drop t).map g.v) := by
      intro m
      induction m with
      | zero => intro _; exact ⟨0, 0, by omega, by omega, fun k _ => by simp, fun k _ _ => by simp, by simpa using Rg.Fifo.nil⟩
      | succ m ih =>
        intro hm
        obtain ⟨s, t, hts, hsl, hpu, hpo, hfi⟩ := ih (by omega)
        have hml : m < ord.length := by omega
        have ht : ord.take (m + 1) = ord.take m ++ [ord[m]] := by rw [List.take_append_getElem hml]
        have hi := hmem _ (List.getElem_mem hml)
        have hnin := hnot m hml
        have hr := hrk _ hi
        have hls := hless
        generalize hx : ord[m] = i at *
        rw [ht]
        cases hw : g.w i with
        | true =>
          have hit := hr.2.1 hw
          generalize rk i = k at *
          have hks : k = s := by
            have h1 : ¬ k < s := fun h => hnin (by rw [← hit]; exact (hpu k hr.1).2 h)
            by_cases e : k = s
            · exact e
            · exfalso
              have hsk : s < k := by omega
              have := hls (it s) m (itL s (by omega)).1 hml (by rw [hx, ← hit]; exact kPush s k hsk hr.1)
              have := (hpu s (by omega)).1 this
              omega
          subst hks
          refine ⟨k + 1, t, by omega, by omega, fun j hj => ?_, fun j hj hpj => ?_, ?_⟩
          · rw [List.mem_append, List.mem_singleton, hpu j hj]
            constructor
            · rintro (h | h)
              · omega
              · have := itI j k hj hr.1 (by rw [h, hit]); omega
            · intro h
              by_cases e : j = k
              · exact .inr (by rw [e, hit])
              · exact .inl (by omega)
          · rw [List.mem_append, List.mem_singleton, hpo j hj hpj]
            constructor
            · rintro (h | h)
              · exact h
              · have := (hπlt _ hpj).1; rw [h, hw] at this; cases this
            · exact fun h => .inl h
          · have hLk : L[k]'hr.1 = i := by
              have : L[k]'hr.1 = it k := by simp [it, List.getD_eq_getElem?_getD, List.getElem?_eq_getElem hr.1]
              exact this.trans hit
            have : ((L.take (k + 1)).drop t).map g.v = ((L.take k).drop t).map g.v ++ [g.v i] := by
              rw [← List.take_append_getElem hr.1, List.drop_append_of_le_length (by rw [List.length_take]; omega), List.map_append, hLk]; rfl
            rw [this]
            exact .push hfi hw
        | false =>
          have hit := hr.2.2 hw
          generalize rk i = k at *
          have hpk : π (it k) < g.n := by rw [hit]; exact hi
          have hkt : k = t := by
            have h1 : ¬ k < t := fun h => hnin (by rw [← hit]; exact (hpo k hr.1 hpk).2 h)
            by_cases e : k = t
            · exact e
            · exfalso
              have htk : t < k := by omega
              have hpt := hpop t k (by omega) hr.1 hpk
              have := hls (π (it t)) m hpt hml (by rw [hx, ← hit]; exact kPop t k htk hr.1 hpk)
              have := (hpo t (by omega) hpt).1 this
              omega
          subst hkt
          have hks : k < s := (hpu k hr.1).1 (hls (it k) m (itL k hr.1).1 hml (by rw [hx]; have := kBoth k hr.1 hpk; rwa [hit] at this))
          refine ⟨s, k + 1, by omega, hsl, fun j hj => ?_, fun j hj hpj => ?_, ?_⟩
          · rw [List.mem_append, List.mem_singleton, hpu j hj]
            constructor
            · rintro (h | h)
              · exact h
              · have := (itL j hj).2; rw [h, hw] at this; cases this
            · exact fun h => .inl h
          · rw [List.mem_append, List.mem_singleton, hpo j hj hpj]
            constructor
            · rintro (h | h)
              · omega
              · have := rkPop j hj hpj
                have h2 := rkPop k hr.1 hpk
                rw [h] at this; rw [hit] at h2; omega
            · intro h
              by_cases e : j = k
              · exact .inr (by rw [e, hit])
              · exact .inl (by omega)
          · have hvk : g.v (L[k]'hr.1) = g.v i := by
              have : L[k]'hr.1 = it k := by simp [it, List.getD_eq_getElem?_getD, List.getElem?_eq_getElem hr.1]
              rw [this, ← (hπlt _ hpk).2, hit]
            have hc : ((L.take s).drop k).map g.v = g.v i :: ((L.take s).drop (k + 1)).map g.v := by
              rw [List.drop_eq_getElem_cons (by rw [List.length_take]; omega), List.map_cons, List.getElem_take, hvk]
            rw [hc] at hfi
            exact .pop hfi hw
    obtain ⟨s, t, _, _, _, _, hfi⟩ := main ord.length (Nat.le_refl _)
    rw [List.take_of_length_le (Nat.le_refl _)] at hfi
    exact ⟨_, hfi⟩

end Go.Proofs.YtfojmbbhcmeejaaDoor

namespace Go.Proofs.YtfojmbbhcmeejaaDoor

/-- Ops as values and times: d is the kind of those who bring a value. -/
def rgOf (ops : List Opn) (d : Int) : Rg where
  n := ops.length
  c := fun i => (opN ops i).c
  e := fun i => (opN ops i).e
  w := fun i => (opN ops i).d == d
  v := fun i => if (opN ops i).d == d then (opN ops i).a else (opN ops i).r

theorem perm_of_shows {o : Int} {ops : List Opn} {ord : List Nat} (h : ShowsM o ops (iL ord)) (he : ∀ i, i < ops.length → 0 ≤ (opN ops i).e) : ord.Perm (List.range ops.length) := by
  have honce : ord.Nodup := by
    have := h.once
    unfold iL at this
    exact (List.pairwise_map.1 this).imp (fun hab e => hab (by rw [e]))
  refine (List.perm_ext_iff_of_nodup honce List.nodup_range).2 fun n => ⟨fun hn => ?_, fun hn => ?_⟩
  · have := (h.range (n : Int) (List.mem_map.2 ⟨n, hn, rfl⟩)).2
    exact List.mem_range.2 (by omega)
  · have hn := List.mem_range.1 hn
    obtain ⟨m, hm, e⟩ := List.mem_map.1 (h.whole n hn (he n hn))
    have : m = n := by omega
    rw [← this]; exact hm

theorem time_of_shows {o : Int} {ops : List Opn} {ord : List Nat} (h : ShowsM o ops (iL ord)) (he : ∀ i, i < ops.length → 0 ≤ (opN ops i).e) {p q : Nat} (hpq : p < q) (hq : q < ord.length) :
    ¬ (opN ops ord[q]).e < (opN ops (ord[p]'(Nat.lt_trans hpq hq))).c := by
  intro hb
  have := h.timely q (by rw [iL_length]; exact hq) p hpq
  simp only [iL, List.getElem_map, opI, Int.toNat_natCast] at this
  have hl : ord[q] < ops.length := by
    have := (h.range (ord[q] : Int) (List.mem_map.2 ⟨_, List.getElem_mem hq, rfl⟩)).2; omega
  have h0 := he _ hl
  simp [beforeB, h0, hb] at this

theorem shows_of {o : Int} {ops : List Opn} {ord : List Nat} (hp : ord.Perm (List.range ops.length)) (ht : ∀ p q, (hpq : p < q) → (hq : q < ord.length) → ¬ (opN ops ord[q]).e < (opN ops (ord[p]'(Nat.lt_trans hpq hq))).c)
    (hf : ∀ j, j < ord.length → fineAt o ops (iL ord) j = true) : ShowsM o ops (iL ord) where
  range := by
    intro n hn
    obtain ⟨m, hm, rfl⟩ := List.mem_map.1 hn
    have := List.mem_range.1 (hp.mem_iff.1 hm)
    exact ⟨by omega, by omega⟩
  once := by
    have : ord.Nodup := hp.nodup_iff.2 List.nodup_range
    unfold iL
    exact List.Pairwise.map _ (fun a b hab e => hab (by omega)) this
  whole := fun n hn _ => List.mem_map.2 ⟨n, hp.mem_iff.2 (List.mem_range.2 hn), rfl⟩
  timely := by
    intro j hj i hi
    have hj' : j < ord.length := by rw [iL_length] at hj; exact hj
    have := ht i j hi hj'
    simp only [iL, List.getElem_map, opI, Int.toNat_natCast]
    simp [beforeB, this]
  fine := fun j hj => hf j (by rw [iL_length] at hj; exact hj)

theorem at_of {ops : List Opn} {ord : List Nat} {p : Nat} (hp : p < ord.length) (hl : ord[p] < ops.length) : ((iL ord)[p]?).bind (opOf ops) = some (opN ops ord[p]) := by
  rw [iL_get hp]; exact opOf_nat hl

/-! ### a register -/

structure RegOps (ops : List Opn) (k0 : Int) : Prop where
  key : ∀ i, i < ops.length → (opN ops i).k = k0
  kind : ∀ i, i < ops.length → (opN ops i).d = 1 ∨ (opN ops i).d = 2
  back : ∀ i, i < ops.length → 0 ≤ (opN ops i).e
  zero : ∀ i, i < ops.length → (opN ops i).d = 2 → (opN ops i).r = 0

theorem reg_step {ops : List Opn} {k0 : Int} (hr : RegOps ops k0) {ord : List Nat} {p : Nat} (hp : p < ord.length) (hl : ord[p] < ops.length)
    (hs : sAt 1 ops (iL ord) p k0 = [(rgOf ops 2).at ord p]) :
    (fineAt 1 ops (iL ord) p = true ↔ ((rgOf ops 2).w (ord.getD p 0) = false → (rgOf ops 2).v (ord.getD p 0) = (rgOf ops 2).at ord p)) ∧
    (fineAt 1 ops (iL ord) p = true → sAt 1 ops (iL ord) (p + 1) k0 = [(rgOf ops 2).at ord (p + 1)]) := by
  have hat := at_of hp hl
  have hg : ord.getD p 0 = ord[p] := by rw [List.getD_eq_getElem?_getD, List.getElem?_eq_getElem hp]; rfl
  rw [fineAt_some hat, sAt_succ hat, hg]
  have hk := hr.key _ hl
  have hb := hr.back _ hl
  have hz := hr.zero _ hl
  have hn : (rgOf ops 2).at ord (p + 1) = (rgOf ops 2).v ord[p] := by simp only [Rg.at, hg]
  rw [hn]
  simp only [rgOf, opFine, after, hk, hs]
  rcases hr.kind _ hl with hd | hd
  · have e : stepM 1 [(rgOf ops 2).at ord p] (opN ops ord[p]).d (opN ops ord[p]).a (opN ops ord[p]).b = some ([(rgOf ops 2).at ord p], (rgOf ops 2).at ord p) := by
      rw [stepM_reg (by rw [hd]; decide), hd]; simp [regM]
    rw [show (rgOf ops 2).at ord p = (Rg.at { n := ops.length, c := fun i => (opN ops i).c, e := fun i => (opN ops i).e, w := fun i => (opN ops i).d == 2, v := fun i => if (opN ops i).d == 2 then (opN ops i).a else (opN ops i).r } ord p) from rfl] at e
    rw [e]
    have hneg : ¬ (opN ops ord[p]).e < 0 := by omega
    simp [hd, hneg, setK_same]
    exact fun h => h.symm
  · have e : ∀ x, stepM 1 [x] (opN ops ord[p]).d (opN ops ord[p]).a (opN ops ord[p]).b = some ([(opN ops ord[p]).a], 0) := fun x => by
      rw [stepM_reg (by rw [hd]; decide), hd]; simp [regM]
    rw [e]
    simp [hd, hz hd, setK_same]

theorem reg_shows {ops : List Opn} {k0 : Int} (hr : RegOps ops k0) (ok : (rgOf ops 2).Ok) : (∃ ord, ShowsM 1 ops (iL ord)) ↔ (rgOf ops 2).Src ∧ (rgOf ops 2).Apart := by
  have hgd : ∀ {ord : List Nat} {p : Nat} (hp : p < ord.length), ord.getD p 0 = ord[p] := fun hp => by rw [List.getD_eq_getElem?_getD, List.getElem?_eq_getElem hp]; rfl
  constructor
  · rintro ⟨ord, h⟩
    have hp := perm_of_shows h hr.back
    have hl : ∀ p, (hpl : p < ord.length) → ord[p] < ops.length := fun p hpl => List.mem_range.1 (hp.mem_iff.1 (List.getElem_mem hpl))
    have hs : ∀ p, p ≤ ord.length → sAt 1 ops (iL ord) p k0 = [(rgOf ops 2).at ord p] := by
      intro p
      induction p with
      | zero => intro _; rfl
      | succ p ih =>
        intro hpl
        have hpl : p < ord.length := by omega
        exact (reg_step hr hpl (hl p hpl) (ih (by omega))).2 (h.fine p (by rw [iL_length]; exact hpl))
    refine gk_only ok (ord := ord) ⟨hp, ?_, ?_⟩
    · intro p q hpq hq
      rw [hgd hq, hgd (Nat.lt_trans hpq hq)]
      exact time_of_shows h hr.back hpq hq
    · intro p hpl
      exact (reg_step hr hpl (hl p hpl) (hs p (by omega))).1.1 (h.fine p (by rw [iL_length]; exact hpl))
  · rintro ⟨h1, h2⟩
    obtain ⟨ord, h⟩ := gk_if ok h1 h2
    have hl : ∀ p, (hpl : p < ord.length) → ord[p] < ops.length := fun p hpl => List.mem_range.1 (h.perm.mem_iff.1 (List.getElem_mem hpl))
    have hs : ∀ p, p ≤ ord.length → sAt 1 ops (iL ord) p k0 = [(rgOf ops 2).at ord p] := by
      intro p
      induction p with
      | zero => intro _; rfl
      | succ p ih =>
        intro hpl
        have hpl : p < ord.length := by omega
        have := reg_step hr hpl (hl p hpl) (ih (by omega))
        exact this.2 (this.1.2 (h.last p hpl))
    refine ⟨ord, shows_of h.perm ?_ ?_⟩
    · intro p q hpq hq
      have := h.time p q hpq hq
      rwa [hgd hq, hgd (Nat.lt_trans hpq hq)] at this
    · intro p hpl
      exact (reg_step hr hpl (hl p hpl) (hs p (by omega))).1.2 (h.last p hpl)

/-! ### a queue -/

structure QueOps (ops : List Opn) (k0 : Int) : Prop where
  key : ∀ i, i < ops.length → (opN ops i).k = k0
  kind : ∀ i, i < ops.length → (opN ops i).d = 9 ∨ (opN ops i).d = 10
  back : ∀ i, i < ops.length → 0 ≤ (opN ops i).e
  zero : ∀ i, i < ops.length → (opN ops i).d = 9 → (opN ops i).r = 0
  full : ∀ i, i < ops.length → (opN ops i).d = 10 → (opN ops i).r ≠ -1

theorem que_step {ops : List Opn} {k0 : Int} (hr : QueOps ops k0) {ord : List Nat} {p : Nat} {st : List Int} (hp : p < ord.length) (hl : ord[p] < ops.length)
    (hs : sAt 4 ops (iL ord) p k0 = st) :
    ((rgOf ops 9).w ord[p] = true → fineAt 4 ops (iL ord) p = true ∧ sAt 4 ops (iL ord) (p + 1) k0 = st ++ [(rgOf ops 9).v ord[p]]) ∧
    ((rgOf ops 9).w ord[p] = false → (fineAt 4 ops (iL ord) p = true ↔ ∃ s, st = (rgOf ops 9).v ord[p] :: s) ∧ ∀ s, st = (rgOf ops 9).v ord[p] :: s → sAt 4 ops (iL ord) (p + 1) k0 = s) := by
  have hat := at_of hp hl
  rw [fineAt_some hat, sAt_succ hat]
  have hk := hr.key _ hl
  have hb := hr.back _ hl
  have hneg : ¬ (opN ops ord[p]).e < 0 := by omega
  simp only [rgOf, opFine, after, hk, hs]
  rcases hr.kind _ hl with hd | hd
  · have hz := hr.zero _ hl hd
    rw [stepM_que (by rw [hd]; decide), hd]
    simp [queM, hz, setK_same]
  · have hf := hr.full _ hl hd
    rw [stepM_que (by rw [hd]; decide), hd]
    cases st with
    | nil => simp [queM, hneg, hf]
    | cons x s =>
      simp only [queM, hneg, setK_same]
      simp
      exact ⟨fun h => h.symm, fun h => h.symm⟩

theorem fifo_snoc {g : Rg} {l : List Nat} {i : Nat} {st : List Int} (h : g.Fifo (l ++ [i]) st) : (g.w i = true ∧ ∃ s, g.Fifo l s ∧ st = s ++ [g.v i]) ∨ (g.w i = false ∧ g.Fifo l (g.v i :: st)) := by
  generalize hx : l ++ [i] = x at h
  cases h with
  | nil => simp at hx
  | @push l' s j h hw =>
    obtain ⟨rfl, e⟩ := List.append_inj' hx rfl
    cases e
    exact .inl ⟨hw, s, h, rfl⟩
  | @pop l' s j h hw =>
    obtain ⟨rfl, e⟩ := List.append_inj' hx rfl
    cases e
    exact .inr ⟨hw, h⟩

theorem que_shows {ops : List Opn} {k0 : Int} (hr : QueOps ops k0) (ok : (rgOf ops 9).QOk) : (∃ ord, ShowsM 4 ops (iL ord)) ↔ (rgOf ops 9).Fine := by
  constructor
  · rintro ⟨ord, h⟩
    have hp := perm_of_shows h hr.back
    have hl : ∀ p, (hpl : p < ord.length) → ord[p] < ops.length := fun p hpl => List.mem_range.1 (hp.mem_iff.1 (List.getElem_mem hpl))
    have hs : ∀ p, p ≤ ord.length → (rgOf ops 9).Fifo (ord.take p) (sAt 4 ops (iL ord) p k0) := by
      intro p
      induction p with
      | zero => intro _; exact .nil
      | succ p ih =>
        intro hpl
        have hpl : p < ord.length := by omega
        have ih := ih (by omega)
        have hst := que_step hr hpl (hl p hpl) rfl
        have hfi := h.fine p (by rw [iL_length]; exact hpl)
        rw [← List.take_append_getElem hpl]
        cases hw : (rgOf ops 9).w ord[p] with
        | true => rw [(hst.1 hw).2]; exact .push ih hw
        | false =>
          obtain ⟨s, e⟩ := (hst.2 hw).1.1 hfi
          rw [(hst.2 hw).2 s e]
          rw [e] at ih
          exact .pop ih hw
    refine qu_only ok (ord := ord) ⟨hp, ?_, sAt 4 ops (iL ord) ord.length k0, ?_⟩
    · exact fun p q hpq hq => time_of_shows h hr.back hpq hq
    · have := hs ord.length (Nat.le_refl _)
      rwa [List.take_of_length_le (Nat.le_refl _)] at this
  · intro hf
    obtain ⟨ord, h⟩ := qu_if ok hf
    have hl : ∀ p, (hpl : p < ord.length) → ord[p] < ops.length := fun p hpl => List.mem_range.1 (h.perm.mem_iff.1 (List.getElem_mem hpl))
    obtain ⟨st, hfi⟩ := h.fifo
    have hs : ∀ p, p ≤ ord.length → ∀ s, (rgOf ops 9).Fifo (ord.take p) s → sAt 4 ops (iL ord) p k0 = s ∧ ∀ j, j < p → fineAt 4 ops (iL ord) j = true := by
      intro p
      induction p with
      | zero =>
        intro _ s hs
        have := fifo_sum hs
        simp [Rg.ins, Rg.outs] at this
        exact ⟨by rw [this]; rfl, fun j hj => by omega⟩
      | succ p ih =>
        intro hpl s hs
        have hpl : p < ord.length := by omega
        rw [← List.take_append_getElem hpl] at hs
        rcases fifo_snoc hs with ⟨hw, s0, h0, rfl⟩ | ⟨hw, h0⟩
        · obtain ⟨e, hfs⟩ := ih (by omega) _ h0
          have hst := (que_step hr hpl (hl p hpl) e).1 hw
          refine ⟨hst.2, fun j hj => ?_⟩
          by_cases ej : j = p
          · rw [ej]; exact hst.1
          · exact hfs j (by omega)
        · obtain ⟨e, hfs⟩ := ih (by omega) _ h0
          have hst := (que_step hr hpl (hl p hpl) e).2 hw
          refine ⟨hst.2 _ rfl, fun j hj => ?_⟩
          by_cases ej : j = p
          · rw [ej]; exact hst.1.2 ⟨_, rfl⟩
          · exact hfs j (by omega)
    refine ⟨ord, shows_of h.perm (fun p q hpq hq => h.time p q hpq hq) ?_⟩
    exact (hs ord.length (Nat.le_refl _) st (by rw [List.take_of_length_le (Nat.le_refl _)]; exact hfi)).2

end Go.Proofs.YtfojmbbhcmeejaaDoor

namespace Go.Proofs.YtfojmbbhcmeejaaDoor

/-- An order of all ops, run on registers: each is fine. -/
structure RunK (l : List Opn) (ord : List Nat) : Prop where
  perm : ord.Perm (List.range l.length)
  fine : ∀ j, j < ord.length → fineAt 1 l (iL ord) j = true

/-- What was written to a key last, ahead of a place; 0: nothing. -/
def lastK (l : List Opn) (ord : List Nat) (q : Int) : Nat → Int
  | 0 => 0
  | j + 1 => if (opZ l (ord.getD j 0)).d = 2 ∧ (opZ l (ord.getD j 0)).k = q then (opZ l (ord.getD j 0)).a else lastK l ord q j

section
variable {l : List Opn} {ord : List Nat} (ok : KOk l) (h : RunK l ord)

theorem lastK_spec : ∀ j q, (lastK l ord q j = 0 ∧ ∀ p, p < j → ¬ ((opZ l (ord.getD p 0)).d = 2 ∧ (opZ l (ord.getD p 0)).k = q)) ∨
    ∃ p, p < j ∧ (opZ l (ord.getD p 0)).d = 2 ∧ (opZ l (ord.getD p 0)).k = q ∧ lastK l ord q j = (opZ l (ord.getD p 0)).a ∧ ∀ p', p < p' → p' < j → ¬ ((opZ l (ord.getD p' 0)).d = 2 ∧ (opZ l (ord.getD p' 0)).k = q)
  | 0, q => .inl ⟨rfl, fun p hp => absurd hp (by omega)⟩
  | j + 1, q => by
    unfold lastK
    by_cases e : (opZ l (ord.getD j 0)).d = 2 ∧ (opZ l (ord.getD j 0)).k = q
    · rw [if_pos e]
      exact .inr ⟨j, by omega, e.1, e.2, rfl, fun p' h1 h2 => absurd h2 (by omega)⟩
    · rw [if_neg e]
      rcases lastK_spec j q with ⟨h1, h2⟩ | ⟨p, hp, h1, h2, h3, h4⟩
      · refine .inl ⟨h1, fun p hp => ?_⟩
        by_cases e' : p = j
        · subst e'; exact e
        · exact h2 p (by omega)
      · refine .inr ⟨p, by omega, h1, h2, h3, fun p' g1 g2 => ?_⟩
        by_cases e' : p' = j
        · subst e'; exact e
        · exact h4 p' g1 (by omega)

include h

theorem RunK.len : ord.length = l.length := by have := h.perm.length_eq; simpa using this
theorem RunK.lt {j : Nat} (hj : j < ord.length) : ord[j] < l.length := List.mem_range.1 (h.perm.mem_iff.1 (List.getElem_mem hj))
omit h in
theorem getD_ord {j : Nat} (hj : j < ord.length) : ord.getD j 0 = ord[j] := by rw [List.getD_eq_getElem?_getD, List.getElem?_eq_getElem hj]; rfl
theorem RunK.at_ {n : Nat} (hn : n < l.length) : ∃ p, ∃ hp : p < ord.length, ord[p] = n := by
  obtain ⟨p, hp, e⟩ := List.getElem_of_mem (h.perm.mem_iff.2 (List.mem_range.2 hn))
  exact ⟨p, hp, e⟩
theorem RunK.one {p q : Nat} (hp : p < ord.length) (hq : q < ord.length) (e : ord[p] = ord[q]) : p = q := by
  have hn : ord.Nodup := h.perm.nodup_iff.2 List.nodup_range
  exact (List.getElem_inj hn).1 e

include ok

theorem run_step {j : Nat} (hj : j < ord.length) (hs : ∀ q, sAt 1 l (iL ord) j q = [lastK l ord q j]) :
    ((opZ l ord[j]).d = 1 → (opZ l ord[j]).r = lastK l ord (opZ l ord[j]).k j) ∧ ∀ q, sAt 1 l (iL ord) (j + 1) q = [lastK l ord q (j + 1)] := by
  have hl := h.lt hj
  have hat := at_of (ops := l) hj hl
  have hf := h.fine j hj
  have hx : opN l ord[j] = opZ l ord[j] := by rw [opN_at hl, opZ_at hl]
  rw [hx] at hat
  rw [fineAt_some hat] at hf
  rw [sAt_succ hat]
  have hb := (ok.back _ hl)
  have hg := getD_ord hj
  generalize hxx : opZ l ord[j] = x at *
  have hlast : ∀ q, lastK l ord q (j + 1) = if x.d = 2 ∧ x.k = q then x.a else lastK l ord q j := fun q => by
    show (if (opZ l (ord.getD j 0)).d = 2 ∧ (opZ l (ord.getD j 0)).k = q then (opZ l (ord.getD j 0)).a else lastK l ord q j) = _
    rw [hg, hxx]
  rcases ok.kind _ hl with hd | hd
  · rw [hxx] at hd
    have e : stepM 1 (sAt 1 l (iL ord) j x.k) x.d x.a x.b = some ([lastK l ord x.k j], lastK l ord x.k j) := by
      rw [hs, stepM_reg (by rw [hd]; decide), hd]; simp [regM]
    refine ⟨fun _ => ?_, fun q => ?_⟩
    · unfold opFine at hf
      rw [e] at hf
      have hneg : ¬ x.e < 0 := by omega
      simp [hneg] at hf
      exact hf
    · unfold after
      rw [e, hlast, if_neg (by omega)]
      simp only
      by_cases eq : q = x.k
      · subst eq; rw [setK_same]
      · rw [setK_other _ _ _ _ eq, hs]
  · rw [hxx] at hd
    have e : stepM 1 (sAt 1 l (iL ord) j x.k) x.d x.a x.b = some ([x.a], 0) := by
      rw [hs, stepM_reg (by rw [hd]; decide), hd]; simp [regM]
    refine ⟨fun h1 => absurd h1 (by omega), fun q => ?_⟩
    unfold after
    rw [e, hlast]
    simp only
    by_cases eq : x.k = q
    · subst eq; rw [setK_same, if_pos ⟨hd, rfl⟩]
    · rw [setK_other _ _ _ _ (Ne.symm eq), hs, if_neg (fun h => eq h.2)]

theorem run_all : ∀ j, j ≤ ord.length → ∀ q, sAt 1 l (iL ord) j q = [lastK l ord q j]
  | 0, _, _ => rfl
  | j + 1, hj, q => (run_step ok h (by omega) (run_all j (by omega))).2 q
theorem run_read {j : Nat} (hj : j < ord.length) (hd : (opZ l ord[j]).d = 1) : (opZ l ord[j]).r = lastK l ord (opZ l ord[j]).k j := (run_step ok h hj (run_all ok h j (by omega))).1 hd

/-- Who reads something reads what stands ahead, and no one writes its key between. -/
theorem run_src {j : Nat} (hj : j < ord.length) (hd : (opZ l ord[j]).d = 1) (hr : (opZ l ord[j]).r ≠ 0) :
    ∃ p, ∃ hp : p < j, srcK l (opZ l ord[j]) = (ord[p]'(Nat.lt_trans hp hj) : Nat) ∧ ∀ p', p < p' → (hp' : p' < j) → ¬ ((opZ l (ord[p']'(Nat.lt_trans hp' hj))).d = 2 ∧ (opZ l (ord[p']'(Nat.lt_trans hp' hj))).k = (opZ l ord[j]).k) := by
  have e := run_read ok h hj hd
  rcases lastK_spec (l := l) (ord := ord) j (opZ l ord[j]).k with ⟨h1, _⟩ | ⟨p, hp, h1, h2, h3, h4⟩
  · exact absurd (e.trans h1) hr
  · have hpl : p < ord.length := Nat.lt_trans hp hj
    rw [getD_ord hpl] at h1 h2 h3
    refine ⟨p, hp, srcK_is ok (h.lt hpl) h1 h2 (by rw [← h3, e]), fun p' g1 g2 => ?_⟩
    have := h4 p' g1 g2
    rwa [getD_ord (Nat.lt_trans g2 hj)] at this
/-- Who reads 0 has no write of its key ahead. -/
theorem run_zero {j p : Nat} (hj : j < ord.length) (hd : (opZ l ord[j]).d = 1) (hr : (opZ l ord[j]).r = 0) (hp : p < j) : ¬ ((opZ l (ord[p]'(Nat.lt_trans hp hj))).d = 2 ∧ (opZ l (ord[p]'(Nat.lt_trans hp hj))).k = (opZ l ord[j]).k) := by
  have e := run_read ok h hj hd
  have hpl : p < ord.length := Nat.lt_trans hp hj
  rcases lastK_spec (l := l) (ord := ord) j (opZ l ord[j]).k with ⟨_, h2⟩ | ⟨p', hp', h1, h2, h3, _⟩
  · have := h2 p hp
    rwa [getD_ord hpl] at this
  · have hpl' : p' < ord.length := Nat.lt_trans hp' hj
    rw [getD_ord hpl'] at h1 h3
    exact absurd (h3.symm.trans (e.symm.trans hr)) (ok.write _ (h.lt hpl') h1).1

/-- WHAT IS RUN IN AN ORDER THAT KEEPS EACH PROCESS' OWN LEAVES NOTHING THAT CAN'T BE. -/
theorem weaker (ht : ∀ i j, (hij : i < j) → (hj : j < ord.length) → ¬ ((opZ l ord[j]).p = (opZ l (ord[i]'(Nat.lt_trans hij hj))).p ∧ (opZ l ord[j]).c < (opZ l (ord[i]'(Nat.lt_trans hij hj))).c)) :
    (findsK l).1 = 0 := by
  have hkind : ∀ {i}, i < l.length → (opZ l i).r ≠ 0 → (opZ l i).d = 1 := fun {i} hi hr => by
    rcases ok.kind i hi with hd | hd
    · exact hd
    · exact absurd (ok.write i hi hd).2 hr
  have hthin : firstN (thinB l) l.length = none := firstN_none fun i hi => by
    obtain ⟨p, hp, e⟩ := h.at_ hi
    unfold thinB
    by_cases hr : (opZ l i).r = 0
    · simp [hr]
    · subst e
      obtain ⟨q, hq, hs, _⟩ := run_src ok h hp (hkind hi hr) hr
      rw [hs]
      simp
  have hsrc : ∀ {i k p q : Nat} (hp : p < ord.length) (hq : q < ord.length), ord[p] = i → ord[q] = k → srcK l (opZ l k) = (i : Nat) → p < q := fun {i k p q} hp hq ep eq hs => by
    subst ep eq
    have hl := h.lt hq
    have hr : (opZ l ord[q]).r ≠ 0 := fun hr => by rw [srcK_zero ok hr] at hs; omega
    obtain ⟨q', hq', hs', _⟩ := run_src ok h hq (hkind hl hr) hr
    have e : ord[p] = ord[q'] := by rw [hs] at hs'; omega
    have := h.one hp (Nat.lt_trans hq' hq) e
    omega
  have hroad : ∀ {i k p q : Nat} (hp : p < ord.length) (hq : q < ord.length), ord[p] = i → ord[q] = k → roadB l i k = true → p < q := fun {i k p q} hp hq ep eq hr => by
    unfold roadB at hr
    simp only [Bool.or_eq_true, Bool.and_eq_true, beq_iff_eq, decide_eq_true_eq] at hr
    rcases hr with ⟨h1, h2⟩ | hs
    · subst ep eq
      rcases Nat.lt_trichotomy p q with g | g | g
      · exact g
      · subst g; omega
      · exact absurd ⟨h1, h2⟩ (ht q p g hp)
    · exact hsrc hp hq ep eq hs
  have hway : ∀ {i k : Nat}, Way (roadB l) l.length i k → ∀ {p q : Nat} (hp : p < ord.length) (hq : q < ord.length), ord[p] = i → ord[q] = k → p < q := fun {i k} hw => by
    induction hw with
    | one _ _ hr => exact fun hp hq ep eq => hroad hp hq ep eq hr
    | more h1 hk hr ih =>
      intro p q hp hq ep eq
      obtain ⟨m, hm, em⟩ := h.at_ h1.lt.2
      exact Nat.lt_trans (ih hp hm ep em) (hroad hm hq em eq hr)
  have hah : ∀ {p q : Nat} (hp : p < ord.length) (hq : q < ord.length), aheadK l ord[p] ord[q] = true → p < q := fun {p q} hp hq ha =>
    hway ((war_iff (h.lt hp) (h.lt hq)).1 ha) hp hq rfl rfl
  have hround : firstN (fun i => aheadK l i i) l.length = none := firstN_none fun i hi => by
    obtain ⟨p, hp, e⟩ := h.at_ hi
    subst e
    cases ha : aheadK l ord[p] ord[p]
    · rfl
    · exact absurd (hah hp hp ha) (Nat.lt_irrefl _)
  have hemp : firstP (empB l (aheadK l)) l.length = none := firstP_none fun i hi k hk => by
    obtain ⟨p, hp, e⟩ := h.at_ hi
    obtain ⟨q, hq, e'⟩ := h.at_ hk
    subst e e'
    cases hx : empB l (aheadK l) ord[p] ord[q]
    · rfl
    · exfalso
      unfold empB rwB at hx
      simp only [Bool.and_eq_true, beq_iff_eq] at hx
      obtain ⟨⟨h1, h2, h3⟩, h4, h5⟩ := hx
      exact run_zero ok h hp h1 h4 (hah hq hp h5) ⟨h2, h3⟩
  have hsta : firstP (staB l (aheadK l)) l.length = none := firstP_none fun i hi k hk => by
    obtain ⟨p, hp, e⟩ := h.at_ hi
    obtain ⟨q, hq, e'⟩ := h.at_ hk
    subst e e'
    cases hx : staB l (aheadK l) ord[p] ord[q]
    · rfl
    · exfalso
      unfold staB rwB at hx
      simp only [Bool.and_eq_true, beq_iff_eq, bne_iff_ne] at hx
      obtain ⟨⟨h1, h2, h3⟩, h4, h5, h6⟩ := hx
      have hr : (opZ l ord[p]).r ≠ 0 := fun hr => h4 (srcK_zero ok hr)
      obtain ⟨m, hm, hs, hno⟩ := run_src ok h hp h1 hr
      rw [hs, Int.toNat_natCast] at h5
      exact hno q (hah (Nat.lt_trans hm hp) hq h5) (hah hq hp h6) ⟨h2, h3⟩
  unfold findsK
  rw [hthin]
  simp only
  rw [hround]
  simp only
  rw [hemp]
  simp only
  rw [hsta]
end

end Go.Proofs.YtfojmbbhcmeejaaDoor

namespace Go.Proofs.YtfojmbbhcmeejaaDoor

/-- The values written to a key by the first ops of an order. -/
def rowJ (l : List Opn) (ord : List Nat) (q : Int) : Nat → List Int
  | 0 => []
  | j + 1 => if (opZ l (ord.getD j 0)).d = 2 ∧ (opZ l (ord.getD j 0)).k = q then rowJ l ord q j ++ [(opZ l (ord.getD j 0)).a] else rowJ l ord q j
def versJ (l : List Opn) (ord : List Nat) (j : Nat) : List (List Int) := (List.range 8).map fun q : Nat => rowJ l ord q j
theorem versJ_row (l : List Opn) (ord : List Nat) (j : Nat) {k : Int} (h0 : 0 ≤ k) (h1 : k < 8) : rowI (versJ l ord j) k = rowJ l ord k j := by
  obtain ⟨q, rfl⟩ : ∃ q : Nat, k = q := ⟨k.toNat, by omega⟩
  have hq : q < 8 := by omega
  unfold rowI versJ
  rw [Int.toNat_natCast, List.getD_eq_getElem?_getD, List.getElem?_map, List.getElem?_range hq]
  rfl
theorem versJ_len (l : List Opn) (ord : List Nat) (j : Nat) : (versJ l ord j).length = 8 := by unfold versJ; simp

theorem rowJ_put {l : List Opn} {ord : List Nat} {q : Int} {j : Nat} (hd : (opZ l (ord.getD j 0)).d = 2) (hk : (opZ l (ord.getD j 0)).k = q) : rowJ l ord q (j + 1) = rowJ l ord q j ++ [(opZ l (ord.getD j 0)).a] := by
  unfold rowJ; rw [if_pos ⟨hd, hk⟩]; cases j <;> rfl
theorem rowJ_keep {l : List Opn} {ord : List Nat} {q : Int} {j : Nat} (h : ¬ ((opZ l (ord.getD j 0)).d = 2 ∧ (opZ l (ord.getD j 0)).k = q)) : rowJ l ord q (j + 1) = rowJ l ord q j := by
  rw [rowJ, if_neg h]
theorem rowJ_prefix (l : List Opn) (ord : List Nat) (q : Int) : ∀ n p, p ≤ n → ∃ B, rowJ l ord q n = rowJ l ord q p ++ B
  | 0, p, hp => by obtain rfl : p = 0 := by omega
                   exact ⟨[], by simp⟩
  | n + 1, p, hp => by
    by_cases e : p = n + 1
    · subst e; exact ⟨[], by simp⟩
    · obtain ⟨B, hB⟩ := rowJ_prefix l ord q n p (by omega)
      by_cases h : (opZ l (ord.getD n 0)).d = 2 ∧ (opZ l (ord.getD n 0)).k = q
      · exact ⟨B ++ [(opZ l (ord.getD n 0)).a], by rw [rowJ_put h.1 h.2, hB, List.append_assoc]⟩
      · exact ⟨B, by rw [rowJ_keep h, hB]⟩
theorem rowJ_mono (l : List Opn) (ord : List Nat) (q : Int) {n p : Nat} (h : p ≤ n) : (rowJ l ord q p).length ≤ (rowJ l ord q n).length := by
  obtain ⟨B, hB⟩ := rowJ_prefix l ord q n p h
  rw [hB, List.length_append]; omega
theorem rowJ_le (l : List Opn) (ord : List Nat) (q : Int) : ∀ j, (rowJ l ord q j).length ≤ j
  | 0 => Nat.le_refl _
  | j + 1 => by
    have ih := rowJ_le l ord q j
    by_cases h : (opZ l (ord.getD j 0)).d = 2 ∧ (opZ l (ord.getD j 0)).k = q
    · rw [rowJ_put h.1 h.2, List.length_append]; simp; omega
    · rw [rowJ_keep h]; omega
theorem rowJ_mem {l : List Opn} {ord : List Nat} {q : Int} : ∀ {j v}, v ∈ rowJ l ord q j → ∃ p, p < j ∧ (opZ l (ord.getD p 0)).d = 2 ∧ (opZ l (ord.getD p 0)).k = q ∧ (opZ l (ord.getD p 0)).a = v
  | 0, v, h => by cases h
  | j + 1, v, h => by
    by_cases e : (opZ l (ord.getD j 0)).d = 2 ∧ (opZ l (ord.getD j 0)).k = q
    · rw [rowJ_put e.1 e.2, List.mem_append] at h
      rcases h with h | h
      · obtain ⟨p, hp, r⟩ := rowJ_mem h; exact ⟨p, by omega, r⟩
      · simp at h; exact ⟨j, by omega, e.1, e.2, h.symm⟩
    · rw [rowJ_keep e] at h
      obtain ⟨p, hp, r⟩ := rowJ_mem h; exact ⟨p, by omega, r⟩
theorem lastK_row {l : List Opn} {ord : List Nat} {q : Int} : ∀ j, (lastK l ord q j = 0 ∧ rowJ l ord q j = []) ∨ ∃ A, rowJ l ord q j = A ++ [lastK l ord q j]
  | 0 => .inl ⟨rfl, rfl⟩
  | j + 1 => by
    unfold lastK
    by_cases e : (opZ l (ord.getD j 0)).d = 2 ∧ (opZ l (ord.getD j 0)).k = q
    · rw [if_pos e, rowJ_put e.1 e.2]; exact .inr ⟨_, rfl⟩
    · rw [if_neg e, rowJ_keep e]; exact lastK_row j

theorem idx_mid {A B : List Int} {v : Int} (h : v ∉ A) : idxI (A ++ v :: B) v = A.length := by
  refine idxI_at (by simp) (fun j hj => ?_) ?_
  · rw [List.getD_eq_getElem?_getD, List.getElem?_append_left hj, List.getElem?_eq_getElem hj]
    simp only [Option.getD_some, beq_eq_false_iff_ne]
    exact fun e => h (by rw [← e]; exact List.getElem_mem hj)
  · rw [List.getD_eq_getElem?_getD, List.getElem?_append_right (Nat.le_refl _)]
    simp

section
variable {l : List Opn} {ord : List Nat} (ok : KOk l) (h : RunK l ord)
include h
omit h in
theorem row_count (q : Int) : ∀ j, j ≤ ord.length → (rowJ l ord q j).length = (ord.take j).countP fun n => decide ((opZ l n).d = 2 ∧ (opZ l n).k = q)
  | 0, _ => rfl
  | j + 1, hj => by
    have ih := row_count q j (by omega)
    rw [List.take_succ_eq_append_getElem (by omega), List.countP_append, ← ih]
    have hg := getD_ord (ord := ord) (j := j) (by omega)
    by_cases e : (opZ l (ord.getD j 0)).d = 2 ∧ (opZ l (ord.getD j 0)).k = q
    · rw [rowJ_put e.1 e.2, List.length_append]
      rw [hg] at e
      simp [e]
    · rw [rowJ_keep e]
      rw [hg] at e
      simp only [List.countP_singleton, decide_eq_true_eq]
      rw [if_neg e]; rfl
omit h in
theorem wrN_count (q : Int) : ∀ k, wrN l q k = (List.range k).countP fun n => decide ((opZ l n).d = 2 ∧ (opZ l n).k = q)
  | 0 => rfl
  | k + 1 => by
    rw [wrN, wrN_count q k, List.range_succ, List.countP_append, List.countP_singleton]
    simp only [decide_eq_true_eq]
theorem row_len (q : Int) : (rowJ l ord q ord.length).length = wrN l q l.length := by
  rw [row_count q _ (Nat.le_refl _), wrN_count, List.take_length]
  exact h.perm.countP_eq _
include ok
/-- A write's value is not in what was written ahead. -/
theorem row_new {p : Nat} (hp : p < ord.length) (hd : (opZ l ord[p]).d = 2) : (opZ l ord[p]).a ∉ rowJ l ord (opZ l ord[p]).k p := fun hm => by
  obtain ⟨p', hp', h1, h2, h3⟩ := rowJ_mem hm
  have hpl : p' < ord.length := by omega
  rw [getD_ord hpl] at h1 h2 h3
  have e := ok.once _ _ (h.lt hpl) (h.lt hp) h1 hd h2 h3
  have := h.one hpl hp e
  omega
theorem row_nodup (q : Int) : ∀ j, j ≤ ord.length → (rowJ l ord q j).Nodup
  | 0, _ => List.nodup_nil
  | j + 1, hj => by
    have ih := row_nodup q j (by omega)
    by_cases e : (opZ l (ord.getD j 0)).d = 2 ∧ (opZ l (ord.getD j 0)).k = q
    · rw [rowJ_put e.1 e.2]
      have hp : j < ord.length := by omega
      have hg := getD_ord hp
      have hn := row_new ok h hp (by rw [← hg]; exact e.1)
      rw [← hg, e.2] at hn
      exact List.nodup_append.2 ⟨ih, by simp, fun a ha b hb => by simp at hb; subst hb; exact fun e => hn (e ▸ ha)⟩
    · rw [rowJ_keep e]; exact ih
theorem age_write {p : Nat} (hp : p < ord.length) (hd : (opZ l ord[p]).d = 2) {j : Nat} (hj : p < j) : idxI (rowJ l ord (opZ l ord[p]).k j) (opZ l ord[p]).a = (rowJ l ord (opZ l ord[p]).k p).length := by
  obtain ⟨B, hB⟩ := rowJ_prefix l ord (opZ l ord[p]).k j (p + 1) (by omega)
  have hg := getD_ord hp
  rw [hB, rowJ_put (by rw [hg]; exact hd) (by rw [hg]), hg, List.append_assoc, List.singleton_append]
  exact idx_mid (row_new ok h hp hd)
omit ok h in
theorem row_has {p : Nat} (hp : p < ord.length) (hd : (opZ l ord[p]).d = 2) : (opZ l ord[p]).a ∈ rowJ l ord (opZ l ord[p]).k ord.length := by
  obtain ⟨B, hB⟩ := rowJ_prefix l ord (opZ l ord[p]).k ord.length (p + 1) (by omega)
  have hg := getD_ord hp
  rw [hB, rowJ_put (by rw [hg]; exact hd) (by rw [hg]), hg]
  simp
theorem row_read {p : Nat} (hp : p < ord.length) (hd : (opZ l ord[p]).d = 1) (hr : (opZ l ord[p]).r ≠ 0) : (opZ l ord[p]).r ∈ rowJ l ord (opZ l ord[p]).k ord.length := by
  have e := run_read ok h hp hd
  rcases lastK_row (l := l) (ord := ord) (q := (opZ l ord[p]).k) p with ⟨h1, _⟩ | ⟨A, hA⟩
  · exact absurd (e.trans h1) hr
  · obtain ⟨B, hB⟩ := rowJ_prefix l ord (opZ l ord[p]).k ord.length p (by omega)
    rw [hB, hA, ← e]; simp
/-- The age of an op by its place: how many writes of its key stand ahead, less one for a read. -/
theorem age_at {p : Nat} (hp : p < ord.length) : ageI (versJ l ord ord.length) (opZ l ord[p]) = (rowJ l ord (opZ l ord[p]).k p).length - (if (opZ l ord[p]).d = 2 then 0 else 1) := by
  have hl := h.lt hp
  have hk := (ok.num _ hl).1
  unfold ageI
  rw [versJ_row l ord _ hk.1 (by omega)]
  rcases ok.kind _ hl with hd | hd
  · have hv : valO (opZ l ord[p]) = (opZ l ord[p]).r := by unfold valO; rw [if_neg (by omega)]
    rw [hv, if_neg (show ¬ (opZ l ord[p]).d = 2 by omega)]
    have e := run_read ok h hp hd
    rcases lastK_row (l := l) (ord := ord) (q := (opZ l ord[p]).k) p with ⟨h1, h2⟩ | ⟨A, hA⟩
    · rw [if_pos (e.trans h1), h2]; rfl
    · by_cases hr : (opZ l ord[p]).r = 0
      · exfalso
        have hm : (0 : Int) ∈ rowJ l ord (opZ l ord[p]).k p := by rw [hA, ← e, hr]; simp
        obtain ⟨p', hp', h1, _, h3⟩ := rowJ_mem hm
        have hpl : p' < ord.length := by omega
        rw [getD_ord hpl] at h1 h3
        exact (ok.write _ (h.lt hpl) h1).1 h3
      · rw [if_neg hr]
        have hn := row_nodup ok h (opZ l ord[p]).k p (by omega)
        obtain ⟨B, hB⟩ := rowJ_prefix l ord (opZ l ord[p]).k ord.length p (by omega)
        rw [hA, ← e] at hn
        have hna : (opZ l ord[p]).r ∉ A := fun hma => (List.nodup_append.1 hn).2.2 _ hma _ (by simp) rfl
        rw [hB, hA, ← e, List.append_assoc, List.singleton_append, idx_mid hna]
        simp
  · have hv : valO (opZ l ord[p]) = (opZ l ord[p]).a := by unfold valO; rw [if_pos hd]
    rw [hv, if_neg (ok.write _ hl hd).1, if_pos hd, age_write ok h hp hd hp]
    simp
theorem lin_told (hk : KTold l 0) : STold l (versJ l ord ord.length) 0 := by
  have hin : ∀ i, i < l.length → ∃ p, ∃ hp : p < ord.length, ord[p] = i := fun i hi => h.at_ hi
  refine ⟨0, hk, .inr ⟨rfl, .inr ⟨versJ_len _ _ _, 0, .inl ⟨fun i hi => ?_, rfl⟩, .inr ⟨rfl, .inl ⟨fun q hq => ?_, rfl⟩⟩⟩⟩⟩
  · obtain ⟨p, hp, e⟩ := hin i hi
    subst e
    have hkk := (ok.num _ hi).1
    unfold vFaultAt
    rw [versJ_row l ord _ hkk.1 (by omega)]
    rcases ok.kind _ hi with hd | hd
    · have hv : valO (opZ l ord[p]) = (opZ l ord[p]).r := by unfold valO; rw [if_neg (by omega)]
      rw [hv]
      by_cases hr : (opZ l ord[p]).r = 0
      · rw [if_neg (show ¬ (opZ l ord[p]).d = 2 by omega), if_pos hr]; split <;> rfl
      · rw [if_pos (by simpa using row_read ok h hp hd hr)]
    · have hv : valO (opZ l ord[p]) = (opZ l ord[p]).a := by unfold valO; rw [if_pos hd]
      rw [hv, if_pos (by simpa using row_has hp hd)]
  · unfold lFaultAt
    rw [versJ_row l ord _ (by omega) (by omega), row_len h, if_pos rfl]
theorem lin_whole (ht : ∀ i j, (hij : i < j) → (hj : j < ord.length) → beforeB (opZ l ord[j]) (opZ l (ord[i]'(Nat.lt_trans hij hj))) = false) (g : Nat) : brkI l (versJ l ord ord.length) g = (-1, -1) := by
  unfold brkI
  rw [firstP_none fun k hk i hi => ?_]
  unfold brkB
  by_cases hik : i < k
  · by_cases hp : (opZ l i).p = (opZ l k).p
    · by_cases hkk : (opZ l i).k = (opZ l k).k
      · obtain ⟨pi, hpi, ei⟩ := h.at_ hi
        obtain ⟨pk, hpk, ek⟩ := h.at_ hk
        have hlt : pi < pk := by
          have hown := ok.own i k hik hk hp
          have hb := ok.back i hi
          rcases Nat.lt_trichotomy pi pk with h1 | h1 | h1
          · exact h1
          · subst h1; omega
          · have := ht pk pi h1 hpi
            rw [ei, ek] at this
            unfold beforeB at this
            simp at this
            omega
        have h1 := age_at ok h hpi
        have h2 := age_at ok h hpk
        rw [ei] at h1
        rw [ek] at h2
        have hm := rowJ_mono l ord (opZ l k).k (n := pk) (p := pi) (by omega)
        have hge : ¬ ageI (versJ l ord ord.length) (opZ l k) < ageI (versJ l ord ord.length) (opZ l i) := by
          rw [h1, h2, hkk]
          by_cases hd : (opZ l i).d = 2
          · have hm' := rowJ_mono l ord (opZ l k).k (n := pk) (p := pi + 1) (by omega)
            have hg := getD_ord hpi
            rw [rowJ_put (by rw [hg, ei]; exact hd) (by rw [hg, ei]; exact hkk), List.length_append, List.length_singleton] at hm'
            rw [if_pos hd]
            split <;> omega
          · rw [if_neg hd]
            split <;> omega
        simp [fallB, hge]
      · simp [fallB, hkk]
    · simp [fallB, hp]
  · simp [hik]
end
end Go.Proofs.YtfojmbbhcmeejaaDoor

namespace Go.Proofs.YtfojmbbhcmeejaaDoor
open Go.RowKit

def row8 (vs : Nat → Value) : Array Value := #[vs 0, vs 1, vs 2, vs 3, vs 4, vs 5, vs 6, vs 7]
def setT (vs : Nat → Value) (q : Nat) (x : Value) : Nat → Value := fun r => if r = q then x else vs r
theorem row8_set (vs : Nat → Value) (q : Nat) (hq : q < 8) (x : Value) : (row8 vs).setIfInBounds q x = row8 (setT vs q x) := by
  match q, hq with
  | 0, _ | 1, _ | 2, _ | 3, _ | 4, _ | 5, _ | 6, _ | 7, _ => rfl
theorem row8_at (vs : Nat → Value) (q : Nat) (hq : q < 8) : (row8 vs)[q]? = some (vs q) := by
  match q, hq with
  | 0, _ | 1, _ | 2, _ | 3, _ | 4, _ | 5, _ | 6, _ | 7, _ => rfl

/-- Eight rows of one's own, each in a block of its own, and the table of them. -/
structure TabAt (w : World) (base T : Nat) (ty e : TypeId) (size : Nat) (vs : Nat → Value) (ls : Nat → List Value) (ns : Nat → Nat) : Prop where
  tab : w.heap[T]? = some (.cells (row8 vs) ty (0, 0))
  lo : base ≤ T
  rows : ∀ q, q < 8 → w.ownsRow base e size (vs q) (ns q) (ls q)
  sep : ∀ q r, q < 8 → r < 8 → q ≠ r → ∀ b, (vs q).ownBlock = some b → (vs r).ownBlock ≠ some b

theorem TabAt.same {w w' : World} {base T : Nat} {ty e : TypeId} {size : Nat} {vs : Nat → Value} {ls : Nat → List Value} {ns : Nat → Nat} (h : TabAt w base T ty e size vs ls ns) (hs : ∀ (b : Nat) (c : Array Value) (t : TypeId), w.heap[b]? = some (Obj.cells c t (0, 0)) → t = ty ∨ t = e → w'.heap[b]? = w.heap[b]?) : TabAt w' base T ty e size vs ls ns :=
  ⟨(hs T _ _ h.tab (.inl rfl)).trans h.tab, h.lo, fun q hq => ownsRow_same (h.rows q hq) (fun b hb => by
    obtain ⟨_, _, c, e⟩ := ownsRow_block (h.rows q hq) b hb
    exact hs b c _ e (.inr rfl)), h.sep⟩
theorem TabAt.alloc {w : World} {base T : Nat} {ty e : TypeId} {size : Nat} {vs : Nat → Value} {ls : Nat → List Value} {ns : Nat → Nat} (h : TabAt w base T ty e size vs ls ns) (o : Obj) : TabAt (w.alloc o) base T ty e size vs ls ns :=
  h.same (fun b _ _ e _ => Below.heap_alloc w o b (lt_of_heap e))

/-- One row grown, the table's cell not written yet. -/
structure TabMid (w : World) (base T : Nat) (ty e : TypeId) (size : Nat) (vs : Nat → Value) (q : Nat) (x : Value) (n : Nat) (l : List Value) (ls : Nat → List Value) (ns : Nat → Nat) : Prop where
  tab : w.heap[T]? = some (.cells (row8 vs) ty (0, 0))
  lo : base ≤ T
  row : w.ownsRow base e size x n l
  rows : ∀ r, r < 8 → r ≠ q → w.ownsRow base e size (vs r) (ns r) (ls r)
  sep : ∀ q r, q < 8 → r < 8 → q ≠ r → ∀ b, (vs q).ownBlock = some b → (vs r).ownBlock ≠ some b
  own : ∀ r, r < 8 → r ≠ q → ∀ b, (vs r).ownBlock = some b → x.ownBlock ≠ some b

theorem TabAt.grow {w w' : World} {base T : Nat} {ty e : TypeId} {size : Nat} {vs : Nat → Value} {ls : Nat → List Value} {ns : Nat → Nat} (h : TabAt w base T ty e size vs ls ns) (hne : ty ≠ e) {q : Nat} (hq : q < 8) {x : Value} {n : Nat} {l : List Value}
    (ho : w'.ownsRow base e size x n l) (hg : w.grownBy w' (vs q).ownBlock) (hob : x.ownBlock = (vs q).ownBlock ∨ x.ownBlock = some w.heap.size) : TabMid w' base T ty e size vs q x n l ls ns := by
  refine ⟨(hg.block T (lt_of_heap h.tab) (fun e => ?_)).trans h.tab, h.lo, ho, fun r hr hrq => ?_, h.sep, fun r hr hrq b hb he => ?_⟩
  · obtain ⟨_, _, c, e2⟩ := ownsRow_block (h.rows q hq) T e.symm
    rw [h.tab] at e2
    simp at e2
    exact hne e2.2
  · refine (h.rows r hr).kept hg ?_
    rcases Classical.em ((vs r).ownBlock = none) with h0 | h0
    · exact .inl h0
    · obtain ⟨b, hb⟩ := Option.ne_none_iff_exists'.1 h0
      exact .inr (fun e => h.sep r q hr hq hrq b hb (by rw [← e]; exact hb))
  · rcases hob with e | e
    · rw [e] at he
      exact h.sep r q hr hq hrq b hb he
    · rw [e] at he
      have := (ownsRow_block (h.rows r hr) b hb).2.1
      have := Option.some.inj he
      omega
theorem TabMid.put {w : World} {base T : Nat} {ty e : TypeId} {size : Nat} {vs : Nat → Value} {q : Nat} {x : Value} {n : Nat} {l : List Value} {ls : Nat → List Value} {ns : Nat → Nat} (h : TabMid w base T ty e size vs q x n l ls ns) (hne : ty ≠ e) (hq : q < 8) :
    TabAt (w.setCell ⟨T, q, none⟩ x) base T ty e size (setT vs q x) (fun r => if r = q then l else ls r) (fun r => if r = q then n else ns r) := by
  have hblk : ∀ (v : Value) (m : Nat) (xs : List Value), w.ownsRow base e size v m xs → (w.setCell ⟨T, q, none⟩ x).ownsRow base e size v m xs := fun v m xs hr => ownsRow_same hr (fun b hb => by
    obtain ⟨_, _, c, e2⟩ := ownsRow_block hr b hb
    have hTb : T ≠ b := fun k => by
      subst k
      rw [h.tab] at e2
      simp at e2
      exact hne e2.2
    simp [World.setCell, Array.getElem?_modify, hTb])
  refine ⟨?_, h.lo, fun r hr => ?_, fun a r ha hr har b hb he => ?_⟩
  · rw [← row8_set vs q hq]
    simp [World.setCell, Array.getElem?_modify, h.tab]
  · by_cases hrq : r = q
    · subst hrq
      simp only [setT, if_true]
      exact hblk _ _ _ h.row
    · simp only [setT, if_neg hrq]
      exact hblk _ _ _ (h.rows r hr hrq)
  · by_cases h1 : a = q
    · subst h1
      have h2 : r ≠ a := fun k => har k.symm
      simp only [setT, if_true, if_neg h2] at hb he
      exact h.own r hr h2 b he hb
    · by_cases h2 : r = q
      · subst h2
        simp only [setT, if_true, if_neg h1] at hb he
        exact h.own a ha h1 b hb he
      · simp only [setT, if_neg h1, if_neg h2] at hb he
        exact h.sep a r ha hr har b hb he


def nil8 : Nat → Value := fun _ => .slice none 0 0
theorem info41 : (Tryd.prog.info? 41).map (fun i => (i.zero, i.size, i.bytes)) = some (some (.slice none 0 0), 1, 24) := by kernel_rfl
theorem made8 : madeCells #[.slice none 0 0] 8 = row8 nil8 := by
  refine Array.ext (by simp [row8, madeCells]) (fun i h1 h2 => ?_)
  have h8 : i < 8 := by simpa [row8] using h2
  have e : (madeCells #[.slice none 0 0] 8)[i] = .slice none 0 0 := by simp [madeCells, Nat.mod_one]
  rw [e]
  match i, h8 with
  | 0, _ | 1, _ | 2, _ | 3, _ | 4, _ | 5, _ | 6, _ | 7, _ => rfl
theorem made55 (w : World) : (Instr.makeSlice 55 (.int .i64 8) (.int .i64 8)).run Tryd.prog w = .ok (.slice (some ⟨w.heap.size, 0, none⟩) 8 8) (w.alloc (.cells (row8 nil8) 41)) := by
  obtain ⟨i, hi, hz, hs, hb⟩ := info_parts info41
  have := run_make (P := Tryd.prog) w 55 41 i (.slice none 0 0) Tryd.underlying55 hi hz .i64 .i64 8 8 (by omega) (Int.le_refl _) (by rw [hb]; omega) (by omega)
  have e : (Value.slice none 0 0).cells = #[.slice none 0 0] := rfl
  rw [e, hs, show (8 : Int).toNat * 1 = 8 from rfl, made8] at this
  exact this
theorem tab_made {w : World} {base T : Nat} {ty e : TypeId} {size : Nat} (h : w.heap[T]? = some (.cells (row8 nil8) ty (0, 0))) (hb : base ≤ T) : TabAt w base T ty e size nil8 (fun _ => []) (fun _ => 0) :=
  ⟨h, hb, fun q _ => World.ownsRow_nil _ _ _ _, fun q r _ _ _ b hb => by cases hb⟩

theorem tab_cell {w : World} {base T : Nat} {ty e : TypeId} {size : Nat} {vs : Nat → Value} {ls : Nat → List Value} {ns : Nat → Nat} (h : TabAt w base T ty e size vs ls ns) {q : Nat} (hq : q < 8) : w.cell? ⟨T, q, none⟩ = some (vs q) := by
  rw [cell_of_row w _ _ _ ty (0, 0) h.tab, row8_at vs q hq]
theorem mid_cell {w : World} {base T : Nat} {ty e : TypeId} {size : Nat} {vs : Nat → Value} {q : Nat} {x : Value} {n : Nat} {l : List Value} {ls : Nat → List Value} {ns : Nat → Nat} (h : TabMid w base T ty e size vs q x n l ls ns) {r : Nat} (hr : r < 8) : w.cell? ⟨T, r, none⟩ = some (vs r) ∧ w.frozen? ⟨T, r, none⟩ = false :=
  ⟨by rw [cell_of_row w _ _ _ ty (0, 0) h.tab, row8_at vs r hr], frozen_of_row w _ _ _ ty h.tab⟩

def intV (l : List Int) : List Value := l.map fun x => .int .i64 x
/-- A number appended, and where. -/
theorem run_appI {w : World} {base B : Nat} {v : Value} {n : Nat} {L : List Int} {x : Int} (hown : w.ownsRow base 3 1 v n (intV L)) (hB : w.cell? ⟨B, 0, none⟩ = some (.int .i64 x)) (hb : base ≤ w.heap.size) (hlen : n ≤ 1000) (ty : TypeId) :
    ∃ v' w', (Builtin.append_ #[41, 41] ty #[v, .slice (some ⟨B, 0, none⟩) 1 1]).run Tryd.prog w = .ok v' w' ∧ w'.ownsRow base 3 1 v' (n + 1) (intV (L ++ [x])) ∧ w.grownBy w' v.ownBlock ∧ (v'.ownBlock = v.ownBlock ∨ v'.ownBlock = some w.heap.size) := by
  obtain ⟨i, hi, hz, hsz, hby⟩ := info_parts info3
  have hnews : ∀ j u, [Value.int .i64 x][j]? = some u → w.cell? ((⟨B, 0, none⟩ : Addr).add j) = some u := by
    intro j u hj
    match j, hj with
    | 0, hj => simp at hj; subst hj; simpa [Addr.add] using hB
  obtain ⟨v', w', hr, ho, hg, _, hob⟩ := run_append_own_at (P := Tryd.prog) (w := w) base 41 ty 3 i _ 1 8 Tryd.underlying41 hi hz hsz hby rfl (by decide) v _ _ hown ⟨B, 0, none⟩ 1 1 [.int .i64 x] rfl hnews (by simp [Value.oneCell']) (by unfold maxLen; omega) (by omega) hb
  refine ⟨v', w', hr, ?_, hg, hob⟩
  have e : intV (L ++ [x]) = intV L ++ [.int .i64 x] := by simp [intV]
  rw [e]; exact ho
theorem has_of_own {w : World} {base : Nat} {v : Value} {L : List Int} (h : w.ownsRow base 3 1 v L.length (intV L)) : HasInts w v L := by
  obtain ⟨hl, ⟨rfl, h0⟩ | ⟨g, cap, cur, rfl, hb, hh, h1, h2, h3, h4⟩⟩ := h
  · have : L = [] := List.eq_nil_of_length_eq_zero h0
    subst this
    exact ⟨none, 0, rfl, by decide, by decide, fun _ => rfl, .inl rfl⟩
  · refine ⟨_, cap, rfl, h1, h2, fun e => (by cases e), .inr ⟨g, 0, rfl, fun j hj => ?_⟩⟩
    rw [cell_of_row _ _ _ _ 3 _ hh, Nat.zero_add]
    have e : (cur.toList.take (L.length * 1))[j]? = (intV L)[j]? := by rw [h4]
    rw [List.getElem?_take_of_lt (by omega), Array.getElem?_toList] at e
    rw [e]
    simp [intV, List.getElem?_eq_getElem hj]
theorem versJ_get {l : List Opn} {ord : List Nat} {j q : Nat} (hq : q < (versJ l ord j).length) : (versJ l ord j)[q] = rowJ l ord q j := by simp [versJ]
/-- The table read as versions. -/
theorem tab_vers {w : World} {base T : Nat} {vs : Nat → Value} {l : List Opn} {ord : List Nat} {j : Nat} (h : TabAt w base T 41 3 1 vs (fun q => intV (rowJ l ord q j)) (fun q => (rowJ l ord q j).length)) : VersAt w (.slice (some ⟨T, 0, none⟩) 8 8) (versJ l ord j) := by
  refine ⟨_, 8, by rw [versJ_len], by rw [versJ_len]; exact Nat.le_refl _, .inr ⟨T, 0, rfl, lt_of_heap h.tab, fun q hq => ?_⟩⟩
  have hq8 : q < 8 := by rw [versJ_len] at hq; exact hq
  refine ⟨vs q, by rw [Nat.zero_add]; exact tab_cell h hq8, ?_⟩
  rw [versJ_get]
  exact has_of_own (h.rows q hq8)
theorem versJ_short {l : List Opn} {ord : List Nat} {j : Nat} (h : j ≤ 1000) : ShortV (versJ l ord j) := by
  refine ⟨by rw [versJ_len]; omega, fun xs hx => ?_⟩
  unfold versJ at hx
  obtain ⟨q, _, rfl⟩ := List.mem_map.1 hx
  have := rowJ_le l ord q j
  omega

end Go.Proofs.YtfojmbbhcmeejaaDoor
