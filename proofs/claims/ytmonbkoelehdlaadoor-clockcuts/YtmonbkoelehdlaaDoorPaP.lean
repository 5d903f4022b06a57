/-
  Chapter 9 in plain Lean: what each process knows behind so many of its steps; cuts held against that. (Nothing of the program in it.)
-/
import Derived.Test.YtmonbkoelehdlaaDoorCkP
namespace Go.Proofs.YtmonbkoelehdlaaDoor

/-- The step of a process that has so many of its process up to it. -/
def nthC (l : List Stp) (p : Int) (r : Nat) : Option Nat := firstN (fun i => (stZ l i).p == p && rkC l i == r) l.length
def knC (l : List Stp) (p : Int) (r : Nat) (q : Int) : Nat := match nthC l p r with
  | some i => vecC l i q
  | none => 0
theorem rk_pos (l : List Stp) (i : Nat) : 1 ≤ rkC l i := by
  unfold rkC
  rw [List.range_succ, List.countP_append]
  simp
theorem rk_one {l : List Stp} {i j : Nat} (hp : (stZ l i).p = (stZ l j).p) (h : rkC l i = rkC l j) : i = j := by
  rcases Nat.lt_trichotomy i j with e | e | e
  · have := rk_mono e hp; omega
  · exact e
  · have := rk_mono e hp.symm; omega
theorem nth_zero (l : List Stp) (p : Int) : nthC l p 0 = none := by
  refine firstN_none fun j _ => ?_
  have := rk_pos l j
  have h : (rkC l j == 0) = false := by simp; omega
  rw [h, Bool.and_false]
theorem nth_at {l : List Stp} {i : Nat} (hi : i < l.length) : nthC l (stZ l i).p (rkC l i) = some i := by
  rcases firstN_cases (fun j => (stZ l j).p == (stZ l i).p && rkC l j == rkC l i) l.length with ⟨_, ha⟩ | ⟨k, hk, h, hf, _⟩
  · have := ha i hi; simp at this
  · simp at hf
    obtain rfl := rk_one hf.1 hf.2
    exact h
theorem kn_zero (l : List Stp) (p q : Int) : knC l p 0 q = 0 := by unfold knC; rw [nth_zero]
theorem kn_at {l : List Stp} {i : Nat} (hi : i < l.length) (q : Int) : knC l (stZ l i).p (rkC l i) q = vecC l i q := by unfold knC; rw [nth_at hi]
theorem cnt_most (l : List Stp) (S : Nat → Bool) (q : Int) : cntC l S q ≤ allC l q := cnt_le q fun _ _ _ _ => rfl
theorem nth_some {l : List Stp} {p : Int} {r : Nat} (h1 : 1 ≤ r) (h2 : r ≤ allC l p) : ∃ i, i < l.length ∧ (stZ l i).p = p ∧ rkC l i = r := by
  have hc := ins_count (l := l) (d := fun _ => (r : Int)) (q := p) (by omega) (by omega)
  rcases cnt_last (insB_down l fun _ => (r : Int)) p with h | ⟨i, hi, hp, _, hr⟩
  · rw [h] at hc; simp at hc; omega
  · exact ⟨i, hi, hp, by rw [hr]; exact Int.ofNat.inj hc⟩
theorem inC_sub {l : List Stp} {k m : Nat} (hm : m < l.length) (hkm : k ≤ m) (hp : (stZ l k).p = (stZ l m).p) {i : Nat} (hi : i < l.length) (h : inC l k i = true) : inC l m i = true := by
  by_cases e : k = m
  · subst e; exact h
  · have hkm' : aheadC l k m = true := aheadC_own (by omega) hm hp
    unfold inC at h ⊢
    simp at h ⊢
    rcases h with rfl | h
    · exact .inr hkm'
    · exact .inr (aheadC_trans hi (by omega) hm h hkm')

theorem steady_kn {l : List Stp} {c : Int → Int} (hc : ∀ q, 0 ≤ c q ∧ c q ≤ allC l q) : SteadyC l c ↔ ∀ p q, (knC l p (c p).toNat q : Int) ≤ c q := by
  constructor
  · intro hs p q
    by_cases e : c p = 0
    · rw [e, show (0 : Int).toNat = 0 from rfl, kn_zero]; exact (hc q).1
    · have h0 := hc p
      obtain ⟨i, hi, hp, hr⟩ := nth_some (l := l) (p := p) (r := (c p).toNat) (by omega) (by omega)
      have hin : insB l c i = true := by unfold insB; rw [hr, hp]; simp; omega
      rw [show knC l p (c p).toNat q = vecC l i q by rw [← hr, ← hp]; exact kn_at hi q]
      have hle : vecC l i q ≤ cntC l (insB l c) q := cnt_le q fun j hj _ h => by
        unfold inC at h
        simp at h
        rcases h with rfl | h
        · exact hin
        · exact hs j i hj hi h hin
      have := ins_count (l := l) (d := c) (q := q) (hc q).1 (hc q).2
      omega
  · intro h i k hi hk ha hin
    have hk1 := rk_pos l k
    have hkc : (rkC l k : Int) ≤ c (stZ l k).p := by simpa [insB] using hin
    have hb := hc (stZ l k).p
    obtain ⟨m, hm, hp, hr⟩ := nth_some (l := l) (p := (stZ l k).p) (r := (c (stZ l k).p).toNat) (by omega) (by omega)
    have hkm : k ≤ m := by
      rcases Nat.lt_or_ge m k with h' | h'
      · have := rk_mono h' hp; omega
      · exact h'
    have him : inC l m i = true := inC_sub hm hkm hp.symm hi (by unfold inC; simp [ha])
    have h1 := (rank_in (inC_down hm) hi).1 him
    have h2 := h (stZ l k).p (stZ l i).p
    rw [show knC l (stZ l k).p (c (stZ l k).p).toNat (stZ l i).p = vecC l m (stZ l i).p by rw [← hr, ← hp]; exact kn_at hm _] at h2
    unfold insB
    simp
    exact Int.le_trans (Int.ofNat_le.2 h1) h2

theorem bel_kn {l : List Stp} {c d : Int → Int} (hd : ∀ q, (belC l c q : Int) ≤ d q) {p q : Int} (h : d q < (knC l p (d p).toNat q : Int)) : (belC l c p : Int) ≤ d p - 1 := by
  have hb := (steady_kn (l := l) (c := fun q => (belC l c q : Int)) fun q => ⟨by omega, Int.ofNat_le.2 (cnt_most l _ q)⟩).1 (below_steady l c) p q
  have h1 := hd p
  have h2 := hd q
  by_cases e : (belC l c p : Int) = d p
  · rw [← e] at h
    simp at h hb
    omega
  · omega
theorem bel_end {l : List Stp} {c d : Int → Int} (hl : ∀ q, (belC l c q : Int) ≤ d q) (hu : ∀ q, d q ≤ c q) (hc : ∀ q, c q ≤ allC l q) (hs : ∀ p q, (knC l p (d p).toNat q : Int) ≤ d q) : ∀ q, d q = (belC l c q : Int) := by
  have hd : ∀ q, 0 ≤ d q ∧ d q ≤ allC l q := fun q => ⟨by have := hl q; omega, Int.le_trans (hu q) (hc q)⟩
  intro q
  have h1 := below_greatest ((steady_kn hd).2 hs) hu (hd q).1 (hd q).2
  have h2 := hl q
  omega

/-! ### cuts, as eight numbers -/
def cutF (c : Nat → Int) (q : Int) : Int := if 0 ≤ q ∧ q ≤ 7 then c q.toNat else 0
theorem cutF_at (c : Nat → Int) {p : Nat} (h : p < 8) : cutF c (p : Int) = c p := by
  unfold cutF
  rw [if_pos (by omega)]
  simp
theorem cutF_out (c : Nat → Int) {q : Int} (h : ¬ (0 ≤ q ∧ q ≤ 7)) : cutF c q = 0 := if_neg h
theorem cutF_in (c : Nat → Int) {q : Int} (h : 0 ≤ q ∧ q ≤ 7) : ∃ p : Nat, p < 8 ∧ q = p ∧ cutF c q = c p := ⟨q.toNat, by omega, by omega, if_pos h⟩
theorem cnt_out {l : List Stp} (hp : ∀ i, i < l.length → 0 ≤ (stZ l i).p ∧ (stZ l i).p ≤ 7) (S : Nat → Bool) {q : Int} (h : ¬ (0 ≤ q ∧ q ≤ 7)) : cntC l S q = 0 := by
  unfold cntC
  rw [List.countP_eq_zero]
  intro i hi
  have := hp i (List.mem_range.1 hi)
  have e : (stZ l i).p ≠ q := fun e => h (by omega)
  simp [e]
theorem kn_out {l : List Stp} (hp : ∀ i, i < l.length → 0 ≤ (stZ l i).p ∧ (stZ l i).p ≤ 7) {p q : Int} {r : Nat} (h : ¬ (0 ≤ p ∧ p ≤ 7) ∨ ¬ (0 ≤ q ∧ q ≤ 7)) : knC l p r q = 0 := by
  unfold knC
  rcases firstN_cases (fun i => (stZ l i).p == p && rkC l i == r) l.length with ⟨e, _⟩ | ⟨k, hk, e, hf, _⟩
  · unfold nthC; rw [e]
  · unfold nthC; rw [e]
    simp at hf
    rcases h with h | h
    · exact absurd (hf.1 ▸ hp k hk) h
    · exact cnt_out hp _ h
/-- A cut that can be made. -/
def CutOk (l : List Stp) (c : Nat → Int) : Prop := ∀ p, p < 8 → 0 ≤ c p ∧ c p ≤ allC l p
theorem CutOk.all {l : List Stp} {c : Nat → Int} (h : CutOk l c) : ∀ q, 0 ≤ cutF c q ∧ cutF c q ≤ allC l q := fun q => by
  by_cases e : 0 ≤ q ∧ q ≤ 7
  · obtain ⟨p, hp8, rfl, e2⟩ := cutF_in c e
    rw [e2]; exact h p hp8
  · rw [cutF_out c e]; omega
theorem steady_cut {l : List Stp} (hp : ∀ i, i < l.length → 0 ≤ (stZ l i).p ∧ (stZ l i).p ≤ 7) {c : Nat → Int} (h : CutOk l c) : SteadyC l (cutF c) ↔ ∀ p : Nat, p < 8 → ∀ q : Nat, q < 8 → (knC l p (c p).toNat q : Int) ≤ c q := by
  rw [steady_kn (h.all)]
  constructor
  · intro hs p hp8 q hq8
    have := hs p q
    rwa [cutF_at c hp8, cutF_at c hq8] at this
  · intro hs p q
    by_cases e : 0 ≤ p ∧ p ≤ 7
    · by_cases e' : 0 ≤ q ∧ q ≤ 7
      · obtain ⟨p', h1, rfl, h2⟩ := cutF_in c e
        obtain ⟨q', h3, rfl, h4⟩ := cutF_in c e'
        rw [h2, h4]; exact hs p' h1 q' h3
      · rw [kn_out hp (.inr e')]; exact (h.all q).1
    · rw [kn_out hp (.inl e)]; exact (h.all q).1
/-- What Below tells, as eight numbers. -/
def belN (l : List Stp) (c : Nat → Int) (p : Nat) : Int := (belC l (cutF c) p : Int)
theorem cut_bel {l : List Stp} (hp : ∀ i, i < l.length → 0 ≤ (stZ l i).p ∧ (stZ l i).p ≤ 7) (c : Nat → Int) : cutF (belN l c) = fun q => (belC l (cutF c) q : Int) := by
  funext q
  by_cases e : 0 ≤ q ∧ q ≤ 7
  · obtain ⟨p, h1, rfl, h2⟩ := cutF_in (belN l c) e
    rw [h2]; rfl
  · rw [cutF_out _ e]
    have : belC l (cutF c) q = 0 := cnt_out hp _ e
    rw [this]; rfl
theorem bel_ok {l : List Stp} (c : Nat → Int) : CutOk l (belN l c) := fun p _ => ⟨by unfold belN; omega, Int.ofNat_le.2 (cnt_most l _ _)⟩
theorem bel_steady {l : List Stp} (hp : ∀ i, i < l.length → 0 ≤ (stZ l i).p ∧ (stZ l i).p ≤ 7) (c : Nat → Int) : SteadyC l (cutF (belN l c)) := by
  rw [cut_bel hp]; exact below_steady l _
theorem bel_le {l : List Stp} {c : Nat → Int} (h : CutOk l c) {p : Nat} (hp : p < 8) : belN l c p ≤ c p := by
  have := below_le (l := l) (c := cutF c) (q := (p : Int)) (by rw [cutF_at c hp]; exact (h p hp).1)
  rwa [cutF_at c hp] at this
theorem bel_great {l : List Stp} {c d : Nat → Int} (hd : CutOk l d) (hs : SteadyC l (cutF d)) (hle : ∀ p, p < 8 → d p ≤ c p) {p : Nat} (h8 : p < 8) : d p ≤ belN l c p := by
  have := below_greatest (c := cutF c) hs (fun q => by
    by_cases e : 0 ≤ q ∧ q ≤ 7
    · obtain ⟨p', h1, rfl, h2⟩ := cutF_in d e
      rw [h2, cutF_at c h1]; exact hle p' h1
    · rw [cutF_out d e, cutF_out c e]; exact Int.le_refl _) (q := (p : Int)) (hd.all _).1 (hd.all _).2
  rwa [cutF_at d h8] at this
/-- One step out, where more is known than is in the cut. -/
theorem bel_out {l : List Stp} (hp : ∀ i, i < l.length → 0 ≤ (stZ l i).p ∧ (stZ l i).p ≤ 7) {c d : Nat → Int} (hd : ∀ p, p < 8 → belN l c p ≤ d p) {p q : Nat} (h8 : p < 8) (hq : q < 8) (h : d q < (knC l p (d p).toNat q : Int)) : belN l c p ≤ d p - 1 := by
  have := bel_kn (l := l) (c := cutF c) (d := cutF d) (fun q => by
    have e2 := congrFun (cut_bel hp c) q
    change cutF (belN l c) q = (belC l (cutF c) q : Int) at e2
    rw [← e2]
    by_cases e : 0 ≤ q ∧ q ≤ 7
    · obtain ⟨p', h1, rfl, h2⟩ := cutF_in d e
      rw [h2, cutF_at _ h1]; exact hd p' h1
    · rw [cutF_out _ e, cutF_out _ e]; exact Int.le_refl _) (p := (p : Int)) (q := (q : Int)) (by rw [cutF_at d hq, cutF_at d h8]; exact h)
  rwa [cutF_at d h8] at this
theorem bel_done {l : List Stp} (hp : ∀ i, i < l.length → 0 ≤ (stZ l i).p ∧ (stZ l i).p ≤ 7) {c d : Nat → Int} (hc : CutOk l c) (hd : ∀ p, p < 8 → belN l c p ≤ d p) (hu : ∀ p, p < 8 → d p ≤ c p) (hs : ∀ p : Nat, p < 8 → ∀ q : Nat, q < 8 → (knC l p (d p).toNat q : Int) ≤ d q) : ∀ p, p < 8 → d p = belN l c p := fun p h8 => by
  have hdo : CutOk l d := fun p h => ⟨Int.le_trans (bel_ok c p h).1 (hd p h), Int.le_trans (hu p h) (hc p h).2⟩
  have h1 := bel_great hdo ((steady_cut hp hdo).2 hs) hu h8
  have h2 := hd p h8
  omega
end Go.Proofs.YtmonbkoelehdlaaDoor
