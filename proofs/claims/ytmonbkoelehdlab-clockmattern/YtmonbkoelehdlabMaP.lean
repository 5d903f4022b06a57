/-
  Chapter 9 in plain Lean: vectors held against what happened ahead.
-/
import Derived.Test.YtmonbkoelehdlabLeW
import Derived.Test.YtmonbkoelehdlabVecM
namespace Go.Proofs.Ytmonbkoelehdlab

theorem less_ahead {l : List Stp} (hp : ∀ i, i < l.length → 0 ≤ (stZ l i).p ∧ (stZ l i).p ≤ 7) {i k : Nat} (hi : i < l.length) (hk : k < l.length) : lessB (vecI l i) (vecI l k) = aheadC l i k := by
  have hout : ∀ j (q : Int), ¬ (0 ≤ q ∧ q ≤ 7) → vecC l j q = 0 := fun j q h => cnt_out hp _ h
  have hle : leB (vecI l i) (vecI l k) = true ↔ ∀ q, vecC l i q ≤ vecC l k q := by
    rw [leB_iff]
    constructor
    · intro h q
      by_cases e : 0 ≤ q ∧ q ≤ 7
      · have := h q.toNat (by omega)
        unfold vecI at this
        rw [show ((q.toNat : Nat) : Int) = q by omega] at this
        omega
      · rw [hout i q e, hout k q e]; exact Nat.le_refl _
    · intro h q _
      unfold vecI
      exact Int.ofNat_le.2 (h q)
  have heq : eqB (vecI l i) (vecI l k) = true ↔ ∀ q, vecC l i q = vecC l k q := by
    rw [eqB_iff]
    constructor
    · intro h q
      by_cases e : 0 ≤ q ∧ q ≤ 7
      · have := h q.toNat (by omega)
        unfold vecI at this
        rw [show ((q.toNat : Nat) : Int) = q by omega] at this
        omega
      · rw [hout i q e, hout k q e]
    · intro h q _
      unfold vecI
      rw [h q]
  rw [Bool.eq_iff_iff, mattern hi hk]
  unfold lessB
  rw [Bool.and_eq_true, hle]
  constructor
  · rintro ⟨h1, h2⟩
    refine ⟨h2, ?_⟩
    refine Classical.byContradiction fun hn => ?_
    have : eqB (vecI l i) (vecI l k) = true := heq.2 fun q => Classical.byContradiction fun hq => hn ⟨q, hq⟩
    rw [this] at h1
    cases h1
  · rintro ⟨h1, q, hq⟩
    refine ⟨?_, h1⟩
    cases e : eqB (vecI l i) (vecI l k)
    · rfl
    · exact absurd (heq.1 e q) hq
theorem time_ahead {l : List Stp} (ok : ClOk l) {t : Nat → Nat} (h : CountsT l t) {i k : Nat} (hi : i < l.length) (hk : k < l.length) (ha : aheadC l i k = true) : t i < t k :=
  (counts_long ok h k hk).1 i hi ha
end Go.Proofs.Ytmonbkoelehdlab
