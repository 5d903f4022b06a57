/-
  A graph that came in, in memory: rows of bools; what Check tells of it. The document's Check, walked.
-/
import Derived.Test.YtaopigjhdkdklaaDoorMatPZ
import Derived.Test.YtaopigjhdkdklaaDoorGhPZ
namespace Go.Proofs.YtaopigjhdkdklaaDoor
open Go.RowKit

/-- A row of bools. -/
def BitsIn (w : World) (v : Value) (bs : List Bool) : Prop := ∃ a cap, v = .slice a bs.length cap ∧ bs.length ≤ cap ∧ (bs = [] ∨ ∃ b off, a = some ⟨b, off, none⟩ ∧ b < w.heap.size ∧ ∀ j (h : j < bs.length), w.cell? ⟨b, off + j, none⟩ = some (.bool bs[j]))
/-- Rows of them. -/
def GrQ (w : World) (a : Option Addr) (R : List (List Bool)) : Prop := R = [] ∨ ∃ b off, a = some ⟨b, off, none⟩ ∧ b < w.heap.size ∧ ∀ i (h : i < R.length), ∃ s, w.cell? ⟨b, off + i, none⟩ = some s ∧ BitsIn w s R[i]
theorem BitsIn.below {w w' : World} {v : Value} {bs : List Bool} (h : BitsIn w v bs) (hw : Below w.heap.size w w') : BitsIn w' v bs := by
  obtain ⟨a, cap, e, hc, h | ⟨b, off, rfl, hb, hj⟩⟩ := h
  · exact ⟨a, cap, e, hc, .inl h⟩
  · exact ⟨_, cap, e, hc, .inr ⟨b, off, rfl, Nat.lt_of_lt_of_le hb hw.size, fun j h => (hw.cell (p := ⟨b, off + j, none⟩) hb).trans (hj j h)⟩⟩
theorem GrQ.below {w w' : World} {a : Option Addr} {R : List (List Bool)} (h : GrQ w a R) (hw : Below w.heap.size w w') : GrQ w' a R := by
  rcases h with h | ⟨b, off, rfl, hb, hj⟩
  · exact .inl h
  · refine .inr ⟨b, off, rfl, Nat.lt_of_lt_of_le hb hw.size, fun i hi => ?_⟩
    obtain ⟨s, hs, hr⟩ := hj i hi
    exact ⟨s, (hw.cell (p := ⟨b, off + i, none⟩) hb).trans hs, hr.below hw⟩
def gB (R : List (List Bool)) (i k : Nat) : Bool := (R.getD i []).getD k false
/-- What Check tells: 0, more than 40 rows (4), a row that has not as many (3). -/
def ckG (R : List (List Bool)) : Int := if 40 < R.length then 4 else if (R.all fun r => r.length == R.length) = true then 0 else 3
theorem ckG_ok {R : List (List Bool)} (h : ckG R = 0) : R.length ≤ 40 ∧ ∀ r ∈ R, r.length = R.length := by
  unfold ckG at h
  split at h
  · cases h
  · split at h
    · rename_i h1 h2
      exact ⟨by omega, fun r hr => by simpa using List.all_eq_true.1 h2 r hr⟩
    · cases h
/-- A graph that may be, row by row. -/
theorem GrQ.at {w : World} {a : Option Addr} {R : List (List Bool)} (h : GrQ w a R) (ok : ckG R = 0) {i : Nat} (hi : i < R.length) : ∃ b off, a = some ⟨b, off, none⟩ ∧ b < w.heap.size ∧ ∃ rb ro rc, w.cell? ⟨b, off + i, none⟩ = some (.slice (some ⟨rb, ro, none⟩) R.length rc) ∧ R.length ≤ rc ∧ rb < w.heap.size ∧ ∀ k, k < R.length → w.cell? ⟨rb, ro + k, none⟩ = some (.bool (gB R i k)) := by
  rcases h with h | ⟨b, off, rfl, hb, hj⟩
  · subst h; simp at hi
  · obtain ⟨s, hs, a2, cap, rfl, hc, h⟩ := hj i hi
    have hl := (ckG_ok ok).2 R[i] (List.getElem_mem hi)
    rcases h with h | ⟨rb, ro, rfl, hrb, hk⟩
    · rw [h] at hl; simp at hl; omega
    · refine ⟨b, off, rfl, hb, rb, ro, cap, by rw [← hl]; exact hs, by rw [← hl]; exact hc, hrb, fun k hkk => ?_⟩
      rw [hk k (by omega)]
      unfold gB
      simp [List.getD, hi, show k < R[i].length by omega]

end Go.Proofs.YtaopigjhdkdklaaDoor
