/-
  The statements' own sameInts, walked.
-/
import Derived.Test.YtaopigjhdkdklaaDoorSmIZ
namespace Go.Proofs.YtaopigjhdkdklaaDoor
open Go.RowKit

set_option maxRecDepth 100000 in
set_option maxHeartbeats 1000000 in
theorem sameInts_any (xs : List Int) (hn : xs.length ≤ 60) (v v' : Value) (w : World) (h : HasI w v xs) (h' : HasI w v' xs) :
    Calls Tryd.prog 30 #[v, v'] w fun e w' => e = .returned (.bool true) ∧ Below w.heap.size w w' := by
  have HR := hideIt h
  have HR' := hideIt h'
  obtain ⟨a, cap, rfl, hc, _⟩ := h
  obtain ⟨a', cap', rfl, hc', _⟩ := h'
  go_enter Tryd.func30, Tryd.ntmps30
  go_wp2
  go_loopw [5] (fun i wr => ∃ (k : Nat), k ≤ xs.length ∧ i = .int .i64 k ∧ Below w.heap.size w wr) (fun i _ => xs.length - (intOf i).toNat)
  case atStart => exact ⟨0, Nat.zero_le _, rfl, Below.refl _ _⟩
  case round =>
    obtain ⟨i, hi, rfl, hb⟩ := hrel
    have HB := hideIt hb
    clear hb
    by_cases hin : i < xs.length
    · obtain ⟨b1, p1, e1, _, hr1⟩ := HR.out.below HB.out
      obtain ⟨b2, p2, e2, _, hr2⟩ := HR'.out.below HB.out
      simp at e1 e2
      obtain ⟨rfl, rfl⟩ := e1
      obtain ⟨rfl, rfl⟩ := e2
      obtain ⟨g, off, rfl, c1⟩ := hr1 i hin
      obtain ⟨g', off', rfl, c2⟩ := hr2 i hin
      clear hr1 hr2
      generalize xs[i] = x at c1 c2
      have hne : (x != x) = false := by simp
      go_wp2_with fail
      go_big_quiet (fail)
      go_wp2
      go_roundw
      case rel => exact ⟨i + 1, by omega, by go_num, below_drewN HB.out _⟩
      case measure => simp [intOf]; omega
    · go_wp2
      go_ret
      exact ⟨rfl, HB.out⟩
end Go.Proofs.YtaopigjhdkdklaaDoor
