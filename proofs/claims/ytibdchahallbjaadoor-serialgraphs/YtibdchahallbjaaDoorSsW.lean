/-
  Two rows of steps held against each other.
-/
import Derived.Test.YtibdchahallbjaaDoorDnW
import Derived.Test.YtibdchahallbjaaDoorSmI
namespace Go.Proofs.YtibdchahallbjaaDoor
open Go.RowKit

set_option maxRecDepth 100000 in
set_option maxHeartbeats 1000000 in
theorem sameSteps_any (l : List Stp) (a a' : Option Addr) (cap cap' : Nat) (w : World) (hn : l.length ≤ 100) (h : StpsQ w a l) (h' : StpsQ w a' l) :
    Calls Tryd.prog 28 #[.slice a l.length cap, .slice a' l.length cap'] w fun e w' => e = .returned (.bool true) ∧ Below w.heap.size w w' := by
  have HC := hideIt (mixed_any l a cap w hn h)
  have HR' := hideIt h'
  clear h h'
  go_enter Tryd.func28, Tryd.ntmps28
  go_wp2_with fail
  refine HC.out.mono ?_
  rintro e w1 ⟨a1, cap1, rfl, hc1, hq, hb1⟩
  have HQ := hideIt hq
  have HB1 := hideIt hb1
  clear hq hb1 HC
  go_wp2
  go_loopw [6] (fun i wr => ∃ k : Nat, k ≤ l.length ∧ i = .int .i64 k ∧ Below w.heap.size w wr ∧ Below w1.heap.size w1 wr) (fun i _ => l.length - (intOf i).toNat)
  case atStart => exact ⟨0, Nat.zero_le _, rfl, HB1.out, Below.refl _ _⟩
  case round =>
    obtain ⟨i, hi, rfl, hb, hb2⟩ := hrel
    have HB := hideIt hb
    have HB2 := hideIt hb2
    clear hb hb2
    by_cases hil : i < l.length
    · obtain ⟨b, off, rfl, hlt, hst⟩ : ∃ b off, a' = some ⟨b, off, none⟩ ∧ b < w.heap.size ∧ StpsAt w b off l := by
        rcases HR'.out with h | h
        · subst h; simp at hil
        · exact h
      obtain ⟨b', off', rfl, hlt', hst'⟩ : ∃ b off, a1 = some ⟨b, off, none⟩ ∧ b < w1.heap.size ∧ StpsAt w1 b off l := by
        rcases HQ.out with h | h
        · subst h; simp at hil
        · exact h
      obtain ⟨c0, c1, c2⟩ := (hst i hil).below hlt HB.out
      obtain ⟨d0, d1, d2⟩ := (hst' i hil).below hlt' HB2.out
      clear hst hst'
      generalize l[i] = x at c0 c1 c2 d0 d1 d2
      go_wp2_with fail
      go_big_quiet (fail)
      go_wp2
      go_roundw
      case rel => exact ⟨i + 1, by omega, by go_num, below_drewN HB.out _, below_drewN HB2.out _⟩
      case measure => simp [intOf]; omega
    · go_wp2
      go_ret
      exact ⟨rfl, HB.out⟩
end Go.Proofs.YtibdchahallbjaaDoor
