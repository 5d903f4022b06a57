/-
  The document's own roads from step to step (Ahead9's closure), walked.
-/
import Derived.Test.YtmonbkoelehdlaaDoorMatP
import Derived.Deep.QuietTactic
import Derived.BigQuiet
import Derived.Deep.RegionHeld3
namespace Go.Proofs.YtmonbkoelehdlaaDoor
open Go.RowKit

set_option maxRecDepth 100000 in
set_option maxHeartbeats 4000000 in
theorem roads_any (l : List Stp) (a : Option Addr) (cap Bx : Nat) (w : World) (hlen : l.length ≤ 60) (hl : StpsQ w a l) (hB : w.cell? ⟨Bx, 0, none⟩ = some (.slice a l.length cap)) (i k : Nat) (hi : i < l.length) (hk : k < l.length) :
    Calls Tryd.prog 33 #[.int .i64 (i : Nat), .int .i64 (k : Nat), .pointer (some ⟨Bx, 0, none⟩)] w fun e w' => e = .returned (.bool (roadC l i k)) ∧ Below w.heap.size w w' := by
  obtain ⟨b, off, rfl, hlt, hst⟩ : ∃ b off, a = some ⟨b, off, none⟩ ∧ b < w.heap.size ∧ StpsAt w b off l := by
    rcases hl with h | h
    · subst h; simp at hi
    · exact h
  obtain ⟨x0, x1, x2⟩ := hst i hi
  obtain ⟨y0, y1, y2⟩ := hst k hk
  have HX : Hid (stZ l i = l[i] ∧ stZ l k = l[k]) := ⟨stZ_at hi, stZ_at hk⟩
  generalize l[i] = x at x0 x1 x2 HX
  generalize l[k] = y at y0 y1 y2 HX
  clear hst hl
  have HR : Hid (roadC l i k = (decide (i < k) && (x.p == y.p || (y.k == 3 && (x.k == 2 && x.m == y.m))))) := by
    show roadC l i k = _
    unfold roadC sendB
    rw [HX.out.1, HX.out.2]
  by_cases g1 : i < k
  · by_cases g2 : x.p = y.p
    · have d2 : (x.p == y.p) = true := by simp [g2]
      go_enter Tryd.func33, Tryd.ntmps33
      go_wp2_with fail
      go_big_quiet (fail)
      go_wp2
      go_ret
      exact ⟨ret_bool (by rw [HR.out]; simp [g1, g2]), below_drewN (Below.refl _ _) _⟩
    · have d2 : (x.p == y.p) = false := by simp [g2]
      by_cases g3 : x.k = 2
      · have d3 : (x.k == 2) = true := by simp [g3]
        by_cases g4 : y.k = 3
        · have d4 : (y.k == 3) = true := by simp [g4]
          by_cases g5 : x.m = y.m
          · have d5 : (x.m == y.m) = true := by simp [g5]
            go_enter Tryd.func33, Tryd.ntmps33
            go_wp2_with fail
            go_big_quiet (fail)
            go_wp2
            go_ret
            exact ⟨ret_bool (by rw [HR.out]; simp [g1, g3, g4, g5]), below_drewN (Below.refl _ _) _⟩
          · have d5 : (x.m == y.m) = false := by simp [g5]
            go_enter Tryd.func33, Tryd.ntmps33
            go_wp2_with fail
            go_big_quiet (fail)
            go_wp2
            go_ret
            exact ⟨ret_bool (by rw [HR.out]; simp [g2, g5]), below_drewN (Below.refl _ _) _⟩
        · have d4 : (y.k == 3) = false := by simp [g4]
          go_enter Tryd.func33, Tryd.ntmps33
          go_wp2_with fail
          go_big_quiet (fail)
          go_wp2
          go_ret
          exact ⟨ret_bool (by rw [HR.out]; simp [g2, g4]), below_drewN (Below.refl _ _) _⟩
      · have d3 : (x.k == 2) = false := by simp [g3]
        go_enter Tryd.func33, Tryd.ntmps33
        go_wp2_with fail
        go_big_quiet (fail)
        go_wp2
        go_ret
        exact ⟨ret_bool (by rw [HR.out]; simp [g2, g3]), below_drewN (Below.refl _ _) _⟩
  · go_enter Tryd.func33, Tryd.ntmps33
    go_wp2_with fail
    go_big_quiet (fail)
    go_wp2
    go_ret
    exact ⟨ret_bool (by rw [HR.out]; simp [g1]), below_drewN (Below.refl _ _) _⟩
end Go.Proofs.YtmonbkoelehdlaaDoor
