/-
  The statements' own isolates, walked: it says yes.
-/
import Derived.Test.YtodanhjookgbeaaKlWZ
import Derived.Test.YtodanhjookgbeaaIlW
namespace Go.Proofs.Ytodanhjookgbeaa
open Go.RowKit

theorem sk_flt : fltI skS = 0 := by kernel_rfl
theorem sk_any : fndB skS 5 = true := by kernel_rfl
theorem sk_single : fndB skS 4 = false := by kernel_rfl
theorem sk_round : fndB skS 3 = false := by kernel_rfl
theorem sk_lvl : lvlI skS = 2 := by kernel_rfl

set_option maxRecDepth 100000 in
set_option maxHeartbeats 1000000 in
theorem isolates_any (w : World) : Calls Try.prog 8 #[] w fun e w' => e = .returned (.bool true) ∧ Below w.heap.size w w' := by
  go_enter Try.func8, Try.ntmps8
  go_wp2_with fail
  refine (skews_any w).mono ?_
  rintro e w1 ⟨a, ca, b, cb, rfl, hs, hb1⟩
  have HB := hideIt hb1
  have HF := hideIt (finds_any skS a b ca cb w1 hs)
  unfold FinTold at HF
  rw [sk_flt, show toldV 0 = .nilIface from rfl] at HF
  clear hb1 hs
  go_wp2_with fail
  refine HF.out.mono ?_
  rintro e w2 ⟨v, rfl, hY, _, hb2⟩
  obtain ⟨B, rfl, hB⟩ := hY trivial
  replace HB := hideIt (belJ HB.out hb2)
  clear HF hY hb2
  go_wp2_with fail
  refine (skews_any w2).mono ?_
  rintro e w3 ⟨a1, ca1, b1, cb1, rfl, hs, hb3⟩
  have HL := hideIt (level_any skS a1 b1 ca1 cb1 w3 hs)
  unfold LevTold at HL
  rw [sk_flt, if_pos rfl, sk_lvl, show toldV 0 = .nilIface from rfl] at HL
  replace hB := hB.below hb3 hB.lt
  replace HB := hideIt (belJ HB.out hb3)
  clear hb3 hs
  go_wp2_with fail
  refine HL.out.mono ?_
  rintro e w4 ⟨rfl, hb4⟩
  replace hB := hB.below hb4 hB.lt
  replace HB := hideIt (belJ HB.out hb4)
  have c3 := hB.bit 3 (by omega)
  have c4 := hB.bit 4 (by omega)
  have c5 := hB.bit 5 (by omega)
  rw [sk_round] at c3
  rw [sk_single] at c4
  rw [sk_any] at c5
  clear HL hb4 hB
  go_wp2
  go_ret
  exact ⟨rfl, HB.out⟩
end Go.Proofs.Ytodanhjookgbeaa
