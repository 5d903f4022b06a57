/-
  Chapter 15.1, walked: Value of a Count.
-/
import Derived.Test.YthphoiadhddggaaDoorCtX
namespace Go.Proofs.YthphoiadhddggaaDoor
open Go.RowKit

/-- All Ups less all Downs, of the first k places. -/
def valK (c : Nat → Int) : Nat → Int
  | 0 => 0
  | k + 1 => wrap64 (valK c k + wrap64 (c k - c (7 + k)))

set_option maxRecDepth 100000 in
set_option maxHeartbeats 4000000 in
theorem value_any (c : Nat → Int) (w : World) : Calls Tryd.prog 8 #[nA 14 c] w fun e w' => e = .returned (.int .i64 (valK c 7)) ∧ Below w.heap.size w w' := by
  unfold nA
  have HV0 : Hid (NumB (w.alloc (.cells (nL 14 c).toArray 25)) w.heap.size 14 c) := numB_new w 14 c 25
  have HB : Hid (Below w.heap.size w (w.alloc (.cells (nL 14 c).toArray 25))) := belA (Below.refl _ _) _
  go_enter Tryd.func8, Tryd.ntmps8
  go_wp2
  generalize w.alloc _ = W at HV0 HB ⊢
  go_loopw [5, 3] (fun v x wr => ∃ k : Nat, k ≤ 7 ∧ v = .int .i64 k ∧ x = .int .i64 (valK c k) ∧ NumB wr w.heap.size 14 c ∧ Below w.heap.size w wr) (fun v _ _ => 7 - (intOf v).toNat)
  case atStart => exact ⟨0, by omega, rfl, rfl, HV0.out, HB.out⟩
  case round =>
    clear HV0 HB
    obtain ⟨k, hk, rfl, rfl, hv0, hb⟩ := hrel
    have HV0 := hideIt hv0
    have HB := hideIt hb
    clear hv0 hb
    by_cases hk7 : k < 7
    · have hk7' : (k : Int) < 7 := by omega
      have c1 := HV0.out.at (i := k) (by omega)
      have c2 := HV0.out.at (i := 7 + k) (by omega)
      have HN : Hid (valK c (k + 1) = wrap64 (valK c k + wrap64 (c k - c (7 + k)))) := rfl
      generalize valK c k = y at *
      go_upto_region 5 with fail
      go_region
      have HVd := hideIt HV0.out.drew
      have HBd := hideIt HB.out.drew
      generalize wr.drew = W2 at HVd HBd ⊢
      go_wp2
      go_roundw
      case rel => exact ⟨k + 1, by omega, by go_num, by rw [HN.out], HVd.out, HBd.out⟩
      case measure => simp [intOf]; omega
    · have hk7' : ¬ (k : Int) < 7 := by omega
      have HE : Hid (valK c k = valK c 7) := by show _ = _; rw [show k = 7 by omega]
      go_wp2
      go_ret
      exact ⟨ret_int HE.out, HB.out⟩

end Go.Proofs.YthphoiadhddggaaDoor
