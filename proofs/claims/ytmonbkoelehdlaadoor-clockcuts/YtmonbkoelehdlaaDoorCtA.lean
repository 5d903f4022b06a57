/-
  Package clock's paths: cuts, walked.
-/
import Derived.Test.YtmonbkoelehdlaaDoorCuQ
import Derived.Laws.EntriesVeiled
namespace Go.Proofs.YtmonbkoelehdlaaDoor
open Go.RowKit

theorem idx78 (A : Nat → Option Addr) (M C : Nat → Nat) (w : World) : ∀ q : Nat, q < 8 → (Instr.index 78 (pthA (slV A M C)) (.int .i64 (q : Int))).run Tryd.prog w = .ok (.slice (A q) (M q) (C q)) w :=
  all8 (by kernel_rfl) (by kernel_rfl) (by kernel_rfl) (by kernel_rfl) (by kernel_rfl) (by kernel_rfl) (by kernel_rfl) (by kernel_rfl)

set_option maxRecDepth 100000 in
set_option maxHeartbeats 1000000 in
theorem cuts_any (l : List Stp) (A : Nat → Option Addr) (M C : Nat → Nat) (w : World) (h40 : l.length ≤ 40) (hM : ∀ p, p < 8 → M p = allC l (p : Int) + 1) :
    Calls Tryd.prog 39 #[pthA (slV A M C)] w fun e w' => e = .returned (.int .i64 (prodK l 8 : Nat)) ∧ Below w.heap.size w w' := by
  have hix := idx78 A M C
  have HP : Hid (∀ k, k < 8 → wrap64 ((prodK l k : Int) * (M k : Int)) = (prodK l (k + 1) : Nat)) := fun k hk => by
    have h1 := prodK_big h40 (k := k + 1) (by omega)
    have h2 : (prodK l k : Int) * (M k : Int) = (prodK l (k + 1) : Nat) := by rw [prodK_succ, hM k hk]; simp
    rw [h2]
    unfold wrap64
    omega
  have HB0 : Hid (Below w.heap.size w (w.alloc (.cells #[.slice (A 0) (M 0) (C 0), .slice (A 1) (M 1) (C 1), .slice (A 2) (M 2) (C 2), .slice (A 3) (M 3) (C 3), .slice (A 4) (M 4) (C 4), .slice (A 5) (M 5) (C 5), .slice (A 6) (M 6) (C 6), .slice (A 7) (M 7) (C 7)] 78))) := belA (Below.refl _ _) _
  clear hM
  unfold pthA slV at *
  go_enter Tryd.func39, Tryd.ntmps39
  go_wp2
  generalize w.alloc _ = W at HB0 ⊢
  go_loopw [3, 7] (fun x i wr => ∃ k : Nat, k ≤ 8 ∧ x = .int .i64 (prodK l k : Nat) ∧ i = .int .i64 k ∧ wr = W) (fun _ i _ => 8 - (intOf i).toNat)
  case atStart => exact ⟨0, by omega, rfl, rfl, rfl⟩
  case round =>
    obtain ⟨k, hk, rfl, rfl, rfl⟩ := hrel
    by_cases hk8 : k < 8
    · have hi := hix wr k hk8
      have hk8' : (k : Int) < 8 := by omega
      have HPk := hideIt (HP.out k hk8)
      clear hix
      go_wp2
      go_roundw
      case rel =>
        exact ⟨k + 1, by omega, by rw [HPk.out], by go_num, trivial⟩
      case measure => simp [intOf]; omega
    · obtain rfl : k = 8 := by omega
      clear hix
      go_wp2
      go_ret
      exact ⟨rfl, HB0.out⟩
end Go.Proofs.YtmonbkoelehdlaaDoor
