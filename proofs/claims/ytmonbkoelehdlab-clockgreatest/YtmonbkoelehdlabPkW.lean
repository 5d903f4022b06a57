/-
  The statements' own pick, walked.
-/
import Derived.Test.YtmonbkoelehdlabSnW
namespace Go.Proofs.Ytmonbkoelehdlab
open Go.RowKit

def pickN (a : Int) (n : Nat) : Nat := (IntKind.u64.wrap a).toNat % n
set_option maxHeartbeats 1000000 in
theorem pick_is (a : Int) (n : Nat) (w : World) (h0 : 0 < n) (hn : n ≤ 1000000) : Calls Try.prog 14 #[.int .i64 a, .int .i64 n] w fun e w' => e = .returned (.int .i64 (pickN a n)) ∧ w' = w := by
  have e1 : IntKind.u64.wrap (n : Int) = (n : Int) := by rw [IntKind.wrap_u64]; omega
  have h64 : 0 ≤ IntKind.u64.wrap a := by rw [IntKind.wrap_u64]; omega
  obtain ⟨m, hm⟩ : ∃ m : Nat, IntKind.u64.wrap a = m := ⟨(IntKind.u64.wrap a).toNat, by omega⟩
  have HPN : Hid (pickN a n = m % n) := hideIt (by unfold pickN; rw [hm, Int.toNat_natCast])
  have hne : (n : Int) ≠ 0 := by omega
  have hne' : ((n : Int) == 0) = false := by simp; omega
  have HM : Hid (wrap64 ((m : Int) % (n : Int)) = ((m % n : Nat) : Int)) := hideIt (by
    have h2 : m % n < n := Nat.mod_lt _ h0
    have h3 : (m : Int) % (n : Int) = ((m % n : Nat) : Int) := by simp
    rw [h3]
    unfold wrap64
    omega)
  go_enter Try.func14, Try.ntmps14
  go_wp2
  go_ret
  exact ⟨ret_int (by rw [HPN.out]; exact HM.out), rfl⟩
theorem pick_any (a : Int) (n : Nat) (w : World) (h0 : 0 < n) (hn : n ≤ 1000000) : Calls Try.prog 14 #[.int .i64 a, .int .i64 n] w fun e w' => ∃ k : Nat, k < n ∧ e = .returned (.int .i64 k) ∧ w' = w :=
  (pick_is a n w h0 hn).mono fun _ _ ⟨he, hw⟩ => ⟨_, Nat.mod_lt _ h0, he, hw⟩

theorem pick_plus (x : Int) (m : Nat) (hm : m ≤ 1000) (w : World) : Calls Try.prog 14 #[.int .i64 x, .int .i64 ((m : Int) + 1)] w fun e w' => ∃ r : Nat, r ≤ m ∧ e = .returned (.int .i64 (r : Int)) ∧ w' = w := by
  have := pick_any x (m + 1) w (by omega) (by omega)
  rw [show ((m + 1 : Nat) : Int) = (m : Int) + 1 by omega] at this
  exact this.mono fun e w' ⟨k, hk, he, hw⟩ => ⟨k, by omega, he, hw⟩
end Go.Proofs.Ytmonbkoelehdlab
