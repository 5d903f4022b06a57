/-
  Package linear's bits, walked.
-/
import Derived.Test.YtfojmbbhcmeejaaDoorProg
import Derived.Test.YtfojmbbhcmeejaaDoorPlainNZ
import Derived.Laws.BitsAllLaws
import Derived.Laws.Bits64b
import Derived.Test.YtfojmbbhcmeejaaDoorRunB
namespace Go.Proofs.YtfojmbbhcmeejaaDoor
open Go.RowKit

theorem pow_lt64 {n : Nat} (h : n < 64) : 2 ^ n < 18446744073709551616 := by
  have : 2 ^ n < 2 ^ 64 := Nat.pow_lt_pow_right (by decide) h
  exact this
theorem shl_one {n : Nat} (h : n < 64) : IntKind.u64.wrap ((2 : Int) ^ n) = ((2 ^ n : Nat) : Int) := by
  have h1 := pow_lt64 h
  have e : (2 : Int) ^ n = ((2 ^ n : Nat) : Int) := (Int.natCast_pow 2 n).symm
  rw [e, IntKind.wrap_u64]
  generalize 2 ^ n = p at h1
  omega
theorem ret_int {k : IntKind} {a b : Int} (h : a = b) : Ending.returned (.int k a) = .returned (.int k b) := by rw [h]
theorem ret_bool {a b : Bool} (h : a = b) : Ending.returned (.bool a) = .returned (.bool b) := by rw [h]

set_option maxHeartbeats 400000 in
theorem bit_any (n : Nat) (w : World) (hn : n < 64) : Calls Tryd.prog 81 #[.int .i64 n] w fun e w' => e = .returned (.int .u64 (2 ^ n : Nat)) ∧ w' = w := by
  have h1 : (0 : Int) ≤ (n : Int) := by omega
  have h2 : (n : Int) ≤ 64 := by omega
  go_enter Tryd.func81, Tryd.ntmps81
  go_wp2
  go_ret
  exact ⟨ret_int (shl_one hn), rfl⟩

theorem has_bits {m n : Nat} (hm : m < 18446744073709551616) (hn : n < 64) : (bits .and .u64 (m : Int) ((2 ^ n : Nat) : Int) != 0) = m.testBit n := by
  rw [bits_and_u64_nat m (2 ^ n) hm (pow_lt64 hn), Bool.eq_iff_iff, bne_iff_ne]
  have key : m &&& 2 ^ n = 0 ↔ m.testBit n = false := by
    constructor
    · intro h
      have := congrArg (fun q : Nat => q.testBit n) h
      simpa [Nat.testBit_and, Nat.testBit_two_pow] using this
    · intro h
      apply Nat.eq_of_testBit_eq
      intro i
      rw [Nat.testBit_and, Nat.testBit_two_pow, Nat.zero_testBit]
      by_cases e : n = i
      · subst e; rw [h]; rfl
      · simp [e]
  constructor
  · intro h
    cases hb : m.testBit n with
    | true => rfl
    | false => exact absurd (by rw [key.2 hb]; rfl) h
  · intro h e
    have : m &&& 2 ^ n = 0 := by exact_mod_cast e
    rw [key.1 this] at h
    cases h

set_option maxHeartbeats 400000 in
theorem has_any (m n : Nat) (w : World) (hm : m < 18446744073709551616) (hn : n < 64) : Calls Tryd.prog 95 #[.int .u64 m, .int .i64 n] w fun e w' => e = .returned (.bool (m.testBit n)) ∧ w' = w := by
  have HB := hideIt (has_bits hm hn)
  obtain ⟨p, hp⟩ : ∃ p : Nat, p = 2 ^ n := ⟨_, rfl⟩
  rw [← hp] at HB
  have HC : Hid (Calls Tryd.prog 81 #[.int .i64 n] w fun e w' => e = .returned (.int .u64 (p : Nat)) ∧ w' = w) := by rw [hp]; exact bit_any n w hn
  clear hp
  go_enter Tryd.func95, Tryd.ntmps95
  go_wp2_with (go_at_call 81; refine HC.out.mono ?_; rintro e w' ⟨rfl, rfl⟩)
  go_ret
  exact ⟨ret_bool HB.out, rfl⟩

theorem covers_bits {m p : Nat} (hm : m < 18446744073709551616) (hp : p < 18446744073709551616) : (bits .andNot .u64 (p : Int) (m : Int) == 0) = coversN m p := by
  rw [u64_andNot_nat p m hp hm]
  unfold coversN
  rw [Bool.eq_iff_iff, beq_iff_eq, beq_iff_eq]
  exact ⟨fun h => by exact_mod_cast h, fun h => by exact_mod_cast h⟩

set_option maxHeartbeats 400000 in
theorem covers_any (m p : Nat) (w : World) (hm : m < 18446744073709551616) (hp : p < 18446744073709551616) : Calls Tryd.prog 83 #[.int .u64 m, .int .u64 p] w fun e w' => e = .returned (.bool (coversN m p)) ∧ w' = w := by
  have HB := hideIt (covers_bits hm hp)
  clear hm hp
  go_enter Tryd.func83, Tryd.ntmps83
  go_wp2
  go_ret
  exact ⟨ret_bool HB.out, rfl⟩

end Go.Proofs.YtfojmbbhcmeejaaDoor
