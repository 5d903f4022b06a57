/-
  CRC-32 of the program, walked.
-/
import Derived.Test.YtdncnljcihblbaaDoorByM
import Derived.Laws.BitsAllLaws
import Derived.Laws.Bits64b
namespace Go.Proofs.YtdncnljcihblbaaDoor
open Go.RowKit

theorem bit_step {c : Nat} (h : c < 4294967296) : bits .xor .u32 ((c : Int) / 2) (bits .and .u32 (c : Int) 1 * 3988292384 % 4294967296) = ((bitC c : Nat) : Int) := by
  have e1 : bits .and .u32 (c : Int) 1 = ((c % 2 : Nat) : Int) := by
    have := u32_and_nat c 1 h (by decide)
    rw [nat_mask1] at this; exact this
  have e2 : ((c % 2 : Nat) : Int) * 3988292384 % 4294967296 = ((c % 2 * 3988292384 : Nat) : Int) := by omega
  have e3 : (c : Int) / 2 = ((c / 2 : Nat) : Int) := by omega
  rw [e1, e2, e3, u32_xor_nat (c / 2) (c % 2 * 3988292384) (by omega) (by omega)]
  rfl
theorem not_nat (n c : Nat) (h : c < 2 ^ n) : (2 ^ n - 1) ^^^ c = 2 ^ n - 1 - c := by
  apply Nat.eq_of_testBit_eq
  intro i
  rw [Nat.testBit_xor, Nat.testBit_two_pow_sub_one, show 2 ^ n - 1 - c = 2 ^ n - (c + 1) by omega, Nat.testBit_two_pow_sub_succ h]
  by_cases hi : i < n
  · simp [hi]
  · have : c.testBit i = false := Nat.testBit_lt_two_pow (Nat.lt_of_lt_of_le h (Nat.pow_le_pow_right (by decide) (by omega)))
    simp [hi, this]
theorem not_step {c : Nat} (h : c < 4294967296) : bits .xor .u32 IntKind.u32.max (c : Int) = ((4294967295 - c : Nat) : Int) := by
  have := u32_xor_nat 4294967295 c (by decide) h
  rw [show (4294967295 : Nat) ^^^ c = 4294967295 - c from not_nat 32 c h] at this
  exact this
theorem val_int {k : IntKind} {a b : Int} (h : a = b) : Value.int k a = Value.int k b := by rw [h]
theorem xor_byte {c x : Nat} (h : c < 4294967296) (hx : x < 256) : bits .xor .u32 (c : Int) (x : Int) = ((c ^^^ x : Nat) : Int) := u32_xor_nat c x h (by omega)

set_option maxHeartbeats 400000 in
theorem crc_any (v : Value) (l : List Nat) (w : World) (hq : ByQ w v l) (hl : l.length ≤ 100000) :
    Calls Tryd.prog 26 #[v] w fun e w' => e = .returned (.int .u32 (crcL l : Nat)) ∧ w' = w := by
  obtain ⟨hB, ⟨rfl, a0, c0, rfl, _⟩ | ⟨b, o, c, rfl, hc, hb, hA⟩⟩ := hq
  · go_enter Tryd.func26, Tryd.ntmps26
    go_wp2
    go_loop [3, 9] (fun r i => i = .int .i64 0 ∧ r = .int .u32 4294967295) (fun _ _ => 0)
    case atStart => exact ⟨rfl, rfl⟩
    case round =>
      obtain ⟨rfl, rfl⟩ := hrel
      go_wp2
      go_ret
      exact ⟨ret_int (by rfl), rfl⟩
  · have HA := hideIt hA
    clear hA
    go_enter Tryd.func26, Tryd.ntmps26
    go_wp2
    go_loop [3, 9] (fun r i => ∃ k : Nat, k ≤ l.length ∧ i = .int .i64 k ∧ r = .int .u32 (restC (l.take k) : Nat)) (fun _ i => l.length - (intOf i).toNat)
    case atStart => exact ⟨0, Nat.zero_le _, rfl, rfl⟩
    case round =>
      obtain ⟨k, hk, rfl, rfl⟩ := hrel
      have h32 := restC_lt (hB.take k)
      by_cases hlt : k < l.length
      · have hcell := HA.out k hlt
        have hx := hB.at hlt
        have hsn : restC (l.take (k + 1)) = byteC (restC (l.take k)) l[k] := by rw [List.take_succ_eq_append_getElem hlt, restC_snoc]
        have HS := hideIt hsn
        clear hsn
        go_wp2
        go_loop [3, 17] (fun r i => ∃ j : Nat, j ≤ 8 ∧ i = .int .i64 j ∧ r = .int .u32 (bitsC j (restC (l.take k) ^^^ l[k]) : Nat)) (fun _ i => 8 - (intOf i).toNat)
        case atStart => exact ⟨0, Nat.zero_le _, rfl, val_int (xor_byte h32 hx)⟩
        case round =>
          obtain ⟨j, hj, rfl, rfl⟩ := hrel
          have h33 := bitsC_lt j (xor_lt32 h32 hx)
          by_cases hjt : j < 8
          · go_wp2
            go_round
            case rel => 
              refine ⟨j + 1, by omega, by go_num, ?_⟩
              rw [bitsC_snoc]
              exact val_int (bit_step h33)
            case measure => simp [intOf]; omega
          · have hj8 : j = 8 := by omega
            go_wp2
            go_round
            case rel => exact ⟨k + 1, by omega, by go_num, by rw [HS.out, hj8]; rfl⟩
            case measure => simp [intOf]; omega
      · go_wp2
        go_ret
        refine ⟨ret_int (not_step h32 |>.trans ?_), rfl⟩
        rw [List.take_of_length_le (by omega)]; rfl

end Go.Proofs.YtdncnljcihblbaaDoor
