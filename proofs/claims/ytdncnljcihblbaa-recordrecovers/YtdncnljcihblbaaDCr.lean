/-
  CRC-32 of the document, walked.
-/
import Derived.Test.YtdncnljcihblbaaCrW
namespace Go.Proofs.Ytdncnljcihblbaa
open Go.RowKit

theorem and_odd {c : Nat} (h : c < 4294967296) (hp : c % 2 = 1) : bits .and .u32 (c : Int) 1 = 1 := by
  have := u32_and_nat c 1 h (by decide)
  rw [nat_mask1, hp] at this; exact this
theorem and_even {c : Nat} (h : c < 4294967296) (hp : ¬ c % 2 = 1) : bits .and .u32 (c : Int) 1 = 0 := by
  have := u32_and_nat c 1 h (by decide)
  rw [nat_mask1, show c % 2 = 0 by omega] at this; exact this
theorem odd_step {c : Nat} (h : c < 4294967296) (hp : c % 2 = 1) : bits .xor .u32 ((c : Int) / 2) 3988292384 = ((bitC c : Nat) : Int) := by
  have := u32_xor_nat (c / 2) 3988292384 (by omega) (by decide)
  rw [show ((c / 2 : Nat) : Int) = (c : Int) / 2 by omega] at this
  refine this.trans ?_
  unfold bitC; rw [hp, Nat.one_mul]
theorem even_step {c : Nat} (hp : ¬ c % 2 = 1) : (c : Int) / 2 = ((bitC c : Nat) : Int) := by
  unfold bitC; rw [show c % 2 = 0 by omega, Nat.zero_mul, Nat.xor_zero]; omega

set_option maxHeartbeats 400000 in
theorem refCrc_any (v : Value) (l : List Nat) (w : World) (hq : ByQ w v l) (hl : l.length ≤ 100000) :
    Calls Try.prog 25 #[v] w fun e w' => e = .returned (.int .u32 (crcL l : Nat)) ∧ w' = w := by
  obtain ⟨hB, ⟨rfl, a0, c0, rfl, _⟩ | ⟨b, o, c, rfl, hc, hb, hA⟩⟩ := hq
  · go_enter Try.func25, Try.ntmps25
    go_wp2
    go_loop [3, 9] (fun r i => i = .int .i64 0 ∧ r = .int .u32 4294967295) (fun _ _ => 0)
    case atStart => exact ⟨rfl, rfl⟩
    case round =>
      obtain ⟨rfl, rfl⟩ := hrel
      go_wp2
      go_ret
      exact ⟨ret_int (by rfl), rfl⟩
  · have HA := hideIt hA
    clear hA
    go_enter Try.func25, Try.ntmps25
    go_wp2
    go_loop [3, 9] (fun r i => ∃ k : Nat, k ≤ l.length ∧ i = .int .i64 k ∧ r = .int .u32 (restC (l.take k) : Nat)) (fun _ i => l.length - (intOf i).toNat)
    case atStart => exact ⟨0, Nat.zero_le _, rfl, rfl⟩
    case round =>
      obtain ⟨k, hk, rfl, rfl⟩ := hrel
      have h32 := restC_lt (hB.take k)
      by_cases hlt : k < l.length
      · have hcell := HA.out k hlt
        have hx := hB.at hlt
        have hsn : restC (l.take (k + 1)) = byteC (restC (l.take k)) l[k] := by rw [List.take_succ_eq_append_getElem hlt, restC_snoc]
        have HS := hideIt hsn
        clear hsn
        go_wp2
        go_loop [3, 17] (fun r i => ∃ j : Nat, j ≤ 8 ∧ i = .int .i64 j ∧ r = .int .u32 (bitsC j (restC (l.take k) ^^^ l[k]) : Nat)) (fun _ i => 8 - (intOf i).toNat)
        case atStart => exact ⟨0, Nat.zero_le _, rfl, val_int (xor_byte h32 hx)⟩
        case round =>
          obtain ⟨j, hj, rfl, rfl⟩ := hrel
          have h33 := bitsC_lt j (xor_lt32 h32 hx)
          by_cases hjt : j < 8
          · have HBS := hideIt (bitsC_snoc j (restC (l.take k) ^^^ l[k]))
            generalize hcc : bitsC j (restC (l.take k) ^^^ l[k]) = cc at *
            clear hcc
            by_cases hp : cc % 2 = 1
            · have ha := and_odd h33 hp
              have HX := hideIt (odd_step h33 hp)
              go_wp2
              go_round
              case rel => exact ⟨j + 1, by omega, by go_num, by rw [HBS.out]; exact val_int HX.out⟩
              case measure => simp [intOf]; omega
            · have ha := and_even h33 hp
              have HX := hideIt (even_step hp)
              go_wp2
              go_round
              case rel => exact ⟨j + 1, by omega, by go_num, by rw [HBS.out]; exact val_int HX.out⟩
              case measure => simp [intOf]; omega
          · have hj8 : j = 8 := by omega
            go_wp2
            go_round
            case rel => exact ⟨k + 1, by omega, by go_num, by rw [HS.out, hj8]; rfl⟩
            case measure => simp [intOf]; omega
      · go_wp2
        go_ret
        refine ⟨ret_int (not_step h32 |>.trans ?_), rfl⟩
        rw [List.take_of_length_le (by omega)]; rfl

end Go.Proofs.Ytdncnljcihblbaa
