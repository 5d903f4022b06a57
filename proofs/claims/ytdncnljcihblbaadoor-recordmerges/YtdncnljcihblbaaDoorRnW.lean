/-
  A number read: the program's way, walked.
-/
import Derived.Test.YtdncnljcihblbaaDoorEnW
import Derived.Deep.RegionWith
namespace Go.Proofs.YtdncnljcihblbaaDoor
open Go.RowKit

theorem shl_seven (x k : Nat) : Op.shift .shl .u64 ((x : Int) % 128) .u64 (7 * (k : Int)) = pure (.int .u64 ((x % 128 * 2 ^ (7 * k) % 18446744073709551616 : Nat) : Int)) := by
  unfold Op.shift
  rw [if_neg (by omega)]
  have e1 : (7 * (k : Int)).toNat = 7 * k := by omega
  show (pure (.int .u64 (IntKind.u64.wrap ((x : Int) % 128 * 2 ^ (min (7 * (k : Int)).toNat 64)))) : Sem Value) = _
  rw [e1]
  congr 2
  rw [IntKind.wrap_u64]
  have e2 : ((x : Int) % 128 * 2 ^ min (7 * k) 64) = ((x % 128 * 2 ^ min (7 * k) 64 : Nat) : Int) := by simp
  rw [e2, show (18446744073709551616 : Int) = ((18446744073709551616 : Nat) : Int) from rfl, ← Int.natCast_emod]
  congr 1
  by_cases h : 7 * k ≤ 64
  · rw [Nat.min_eq_left h]
  · rw [Nat.min_eq_right (by omega)]
    have e3 : 2 ^ (7 * k) = 2 ^ 64 * 2 ^ (7 * k - 64) := by rw [← Nat.pow_add]; congr 1; omega
    rw [e3, ← Nat.mul_assoc, Nat.mul_right_comm]
    rw [show (18446744073709551616 : Nat) = 2 ^ 64 from rfl, Nat.mul_mod_left, Nat.mul_mod_left]

theorem xor_zero64 (x : Nat) (h : x < 9223372036854775808) : bits .xor .i64 (x : Int) 0 = (x : Int) := by
  show IntKind.i64.wrap (((BitVec.ofInt 64 (x : Int) ^^^ BitVec.ofInt 64 0).toNat : Nat) : Int) = _
  rw [BitVec.toNat_xor, ofInt_u64 x (by omega), show (BitVec.ofInt 64 0).toNat = 0 from rfl, Nat.xor_zero]
  simp only [IntKind.wrap, IntKind.bits, IntKind.signed]
  simp
  omega
theorem xor_ones64 (x : Nat) (h : x < 9223372036854775808) : bits .xor .i64 (x : Int) (-1) = -(x : Int) - 1 := by
  show IntKind.i64.wrap (((BitVec.ofInt 64 (x : Int) ^^^ BitVec.ofInt 64 (-1)).toNat : Nat) : Int) = _
  rw [BitVec.toNat_xor, ofInt_u64 x (by omega), show (BitVec.ofInt 64 (-1)).toNat = 18446744073709551615 from rfl, Nat.xor_comm]
  rw [show (18446744073709551615 : Nat) ^^^ x = 18446744073709551615 - x from not_nat 64 x (by omega)]
  simp only [IntKind.wrap, IntKind.bits, IntKind.signed]
  simp
  omega
theorem unz_val {u : Nat} (h : u < 18446744073709551616) : bits .xor .i64 ((u : Int) / 2) (wrap64 (-wrap64 (bits .and .u64 (u : Int) 1))) = unzN u := by
  have e1 : bits .and .u64 (u : Int) 1 = ((u % 2 : Nat) : Int) := by
    have := u64_and_nat u 1 h (by decide)
    rw [nat_mask1] at this; exact this
  have e3 : (u : Int) / 2 = ((u / 2 : Nat) : Int) := by omega
  rw [e1, e3]
  unfold unzN
  have h2 : u % 2 = 0 ∨ u % 2 = 1 := by omega
  rcases h2 with h2 | h2
  · rw [h2, if_pos rfl]
    rw [show wrap64 (-wrap64 ((0 : Nat) : Int)) = 0 from by unfold wrap64; omega]
    exact xor_zero64 (u / 2) (by omega)
  · rw [h2, if_neg (by decide)]
    rw [show wrap64 (-wrap64 ((1 : Nat) : Int)) = -1 from by unfold wrap64; omega]
    exact xor_ones64 (u / 2) (by omega)

/-- A slice of bytes of a block. -/
def ByB (w : World) (b : Nat) (v : Value) (l : List Nat) : Prop := Byt l ∧ ∃ o c, v = .slice (some ⟨b, o, none⟩) l.length c ∧ l.length ≤ c ∧ BysAt w b o l
theorem ByB.below {w w' : World} {B b : Nat} {v : Value} {l : List Nat} (h : ByB w b v l) (hb : b < B) (hn : Below B w w') : ByB w' b v l := by
  obtain ⟨h1, o, c, h2, h3, h4⟩ := h
  exact ⟨h1, o, c, h2, h3, h4.below hb hn⟩
theorem ByB.back {w w' : World} {B b : Nat} {v : Value} {l : List Nat} (h : ByB w' b v l) (hb : b < B) (hn : Below B w w') : ByB w b v l := by
  obtain ⟨h1, o, c, h2, h3, h4⟩ := h
  exact ⟨h1, o, c, h2, h3, fun i hi => (hn.cell (p := ⟨b, o + i, none⟩) hb).symm.trans (h4 i hi)⟩
/-- What readNumber tells. -/
def RdTold (w : World) (b : Nat) (l : List Nat) (e : Ending) : Prop :=
  (rdN 0 0 l = none ∧ e = .returned (.tuple #[.int .i64 0, .slice none 0 0, .bool false])) ∨ ∃ u rest v', rdN 0 0 l = some (u, rest) ∧ e = .returned (.tuple #[.int .i64 (unzN u), v', .bool true]) ∧ ByB w b v' rest

set_option maxHeartbeats 1000000 in
set_option maxRecDepth 100000 in
theorem readNumber_any (b : Nat) (v : Value) (l : List Nat) (w : World) (hq : ByB w b v l) (hl : l.length ≤ 100000) :
    Calls Tryd.prog 40 #[v] w fun e w' => (∃ n, w' = w.drewN n) ∧ RdTold w b l e := by
  obtain ⟨hB, o, c, rfl, hc, hA⟩ := hq
  have HA := hideIt hA
  clear hA
  go_enter Tryd.func40, Tryd.ntmps40
  go_wp2
  go_loop [5, 10] (fun r i => ∃ k u : Nat, k ≤ l.length ∧ i = .int .i64 k ∧ r = .int .u64 (u : Nat) ∧ u < 18446744073709551616 ∧ rdN 0 0 l = rdN k u (l.drop k)) (fun _ i => l.length - (intOf i).toNat)
  case atStart => exact ⟨0, 0, Nat.zero_le _, rfl, rfl, by decide, rfl⟩
  case round =>
    obtain ⟨k, u, hk, rfl, rfl, hu, hrd⟩ := hrel
    have HR := hideIt hrd
    clear hrd
    by_cases hlt : k < l.length
    · have hcell := HA.out k hlt
      have hx := hB.at hlt
      have hsh := shl_seven l[k] k
      have hdr : l.drop k = l[k] :: l.drop (k + 1) := List.drop_eq_getElem_cons hlt
      have HD : Hid (rdN 0 0 l = if l[k] < 128 then some (u ||| (l[k] % 128 * 2 ^ (7 * k) % 18446744073709551616), l.drop (k + 1)) else rdN (k + 1) (u ||| (l[k] % 128 * 2 ^ (7 * k) % 18446744073709551616)) (l.drop (k + 1))) := by
        show rdN 0 0 l = _
        rw [HR.out, hdr, rdN]
      clear hdr
      have hs64 : l[k] % 128 * 2 ^ (7 * k) % 18446744073709551616 < 18446744073709551616 := Nat.mod_lt _ (by decide)
      generalize l[k] % 128 * 2 ^ (7 * k) % 18446744073709551616 = s at *
      have ho := u64_or_nat u s hu hs64
      have hu2 : u ||| s < 18446744073709551616 := Nat.or_lt_two_pow (n := 64) hu hs64
      generalize u ||| s = u2 at *
      by_cases h8 : l[k] < 128
      · rw [if_pos h8] at HD
        go_wp2_with fail
        go_quiet (fail)
        generalize hP : (if c = k + 1 then some (⟨b, o, none⟩ : Addr) else some ⟨b, o + (k + 1), none⟩) = ad
        have HP := hideIt hP
        clear hP
        go_wp2
        have HU := hideIt (unz_val hu2)
        refine bodyPost_ret (v := .tuple #[.int .i64 (bits .xor .i64 ((u2 : Int) / 2) (wrap64 (-wrap64 (bits .and .u64 (u2 : Int) 1)))), .slice ad (l.length - (k + 1)) (c - (k + 1)), .bool true]) (by simp [results, Tryd.results40, go_sem]) rfl ⟨⟨_, rfl⟩, Or.inr ⟨u2, l.drop (k + 1), _, HD.out, by rw [HU.out], hB.drop _, ?_⟩⟩
        rw [← HP.out]
        split
        · rename_i hck
          have e : l.length = k + 1 := by omega
          refine ⟨o, c - (k + 1), by simp, by simp; omega, fun i hi => ?_⟩
          simp at hi; omega
        · exact ⟨o + (k + 1), c - (k + 1), by simp, by simp; omega, HA.out.drop (k + 1)⟩
      · rw [if_neg h8] at HD
        go_wp2
        go_round
        case rel => exact ⟨k + 1, u2, by omega, by go_num, rfl, hu2, HD.out⟩
        case measure => simp [intOf]; omega
    · have hd : l.drop k = [] := List.drop_eq_nil_of_le (by omega)
      rw [hd] at HR
      go_wp2
      exact bodyPost_ret (v := .tuple #[.int .i64 0, .slice none 0 0, .bool false]) (by simp [results, Tryd.results40, go_sem]) rfl ⟨⟨0, rfl⟩, Or.inl ⟨HR.out, rfl⟩⟩

end Go.Proofs.YtdncnljcihblbaaDoor
