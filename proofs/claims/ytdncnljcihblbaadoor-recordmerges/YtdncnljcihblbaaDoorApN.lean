/-
  A number written behind bytes: the program's way, walked.
-/
import Derived.Test.YtdncnljcihblbaaDoorCrW
namespace Go.Proofs.YtdncnljcihblbaaDoor
open Go.RowKit

theorem info_parts' {t : TypeId} {z : Value} {s b : Nat} (h : (Tryd.prog.info? t).map (fun i => (i.zero, i.size, i.bytes)) = some (some z, s, b)) : ∃ i, Tryd.prog.info? t = some i ∧ i.zero = some z ∧ i.size = s ∧ i.bytes = b := by
  cases hi : Tryd.prog.info? t with
  | none => simp [hi] at h
  | some i => simp [hi] at h; exact ⟨i, rfl, h.1, h.2.1, h.2.2⟩

set_option maxRecDepth 20000 in
theorem or_128 {x : Nat} (h : x < 256) : bits .or .u8 (x : Int) 128 = ((x % 128 + 128 : Nat) : Int) := by
  have h1 := u8_or_nat x 128 h (by decide)
  have h2 : x ||| 128 = x % 128 + 128 := by
    have : ∀ y : Fin 256, y.val ||| 128 = y.val % 128 + 128 := by decide
    exact this ⟨x, h⟩
  rw [h2] at h1
  exact h1

theorem or_128y (y : Nat) : bits .or .u8 ((y : Int) % 256) 128 = (y : Int) % 128 + 128 := by
  have h := or_128 (x := y % 256) (by omega)
  rw [show ((y % 256 : Nat) : Int) = (y : Int) % 256 by omega] at h
  rw [h]; omega

set_option maxHeartbeats 1000000 in
set_option maxRecDepth 100000 in
theorem appendNumber_any (v : Value) (base : Nat) (l : List Nat) (n : Int) (w : World) (hown : w.ownsRow base 5 1 v l.length (byCs l)) (hbase : base ≤ w.heap.size) (hn : -1000000 ≤ n ∧ n ≤ 1000000) (hl : l.length ≤ 1000) :
    Calls Tryd.prog 24 #[v, .int .i64 n] w fun e w' => ∃ v', e = .returned v' ∧ w'.ownsRow base 5 1 v' (l ++ varL (zzN n)).length (byCs (l ++ varL (zzN n))) ∧ Below base w w' := by
  obtain ⟨i0, hi, hz0, hz1, hz2⟩ := info_parts' infoB
  have HO := hideIt hown
  clear hown
  have HZ : (if n < 0 then bits BinOp.xor IntKind.u64 IntKind.u64.max (IntKind.u64.wrap (IntKind.u64.wrap n * 2)) = ((zzN n : Nat) : Int) else n * 2 = ((zzN n : Nat) : Int)) := by
    split
    · rename_i h
      have e1 : IntKind.u64.wrap (IntKind.u64.wrap n * 2) = ((18446744073709551616 - zzN n - 1 : Nat) : Int) := by
        rw [IntKind.wrap_u64, IntKind.wrap_u64]; unfold zzN; rw [if_pos h]; omega
      have hz : zzN n < 2097152 := zzN_lt hn
      have := u64_xor_nat 18446744073709551615 (18446744073709551616 - zzN n - 1) (by decide) (by omega)
      rw [show (18446744073709551615 : Nat) ^^^ (18446744073709551616 - zzN n - 1) = 18446744073709551615 - (18446744073709551616 - zzN n - 1) from not_nat 64 _ (by omega)] at this
      rw [e1]
      refine Eq.trans this ?_
      congr 1; omega
    · rename_i h
      unfold zzN; rw [if_neg h]; omega
  have hz := zzN_lt hn
  generalize zzN n = z at HZ hz ⊢
  have HL := hideIt (varL_len hz)
  by_cases hneg : n < 0
  all_goals
    first | (have HZ' := hideIt ((if_pos hneg) ▸ HZ)) | (have HZ' := hideIt ((if_neg hneg) ▸ HZ))
    clear HZ hz
    go_enter Tryd.func24, Tryd.ntmps24
    go_wp2
    go_loopw [0, 5] (fun x u wr => ∃ (d : List Nat) (y : Nat), u = .int .u64 (y : Nat) ∧ y ≤ z ∧ varL z = d ++ varL y ∧ wr.ownsRow base 5 1 x (l ++ d).length (byCs (l ++ d)) ∧ Below base w wr) (fun _ u _ => (intOf u).toNat)
    case atStart => exact ⟨[], z, val_int HZ'.out, Nat.le_refl _, rfl, by simpa using HO.out, Below.refl _ _⟩
    case round =>
      obtain ⟨d, y, rfl, hy, hd, hown, hnx⟩ := hrel
      have HD := hideIt hd
      have hdl : d.length ≤ 3 := by
        have h1 := HL.out; rw [hd] at h1; simp at h1; omega
      clear hd
      have hsz := hnx.size
      by_cases hlt : y < 128
      · have hby : (y : Int) % 256 = y := by omega
        have HB := hideIt hby
        clear hby
        go_wp2_with (at_builtin; refine wpList_append_own _ rfl _ _ 30 rfl base 5 i0 _ 1 1 Tryd.underlying30 hi hz0 hz1 hz2 rfl (by decide) _ _ _ rfl (hown.alloc _) ⟨wr.heap.size, 0, none⟩ 1 1 [.int .u8 (y : Nat)] rfl rfl ?c1 ?c2 ?c3 ?c4 ?c5 ?_)
        case c1 =>
          intro j u hj
          match j, hj with
          | 0, hj => simp at hj; subst hj; simp [Addr.add]
          | n + 1, hj => simp at hj
        case c2 => intro u hu; simp at hu; subst hu; rfl
        case c3 => unfold maxLen; simp; omega
        case c4 => simp; omega
        case c5 => simp; omega
        · intro v' w1 hown' hgrow _
          have R1 : Hid (w1.ownsRow base 5 1 v' (l ++ varL z).length (byCs (l ++ varL z))) := by
            show w1.ownsRow base 5 1 v' (l ++ varL z).length (byCs (l ++ varL z))
            rw [HD.out, varL_small hlt, ← List.append_assoc]; simpa [byCs, Nat.add_assoc] using hown'
          have R2 : Hid (Below base w w1) := (hnx.alloc (by omega) _).grown hgrow (by simp; omega) (fun g hg => (hown.lt g hg).1)
          clear hown' hgrow hown
          go_wp2
          go_ret
          exact ⟨v', rfl, R1.out, R2.out⟩
      · go_wp2_with (at_builtin; refine wpList_append_own _ rfl _ _ 30 rfl base 5 i0 _ 1 1 Tryd.underlying30 hi hz0 hz1 hz2 rfl (by decide) _ _ _ rfl (hown.alloc _) ⟨wr.heap.size, 0, none⟩ 1 1 [.int .u8 ((y % 128 + 128 : Nat) : Int)] rfl rfl ?c1 ?c2 ?c3 ?c4 ?c5 ?_)
        case c1 =>
          intro j u hj
          match j, hj with
          | 0, hj => simp at hj; subst hj; simp [Addr.add]; exact or_128y y
          | n + 1, hj => simp at hj
        case c2 => intro u hu; simp at hu; subst hu; rfl
        case c3 => unfold maxLen; simp; omega
        case c4 => simp; omega
        case c5 => simp; omega
        · intro v' w1 hown' hgrow _
          have R1 : Hid (w1.ownsRow base 5 1 v' (l ++ (d ++ [y % 128 + 128])).length (byCs (l ++ (d ++ [y % 128 + 128])))) := by
            show w1.ownsRow base 5 1 v' (l ++ (d ++ [y % 128 + 128])).length (byCs (l ++ (d ++ [y % 128 + 128])))
            rw [← List.append_assoc]; simpa [byCs, Nat.add_assoc] using hown'
          have R2 : Hid (Below base w w1) := (hnx.alloc (by omega) _).grown hgrow (by simp; omega) (fun g hg => (hown.lt g hg).1)
          clear hown' hgrow hown
          go_wp2
          go_roundw
          case rel => exact ⟨d ++ [y % 128 + 128], y / 128, val_int (by omega), by omega, by rw [HD.out, varL_great hlt]; simp, R1.out, R2.out⟩
          case measure => simp [intOf]; omega

end Go.Proofs.YtdncnljcihblbaaDoor
