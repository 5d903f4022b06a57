/-
  strconv.FormatUint at base 16, walked: the number's digits as a text.
-/
import Derived.Test.YtkbjaneekblgmaaGreatDoorFmt
import Derived.Test.YtkbjaneekblgmaaGreatDoorPlainF
import Derived.Test.YtkbjaneekblgmaaGreatDoorBitsW
import Derived.Laws.IdiomStrings
namespace Go.Proofs.YtkbjaneekblgmaaGreatDoor
open Go.RowKit

/-- What the table of trailing zeros holds at 16. -/
def DebAt (w : World) : Prop := w.cell? ⟨4, 15, none⟩ = some (.int .u8 4)

theorem belN (w : World) (o : Obj) : Below w.heap.size w (w.alloc o) := (Below.refl _ _).alloc (Nat.le_refl _) o
theorem digH (y : Nat) (h : y < 16) : ((⟨#[48, 49, 50, 51, 52, 53, 54, 55, 56, 57, 97, 98, 99, 100, 101, 102, 103, 104, 105, 106, 107, 108, 109, 110, 111, 112, 113, 114, 115, 116, 117, 118, 119, 120, 121, 122]⟩ : ByteArray)[y]'(by show y < 36; omega)) = dig y := digs y (by omega)

set_option maxHeartbeats 400000 in
theorem tz16 (w : World) (h : DebAt w) : Calls Tryz.prog 77 #[.int .u64 16] w fun e w' => e = .returned (.int .i64 4) ∧ w' = w := by
  have h' := h
  unfold DebAt at h'
  have hI : IntKind.u64.wrap (bits BinOp.and IntKind.u64 16 (IntKind.u64.wrap (-16)) * 285870213051353865) / 288230376151711744 = 15 := by decide
  go_enter Tryz.func77, Tryz.ntmps77
  go_wp2
  go_ret
  exact ⟨rfl, rfl⟩

theorem and15 {y : Nat} (h : y < 18446744073709551616) : bits .and .u64 (y : Int) 15 = ((y % 16 : Nat) : Int) := by
  have := bits_and_u64_nat y 15 h (by decide)
  rw [show ((15 : Nat) : Int) = 15 from rfl] at this
  rw [this, show (15 : Nat) = 2 ^ 4 - 1 from rfl, Nat.and_two_pow_sub_one_eq_mod]

set_option maxRecDepth 100000 in
set_option maxHeartbeats 4000000 in
theorem fmt16 (u : Nat) (hu : u < 18446744073709551616) (w : World) (hd : DebAt w) :
    Calls Tryz.prog 65 #[.slice none 0 0, .int .u64 u, .int .i64 16, .bool false, .bool false] w fun e w' => e = .returned (.tuple #[.slice none 0 0, .string ⟨(d16 u).toArray⟩]) ∧ Below w.heap.size w w' := by
  have HD : Hid (∀ o, DebAt (w.alloc o)) := hideIt (fun o => by
    unfold DebAt at hd ⊢
    rw [World.cell?_alloc_lt _ _ ⟨4, 15, none⟩ (World.block_lt_of_cell? w ⟨4, 15, none⟩ hd)]
    exact hd)
  have hlen16 := d16_length64 hu
  clear hd
  go_enter Tryz.func65, Tryz.ntmps65
  go_wp2_with (first | (go_at_call 77; refine (tz16 _ (HD.out _)).mono ?_; rintro e w' ⟨rfl, rfl⟩) | go_in)
  go_loopw [1, 13] (fun x i wr => ∃ (y : Nat) (ds : List UInt8), x = .int .u64 y ∧ y < 18446744073709551616 ∧ d16 u = d16 y ++ ds ∧ i = .int .i64 (65 - ds.length : Nat) ∧ wr = w.alloc (.cells (padA (65 - ds.length) ds) 120)) (fun x _ _ => (intOf x).toNat)
  case atStart => exact ⟨u, [], rfl, hu, by simp, rfl, rfl⟩
  case round =>
    obtain ⟨y, ds, rfl, hy, hd, rfl, hW⟩ := hrel
    have hl : (d16 y).length + ds.length ≤ 16 := by
      have := congrArg List.length hd
      rw [List.length_append] at this
      omega
    have hp := d16_pos y
    have hn1 : IntKind.i64.wrap (((65 - ds.length : Nat) : Int) - 1) = ((64 - ds.length : Nat) : Int) := by rw [IntKind.wrap_i64]; omega
    have hg := pad_heap w (65 - ds.length) ds
    rw [← hW] at hg
    obtain ⟨z, hc⟩ : ∃ z, wr.cell? ⟨w.heap.size, 64 - ds.length, none⟩ = some z := ⟨_, by
      rw [cell_of_row wr _ _ _ 120 (0, 0) hg, Array.getElem?_eq_getElem (by rw [padA_size]; omega)]⟩
    have hf : wr.frozen? ⟨w.heap.size, 64 - ds.length, none⟩ = false := frozen_of_row wr _ _ _ 120 hg
    have HW := hideIt hW
    have HG := hideIt hg
    clear hg hW
    have hset : ∀ d : UInt8, wr.setCell ⟨w.heap.size, 64 - ds.length, none⟩ (.int .u8 (d.toNat : Int)) = w.alloc (.cells (padA (64 - ds.length) (d :: ds)) 120) := fun d => by
      rw [HW.out, pad_set w (64 - ds.length) ds d (by omega)]
    have HSET := hideIt hset
    clear hset
    by_cases h16 : y < 16
    · have hge : decide (16 ≤ (y : Int)) = false := by simp; omega
      have hy36 : y < 36 := by omega
      have hal : Tryz.prog.arrayLen 120 = 65 := by kernel_rfl
      have hsl : ∀ W, (Instr.sliceAt 120 (.pointer (some ⟨w.heap.size, 0, none⟩)) (some (.int .i64 ((64 - ds.length : Nat) : Int))) none none).run Tryz.prog W = .ok (.slice (some ⟨w.heap.size, 64 - ds.length, none⟩) (ds.length + 1) (ds.length + 1)) W := fun W => by
        rw [run_sliceAt_array_l W 120 ⟨w.heap.size, 0, none⟩ (by kernel_rfl) .i64 ((64 - ds.length : Nat) : Int) (by omega) (by rw [hal]; omega), hal]
        have e1 : Tryz.prog.elem 120 = 5 := by kernel_rfl
        have e2 : (sizeOf 5).run Tryz.prog W = .ok 1 W := by kernel_rfl
        rw [e1, e2]
        simp only [Result.andThen, slicedAt, Int.toNat_natCast]
        rw [if_neg (by omega)]
        simp [Addr.add]
        omega
      have hS : wr.setCell ⟨w.heap.size, 64 - ds.length, none⟩ (.int .u8 (((⟨#[48, 49, 50, 51, 52, 53, 54, 55, 56, 57, 97, 98, 99, 100, 101, 102, 103, 104, 105, 106, 107, 108, 109, 110, 111, 112, 113, 114, 115, 116, 117, 118, 119, 120, 121, 122]⟩ : ByteArray)[y]'hy36).toNat : Int)) = w.alloc (.cells (padA (64 - ds.length) (dig y :: ds)) 120) := by
        rw [digs y hy36]; exact HSET.out (dig y)
      have hcv : (convert 49 9 (.slice (some ⟨w.heap.size, 64 - ds.length, none⟩) (ds.length + 1) (ds.length + 1))).run Tryz.prog (w.alloc (.cells (padA (64 - ds.length) (dig y :: ds)) 120)) = .ok (.string ⟨(d16 u).toArray⟩) (w.alloc (.cells (padA (64 - ds.length) (dig y :: ds)) 120)) := by
        rw [hd, d16_small h16]
        refine run_convert_bytes_back _ 49 9 5 ⟨w.heap.size, 64 - ds.length, none⟩ (ds.length + 1) (dig y :: ds) Tryz.underlying49 Tryz.underlying5 Tryz.underlying9 (fun j hj => ?_)
        rw [Addr.add_lit]
        exact pad_cell w (64 - ds.length) (dig y :: ds) j _ (by simp only [byteV, List.getElem?_map, List.getElem?_eq_getElem hj]; rfl)
      have HS := hideIt hS
      have HCV := hideIt hcv
      rw [← HS.out] at hcv
      clear hal hS HSET
      go_wp2
      go_ret2
      refine ⟨by simp [hd], ?_⟩
      rw [HS.out]
      exact belN _ _
    · have hge : decide (16 ≤ (y : Int)) = true := by simp; omega
      have hidx : y % 16 < 36 := by omega
      have hand := and15 hy
      have hS : wr.setCell ⟨w.heap.size, 64 - ds.length, none⟩ (.int .u8 (((⟨#[48, 49, 50, 51, 52, 53, 54, 55, 56, 57, 97, 98, 99, 100, 101, 102, 103, 104, 105, 106, 107, 108, 109, 110, 111, 112, 113, 114, 115, 116, 117, 118, 119, 120, 121, 122]⟩ : ByteArray)[y % 16]'hidx).toNat : Int)) = w.alloc (.cells (padA (64 - ds.length) (dig (y % 16) :: ds)) 120) := by
        rw [digs _ hidx]; exact HSET.out (dig (y % 16))
      have hi1 : (0 : Int) ≤ ((y % 16 : Nat) : Int) := by omega
      have hi2 : ((y % 16 : Nat) : Int) < 36 := by omega
      have HS := hideIt hS
      clear hS HSET
      go_wp2
      refine ⟨⟨y / 16, dig (y % 16) :: ds, ?_, ?_, ?_, ?_, ?_⟩, ?_⟩
      · go_num
      · omega
      · rw [hd, d16_big h16]; simp
      · simp
      · rw [show 65 - (dig (y % 16) :: ds).length = 64 - ds.length by simp]
        exact HS.out
      · simp [intOf]; omega

set_option maxRecDepth 100000 in
set_option maxHeartbeats 1000000 in
theorem formatUintI (u : Nat) (hu : u < 18446744073709551616) (w : World) (hd : DebAt w) :
    Calls Tryz.prog 48 #[.int .u64 u, .int .i64 16] w fun e w' => e = .returned (.string ⟨(d16 u).toArray⟩) ∧ Below w.heap.size w w' := by
  have HC := hideIt (fmt16 u hu w hd)
  clear hd
  go_enter Tryz.func48, Tryz.ntmps48
  go_wp2_with (go_at_call 65; refine HC.out.mono ?_; rintro e w' ⟨rfl, hb⟩; have HB := hideIt hb; clear hb)
  go_ret
  exact ⟨rfl, HB.out⟩
set_option maxHeartbeats 400000 in
theorem formatUint_any (u : Nat) (hu : u < 18446744073709551616) (w : World) (hd : DebAt w) :
    Calls Tryz.prog 34 #[.int .u64 u, .int .i64 16] w fun e w' => e = .returned (.string ⟨(d16 u).toArray⟩) ∧ Below w.heap.size w w' := by
  have HC := hideIt (formatUintI u hu w hd)
  clear hd
  go_enter Tryz.func34, Tryz.ntmps34
  go_wp2_with (go_at_call 48; refine HC.out.mono ?_; rintro e w' ⟨rfl, hb⟩; have HB := hideIt hb; clear hb)
  go_ret
  exact ⟨rfl, HB.out⟩
end Go.Proofs.YtkbjaneekblgmaaGreatDoor
