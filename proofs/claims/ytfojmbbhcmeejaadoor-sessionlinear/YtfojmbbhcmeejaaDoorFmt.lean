/-
  strconv.AppendUint and AppendInt at base 36, walked: the number's digits behind what was there.
-/
import Derived.Test.YtfojmbbhcmeejaaDoorProg
import Derived.Test.YtfojmbbhcmeejaaDoorPlain36
import Derived.Test.YtfojmbbhcmeejaaDoorWalkK
import Derived.WalkKit
import Derived.WalkSpells
import Derived.WalkLawsBesides
import Derived.LoopTactic
import Derived.Laws.AppendOwn
namespace Go.Proofs.YtfojmbbhcmeejaaDoor
open Go.RowKit

def byteV (l : List UInt8) : List Value := l.map fun b => .int .u8 (b.toNat : Int)
theorem byteV_length (l : List UInt8) : (byteV l).length = l.length := by simp [byteV]
theorem byteV_append (a b : List UInt8) : byteV (a ++ b) = byteV a ++ byteV b := by simp [byteV]

/-- The array of digits: zeros, and the digits that are there behind them. -/
def padA (i : Nat) (ds : List UInt8) : Array Value := (List.replicate i (Value.int .u8 0) ++ byteV ds).toArray

theorem padA_size (i : Nat) (ds : List UInt8) : (padA i ds).size = i + ds.length := by simp [padA, byteV]
theorem pad_heap (w : World) (i : Nat) (ds : List UInt8) : (w.alloc (.cells (padA i ds) 186)).heap[w.heap.size]? = some (.cells (padA i ds) 186 (0, 0)) := by
  show (w.heap.push _)[w.heap.size]? = _
  simp

theorem pad_set (w : World) (i : Nat) (ds : List UInt8) (d : UInt8) (h : i + 1 = 65 - ds.length) : (w.alloc (.cells (padA (65 - ds.length) ds) 186)).setCell ⟨w.heap.size, i, none⟩ (.int .u8 (d.toNat : Int)) = w.alloc (.cells (padA i (d :: ds)) 186) := by
  rw [World.setCell_alloc_new]
  have e : (padA (65 - ds.length) ds).setIfInBounds i (.int .u8 (d.toNat : Int)) = padA i (d :: ds) := by
    unfold padA
    rw [← h, List.replicate_succ', List.append_assoc]
    apply Array.ext'
    simp [byteV]
  rw [e]
theorem pad_cell (w : World) (i : Nat) (ds : List UInt8) (j : Nat) (u : Value) (h : (byteV ds)[j]? = some u) : (w.alloc (.cells (padA i ds) 186)).cell? ⟨w.heap.size, i + j, none⟩ = some u := by
  rw [cell_of_row _ _ _ _ 186 (0, 0) (pad_heap w i ds)]
  unfold padA
  simp only [List.getElem?_toArray]
  rw [List.getElem?_append_right (by simp)]
  simpa using h
theorem digs (y : Nat) (h : y < 36) : ((⟨#[48, 49, 50, 51, 52, 53, 54, 55, 56, 57, 97, 98, 99, 100, 101, 102, 103, 104, 105, 106, 107, 108, 109, 110, 111, 112, 113, 114, 115, 116, 117, 118, 119, 120, 121, 122]⟩ : ByteArray)[y]'h) = dig y := by
  have : ∀ y : Fin 36, ((⟨#[48, 49, 50, 51, 52, 53, 54, 55, 56, 57, 97, 98, 99, 100, 101, 102, 103, 104, 105, 106, 107, 108, 109, 110, 111, 112, 113, 114, 115, 116, 117, 118, 119, 120, 121, 122]⟩ : ByteArray)[y.val]'y.isLt) = dig y.val := by decide
  exact this ⟨y, h⟩
theorem info5 : (Tryd.prog.info? 5).map (fun i => (i.zero, i.size, i.bytes)) = some (some (.int .u8 0), 1, 1) := by kernel_rfl

set_option maxRecDepth 100000 in
set_option maxHeartbeats 4000000 in
theorem fmt36 (base n u : Nat) (hu : u < 18446744073709551616) (sv : Value) (xs : List Value) (w : World) (hown : w.ownsRow base 5 1 sv n xs) (hbase : base ≤ w.heap.size) (hlim : n + 20 ≤ 1000000) :
    Calls Tryd.prog 107 #[sv, .int .u64 u, .int .i64 36, .bool false, .bool true] w fun e w' => ∃ v', e = .returned (.tuple #[v', .string ⟨#[]⟩]) ∧ w'.ownsRow base 5 1 v' (n + (d36 u).length) (xs ++ byteV (d36 u)) ∧ w.grownBy w' sv.ownBlock := by
  have HOWN := hideIt hown
  obtain ⟨i5, hi5, hz5, hs5, hb5⟩ := info_parts info5
  have hlen13 := d36_length64 hu
  clear hown
  go_enter Tryd.func107, Tryd.ntmps107
  go_wp2
  go_loopw [1, 13, 18] (fun x i q wr => ∃ (y : Nat) (ds : List UInt8), x = .int .u64 y ∧ y < 18446744073709551616 ∧ d36 u = d36 y ++ ds ∧ i = .int .i64 (65 - ds.length : Nat) ∧ wr = w.alloc (.cells (padA (65 - ds.length) ds) 186)) (fun x _ _ _ => (intOf x).toNat)
  case atStart => exact ⟨u, [], rfl, hu, by simp, rfl, rfl⟩
  case round =>
    obtain ⟨y, ds, rfl, hy, hd, rfl, hW⟩ := hrel
    have hl : (d36 y).length + ds.length ≤ 13 := by
      have := congrArg List.length hd
      rw [List.length_append] at this
      omega
    have hp := d36_pos y
    have hn1 : IntKind.i64.wrap (((65 - ds.length : Nat) : Int) - 1) = ((64 - ds.length : Nat) : Int) := by rw [IntKind.wrap_i64]; omega
    have hg := pad_heap w (65 - ds.length) ds
    rw [← hW] at hg
    obtain ⟨z, hc⟩ : ∃ z, wr.cell? ⟨w.heap.size, 64 - ds.length, none⟩ = some z := ⟨_, by
      rw [cell_of_row wr _ _ _ 186 (0, 0) hg, Array.getElem?_eq_getElem (by rw [padA_size]; omega)]⟩
    have hf : wr.frozen? ⟨w.heap.size, 64 - ds.length, none⟩ = false := frozen_of_row wr _ _ _ 186 hg
    have HW := hideIt hW
    have HG := hideIt hg
    clear hg hW
    have hset : ∀ d : UInt8, wr.setCell ⟨w.heap.size, 64 - ds.length, none⟩ (.int .u8 (d.toNat : Int)) = w.alloc (.cells (padA (64 - ds.length) (d :: ds)) 186) := fun d => by
      rw [HW.out, pad_set w (64 - ds.length) ds d (by omega)]
    have HSET := hideIt hset
    clear hset
    by_cases h36 : y < 36
    · have hge : decide (36 ≤ (y : Int)) = false := by simp; omega
      have hal : Tryd.prog.arrayLen 186 = 65 := by kernel_rfl
      have hsl : ∀ W, (Instr.sliceAt 186 (.pointer (some ⟨w.heap.size, 0, none⟩)) (some (.int .i64 ((64 - ds.length : Nat) : Int))) none none).run Tryd.prog W = .ok (.slice (some ⟨w.heap.size, 64 - ds.length, none⟩) (ds.length + 1) (ds.length + 1)) W := fun W => by
        rw [run_sliceAt_array_l W 186 ⟨w.heap.size, 0, none⟩ (by kernel_rfl) .i64 ((64 - ds.length : Nat) : Int) (by omega) (by rw [hal]; omega), hal]
        have e1 : Tryd.prog.elem 186 = 5 := by kernel_rfl
        have e2 : (sizeOf 5).run Tryd.prog W = .ok 1 W := by kernel_rfl
        rw [e1, e2]
        simp only [Result.andThen, slicedAt, Int.toNat_natCast]
        rw [if_neg (by omega)]
        simp [Addr.add]
        omega
      have hS : wr.setCell ⟨w.heap.size, 64 - ds.length, none⟩ (.int .u8 (((⟨#[48, 49, 50, 51, 52, 53, 54, 55, 56, 57, 97, 98, 99, 100, 101, 102, 103, 104, 105, 106, 107, 108, 109, 110, 111, 112, 113, 114, 115, 116, 117, 118, 119, 120, 121, 122]⟩ : ByteArray)[y]'h36).toNat : Int)) = w.alloc (.cells (padA (64 - ds.length) (dig y :: ds)) 186) := by
        rw [digs y h36]; exact HSET.out (dig y)
      have HS := hideIt hS
      clear hal hS HSET
      go_wp2_with (at_builtin; refine wpList_append_own _ rfl _ _ 98 rfl base 5 i5 (.int .u8 0) 1 1 Tryd.underlying98 hi5 hz5 hs5 hb5 rfl (by decide) sv n xs rfl ?c6 ⟨w.heap.size, 64 - ds.length, none⟩ (ds.length + 1) (ds.length + 1) (byteV (dig y :: ds)) rfl ?c0 ?c1 ?c2 ?c3 ?c4 ?c5 ?_)
      case c6 => rw [HS.out]; exact HOWN.out.alloc _
      case c0 => simp [byteV]
      case c1 =>
        intro j u' hj
        rw [HS.out]
        rw [Addr.add_lit]
        exact pad_cell w (64 - ds.length) (dig y :: ds) j u' hj
      case c2 => intro u' hu'; simp only [byteV, List.mem_map] at hu'; obtain ⟨b, _, rfl⟩ := hu'; rfl
      case c3 => unfold maxLen; omega
      case c4 => omega
      case c5 => rw [HS.out]; simp; omega
      intro v' w' ho hgr _
      rw [HS.out] at hgr
      have HO := hideIt ho
      have HGR := hideIt hgr
      clear ho hgr
      go_wp2
      go_ret2
      refine ⟨v', rfl, ?_, (World.grownBy_alloc w _ _).trans HGR.out⟩
      have ho := HO.out
      rw [hd, d36_small h36]
      simpa [Nat.add_comm] using ho
    · have hge : decide (36 ≤ (y : Int)) = true := by simp; omega
      have hidx : y % 36 < 36 := Nat.mod_lt _ (by decide)
      have hi36 : y - y / 36 * 36 < 36 := by omega
      have hS : wr.setCell ⟨w.heap.size, 64 - ds.length, none⟩ (.int .u8 (((⟨#[48, 49, 50, 51, 52, 53, 54, 55, 56, 57, 97, 98, 99, 100, 101, 102, 103, 104, 105, 106, 107, 108, 109, 110, 111, 112, 113, 114, 115, 116, 117, 118, 119, 120, 121, 122]⟩ : ByteArray)[y - y / 36 * 36]'hi36).toNat : Int)) = w.alloc (.cells (padA (64 - ds.length) (dig (y % 36) :: ds)) 186) := by
        rw [digs _ hi36, show y - y / 36 * 36 = y % 36 by omega]; exact HSET.out (dig (y % 36))
      have HS := hideIt hS
      clear hS HSET
      go_wp2
      refine ⟨⟨_, _, _, _, _, _, _, _, _, _, _, _, _, _, _, _, _, _, _, _, ⟨y / 36, dig (y % 36) :: ds, ?_, ?_, ?_, ?_, ?_⟩, rfl⟩, ?_⟩
      · go_num
      · omega
      · rw [hd, d36_big h36]; simp
      · simp
      · rw [show 65 - (dig (y % 36) :: ds).length = 64 - ds.length by simp]
        exact HS.out
      · simp [intOf]; omega

/-- Nothing turns but rows of bytes from a block on. -/
structure BFr (base : Nat) (w w' : World) : Prop where
  os : w'.os = w.os
  tape : w'.tape = w.tape
  output : w'.output = w.output
  size : w.heap.size ≤ w'.heap.size
  block : ∀ k, k < w.heap.size → ¬ (base ≤ k ∧ ∃ c fz, w.heap[k]? = some (.cells c 5 fz)) → w'.heap[k]? = w.heap[k]?
theorem BFr.refl (base : Nat) (w : World) : BFr base w w := ⟨rfl, rfl, rfl, Nat.le_refl _, fun _ _ _ => rfl⟩
theorem BFr.trans {base : Nat} {a b c : World} (h : BFr base a b) (k : BFr base b c) : BFr base a c :=
  ⟨k.os.trans h.os, k.tape.trans h.tape, k.output.trans h.output, Nat.le_trans h.size k.size, fun i hi hn => by
    have e := h.block i hi hn
    rw [k.block i (Nat.lt_of_lt_of_le hi h.size) (by rw [e]; exact hn), e]⟩
theorem bfr_of_grown {base n : Nat} {w w' : World} {sv : Value} {xs : List Value} (hown : w.ownsRow base 5 1 sv n xs) (hg : w.grownBy w' sv.ownBlock) : BFr base w w' :=
  ⟨hg.os, hg.tape, hg.output, hg.size, fun k hk hn => hg.block k hk (fun e => hn ⟨(hown.lt k e.symm).1, by
    obtain ⟨_, ⟨rfl, _⟩ | ⟨g, cap, cur, rfl, _, hh, _⟩⟩ := hown
    · cases e
    · obtain rfl : k = g := by simpa [Value.ownBlock] using e
      exact ⟨_, _, hh⟩⟩)⟩
theorem bfr_new {base : Nat} {w w' : World} (hg : w.grownBy w' none) : BFr base w w' :=
  ⟨hg.os, hg.tape, hg.output, hg.size, fun k hk _ => hg.block k hk (by simp)⟩

/-- What an append of bytes leaves. -/
structure Wrote (base : Nat) (w : World) (n : Nat) (xs : List Value) (l : List UInt8) (v' : Value) (w' : World) : Prop where
  row : w'.ownsRow base 5 1 v' (n + l.length) (xs ++ byteV l)
  fr : BFr base w w'
theorem Wrote.then {base n : Nat} {w w1 w2 : World} {v1 v2 : Value} {xs : List Value} {a b : List UInt8} (h : Wrote base w n xs a v1 w1) (k : Wrote base w1 (n + a.length) (xs ++ byteV a) b v2 w2) : Wrote base w n xs (a ++ b) v2 w2 := by
  refine ⟨?_, h.fr.trans k.fr⟩
  have := k.row
  rw [byteV_append, List.length_append, ← List.append_assoc, ← Nat.add_assoc]
  exact this

set_option maxRecDepth 100000 in
set_option maxHeartbeats 1000000 in
theorem appendUint85 (base n u : Nat) (hu : u < 18446744073709551616) (sv : Value) (xs : List Value) (w : World) (hown : w.ownsRow base 5 1 sv n xs) (hbase : base ≤ w.heap.size) (hlim : n + 20 ≤ 1000000) :
    Calls Tryd.prog 100 #[sv, .int .u64 u, .int .i64 36] w fun e w' => ∃ v', e = .returned v' ∧ Wrote base w n xs (d36 u) v' w' := by
  have HC := hideIt (fmt36 base n u hu sv xs w hown hbase hlim)
  have HN := hideIt hown
  clear hown
  go_enter Tryd.func100, Tryd.ntmps100
  go_wp2_with (go_at_call 107; refine HC.out.mono ?_; rintro e w' ⟨v', rfl, h1, h2⟩)
  have HW := hideIt (show Wrote base w n xs (d36 u) v' w' from ⟨h1, bfr_of_grown HN.out h2⟩)
  clear h1 h2
  go_wp2
  go_ret
  exact ⟨v', rfl, HW.out⟩

set_option maxHeartbeats 1000000 in
theorem appendUint36 (base n u : Nat) (hu : u < 18446744073709551616) (sv : Value) (xs : List Value) (w : World) (hown : w.ownsRow base 5 1 sv n xs) (hbase : base ≤ w.heap.size) (hlim : n + 20 ≤ 1000000) :
    Calls Tryd.prog 93 #[sv, .int .u64 u, .int .i64 36] w fun e w' => ∃ v', e = .returned v' ∧ Wrote base w n xs (d36 u) v' w' := by
  have HC := hideIt (appendUint85 base n u hu sv xs w hown hbase hlim)
  clear hown
  go_enter Tryd.func93, Tryd.ntmps93
  go_wp2_with (go_at_call 100; refine HC.out.mono ?_; rintro e w' ⟨v', rfl, h1⟩)
  have HW := hideIt h1
  clear h1
  go_wp2
  go_ret
  exact ⟨v', rfl, HW.out⟩


theorem n36_neg {m : Nat} (h : 0 < m) : n36 (-(m : Int)) = [45] ++ d36 m := by
  unfold n36
  rw [if_pos (by omega), Int.neg_neg, Int.toNat_natCast]; rfl
theorem n36_nat (m : Nat) : n36 (m : Int) = d36 m := by
  unfold n36
  rw [if_neg (by omega), Int.toNat_natCast]

set_option maxRecDepth 100000 in
set_option maxHeartbeats 1000000 in
theorem appendInt_nat (base n m : Nat) (hx : m < 9223372036854775808) (sv : Value) (xs : List Value) (w : World) (hown : w.ownsRow base 5 1 sv n xs) (hbase : base ≤ w.heap.size) (hlim : n + 30 ≤ 1000000) :
    Calls Tryd.prog 101 #[sv, .int .i64 m, .int .i64 36] w fun e w' => ∃ v', e = .returned v' ∧ Wrote base w n xs (d36 m) v' w' := by
  have hlt : decide ((m : Int) < 0) = false := by simp
  have hw : IntKind.u64.wrap (m : Int) = (m : Int) := by rw [IntKind.wrap_u64]; omega
  have HC := hideIt (appendUint85 base n m (by omega) sv xs w hown hbase (by omega))
  clear hown
  go_enter Tryd.func101, Tryd.ntmps101
  go_wp2_with (go_at_call 100; refine HC.out.mono ?_; rintro e w' ⟨v', rfl, h1⟩)
  have H1 := hideIt h1
  clear h1
  go_wp2
  go_ret
  exact ⟨v', rfl, H1.out⟩

set_option maxRecDepth 100000 in
set_option maxHeartbeats 1000000 in
theorem appendInt_neg (base n m : Nat) (h0 : 0 < m) (hx : m ≤ 9223372036854775808) (sv : Value) (xs : List Value) (w : World) (hown : w.ownsRow base 5 1 sv n xs) (hbase : base ≤ w.heap.size) (hlim : n + 30 ≤ 1000000) :
    Calls Tryd.prog 101 #[sv, .int .i64 (-(m : Int)), .int .i64 36] w fun e w' => ∃ v', e = .returned v' ∧ Wrote base w n xs ([45] ++ d36 m) v' w' := by
  have HN := hideIt hown
  have hlt : decide (-(m : Int) < 0) = true := by simp; omega
  have hw : IntKind.u64.wrap (-(m : Int)) = 18446744073709551616 - (m : Int) := by rw [IntKind.wrap_u64]; omega
  have hw2 : IntKind.u64.wrap (-(18446744073709551616 - (m : Int))) = (m : Int) := by rw [IntKind.wrap_u64]; omega
  obtain ⟨i5, hi5, hz5, hs5, hb5⟩ := info_parts info5
  clear hown
  go_enter Tryd.func101, Tryd.ntmps101
  go_wp2_with (at_builtin; refine wpList_append_own _ rfl _ _ 98 rfl base 5 i5 (.int .u8 0) 1 1 Tryd.underlying98 hi5 hz5 hs5 hb5 rfl (by decide) sv n xs rfl ?c6 ⟨w.heap.size, 0, none⟩ 1 1 (byteV [45]) rfl ?c0 ?c1 ?c2 ?c3 ?c4 ?c5 ?_)
  case c6 => exact HN.out.alloc _
  case c0 => simp [byteV]
  case c1 =>
    intro j u' hj
    match j, hj with
    | 0, hj => simp [byteV] at hj; subst hj; simp [Addr.add]
  case c2 => intro u' hu'; simp only [byteV, List.mem_map] at hu'; obtain ⟨b, _, rfl⟩ := hu'; rfl
  case c3 => unfold maxLen; omega
  case c4 => omega
  case c5 => simp; omega
  intro v' w' ho hgr _
  have H1 := hideIt (show Wrote base w n xs [45] v' w' from ⟨ho, (bfr_new (World.grownBy_alloc w _ none)).trans (bfr_of_grown (HN.out.alloc _) hgr)⟩)
  have hsz := hgr.size
  have HC := hideIt (appendUint85 base (n + 1) m (by omega) v' _ w' ho (by simp at hsz; omega) (by omega))
  clear ho hgr hsz
  go_wp2_with (go_at_call 100; refine HC.out.mono ?_; rintro e w2 ⟨v2, rfl, h2⟩)
  have H2 := hideIt h2
  clear h2
  go_wp2
  go_ret
  exact ⟨v2, rfl, H1.out.then H2.out⟩

set_option maxHeartbeats 1000000 in
theorem appendInt36 (base n : Nat) (x : Int) (hx : -9223372036854775808 ≤ x ∧ x < 9223372036854775808) (sv : Value) (xs : List Value) (w : World) (hown : w.ownsRow base 5 1 sv n xs) (hbase : base ≤ w.heap.size) (hlim : n + 30 ≤ 1000000) :
    Calls Tryd.prog 94 #[sv, .int .i64 x, .int .i64 36] w fun e w' => ∃ v', e = .returned v' ∧ Wrote base w n xs (n36 x) v' w' := by
  have HC : Hid (Calls Tryd.prog 101 #[sv, .int .i64 x, .int .i64 36] w fun e w' => ∃ v', e = .returned v' ∧ Wrote base w n xs (n36 x) v' w') := by
    by_cases h0 : x < 0
    · obtain ⟨m, rfl⟩ : ∃ m : Nat, x = -(m : Int) := ⟨(-x).toNat, by omega⟩
      rw [n36_neg (by omega)]
      exact appendInt_neg base n m (by omega) (by omega) sv xs w hown hbase hlim
    · obtain ⟨m, rfl⟩ : ∃ m : Nat, x = (m : Int) := ⟨x.toNat, by omega⟩
      rw [n36_nat]
      exact appendInt_nat base n m (by omega) sv xs w hown hbase hlim
  clear hown
  go_enter Tryd.func94, Tryd.ntmps94
  go_wp2_with (go_at_call 101; refine HC.out.mono ?_; rintro e w' ⟨v', rfl, h1⟩)
  have H1 := hideIt h1
  clear h1
  go_wp2
  go_ret
  exact ⟨v', rfl, H1.out⟩
end Go.Proofs.YtfojmbbhcmeejaaDoor
