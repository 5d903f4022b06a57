/-
  strconv.AppendUint and AppendInt at base 36, walked: the number's digits behind what was there.
  A search in memory: its block, the states of the keys, the order, the room for names, the set of names; what turns, and what doesn't.
  Package linear's do and undo: walked.
  Package linear's appendName: walked.
-/
import Derived.Test.YtncnojgemmcplaaGreatDoorProg
import Derived.Test.YtncnojgemmcplaaGreatDoorPlain36
import Derived.Test.YtncnojgemmcplaaGreatDoorPlainSZ
import Derived.WalkKit
import Derived.WalkSpells
import Derived.WalkLawsBesides
import Derived.LoopTactic
import Derived.Laws.AppendOwn
import Derived.Test.YtncnojgemmcplaaGreatDoorBitsWZ
import Derived.Maps.OwnSet
import Derived.Maps.AppendAt
import Derived.Laws.IdiomStrings
import Derived.Deep.RegionHeld3
import Derived.Deep.RegionWith
namespace Go.Proofs.YtncnojgemmcplaaGreatDoor
open Go.RowKit

def byteV (l : List UInt8) : List Value := l.map fun b => .int .u8 (b.toNat : Int)
theorem byteV_append (a b : List UInt8) : byteV (a ++ b) = byteV a ++ byteV b := by simp [byteV]

/-- The array of digits: zeros, and the digits that are there behind them. -/
def padA (i : Nat) (ds : List UInt8) : Array Value := (List.replicate i (Value.int .u8 0) ++ byteV ds).toArray

theorem padA_size (i : Nat) (ds : List UInt8) : (padA i ds).size = i + ds.length := by simp [padA, byteV]
theorem pad_heap (w : World) (i : Nat) (ds : List UInt8) : (w.alloc (.cells (padA i ds) 282)).heap[w.heap.size]? = some (.cells (padA i ds) 282 (0, 0)) := by
  show (w.heap.push _)[w.heap.size]? = _
  simp

theorem pad_set (w : World) (i : Nat) (ds : List UInt8) (d : UInt8) (h : i + 1 = 65 - ds.length) : (w.alloc (.cells (padA (65 - ds.length) ds) 282)).setCell ⟨w.heap.size, i, none⟩ (.int .u8 (d.toNat : Int)) = w.alloc (.cells (padA i (d :: ds)) 282) := by
  rw [World.setCell_alloc_new]
  have e : (padA (65 - ds.length) ds).setIfInBounds i (.int .u8 (d.toNat : Int)) = padA i (d :: ds) := by
    unfold padA
    rw [← h, List.replicate_succ', List.append_assoc]
    apply Array.ext'
    simp [byteV]
  rw [e]
theorem pad_cell (w : World) (i : Nat) (ds : List UInt8) (j : Nat) (u : Value) (h : (byteV ds)[j]? = some u) : (w.alloc (.cells (padA i ds) 282)).cell? ⟨w.heap.size, i + j, none⟩ = some u := by
  rw [cell_of_row _ _ _ _ 282 (0, 0) (pad_heap w i ds)]
  unfold padA
  simp only [List.getElem?_toArray]
  rw [List.getElem?_append_right (by simp)]
  simpa using h
theorem digs (y : Nat) (h : y < 36) : ((⟨#[48, 49, 50, 51, 52, 53, 54, 55, 56, 57, 97, 98, 99, 100, 101, 102, 103, 104, 105, 106, 107, 108, 109, 110, 111, 112, 113, 114, 115, 116, 117, 118, 119, 120, 121, 122]⟩ : ByteArray)[y]'h) = dig y := by
  have : ∀ y : Fin 36, ((⟨#[48, 49, 50, 51, 52, 53, 54, 55, 56, 57, 97, 98, 99, 100, 101, 102, 103, 104, 105, 106, 107, 108, 109, 110, 111, 112, 113, 114, 115, 116, 117, 118, 119, 120, 121, 122]⟩ : ByteArray)[y.val]'y.isLt) = dig y.val := by decide
  exact this ⟨y, h⟩
theorem info5 : (Tryz.prog.info? 5).map (fun i => (i.zero, i.size, i.bytes)) = some (some (.int .u8 0), 1, 1) := by kernel_rfl

set_option maxRecDepth 100000 in
set_option maxHeartbeats 4000000 in
theorem fmt36 (base n u : Nat) (hu : u < 18446744073709551616) (sv : Value) (xs : List Value) (w : World) (hown : w.ownsRow base 5 1 sv n xs) (hbase : base ≤ w.heap.size) (hlim : n + 20 ≤ 1000000) :
    Calls Tryz.prog 172 #[sv, .int .u64 u, .int .i64 36, .bool false, .bool true] w fun e w' => ∃ v', e = .returned (.tuple #[v', .string ⟨#[]⟩]) ∧ w'.ownsRow base 5 1 v' (n + (d36 u).length) (xs ++ byteV (d36 u)) ∧ w.grownBy w' sv.ownBlock := by
  have HOWN := hideIt hown
  obtain ⟨i5, hi5, hz5, hs5, hb5⟩ := info_parts info5
  have hlen13 := d36_length64 hu
  clear hown
  go_enter Tryz.func172, Tryz.ntmps172
  go_wp2
  go_loopw [1, 13, 18] (fun x i q wr => ∃ (y : Nat) (ds : List UInt8), x = .int .u64 y ∧ y < 18446744073709551616 ∧ d36 u = d36 y ++ ds ∧ i = .int .i64 (65 - ds.length : Nat) ∧ wr = w.alloc (.cells (padA (65 - ds.length) ds) 282)) (fun x _ _ _ => (intOf x).toNat)
  case atStart => exact ⟨u, [], rfl, hu, by simp, rfl, rfl⟩
  case round =>
    obtain ⟨y, ds, rfl, hy, hd, rfl, hW⟩ := hrel
    have hl : (d36 y).length + ds.length ≤ 13 := by
      have := congrArg List.length hd
      rw [List.length_append] at this
      omega
    have hp := d36_pos y
    have hn1 : IntKind.i64.wrap (((65 - ds.length : Nat) : Int) - 1) = ((64 - ds.length : Nat) : Int) := by rw [IntKind.wrap_i64]; omega
    have hg := pad_heap w (65 - ds.length) ds
    rw [← hW] at hg
    obtain ⟨z, hc⟩ : ∃ z, wr.cell? ⟨w.heap.size, 64 - ds.length, none⟩ = some z := ⟨_, by
      rw [cell_of_row wr _ _ _ 282 (0, 0) hg, Array.getElem?_eq_getElem (by rw [padA_size]; omega)]⟩
    have hf : wr.frozen? ⟨w.heap.size, 64 - ds.length, none⟩ = false := frozen_of_row wr _ _ _ 282 hg
    have HW := hideIt hW
    have HG := hideIt hg
    clear hg hW
    have hset : ∀ d : UInt8, wr.setCell ⟨w.heap.size, 64 - ds.length, none⟩ (.int .u8 (d.toNat : Int)) = w.alloc (.cells (padA (64 - ds.length) (d :: ds)) 282) := fun d => by
      rw [HW.out, pad_set w (64 - ds.length) ds d (by omega)]
    have HSET := hideIt hset
    clear hset
    by_cases h36 : y < 36
    · have hge : decide (36 ≤ (y : Int)) = false := by simp; omega
      have hal : Tryz.prog.arrayLen 282 = 65 := by kernel_rfl
      have hsl : ∀ W, (Instr.sliceAt 282 (.pointer (some ⟨w.heap.size, 0, none⟩)) (some (.int .i64 ((64 - ds.length : Nat) : Int))) none none).run Tryz.prog W = .ok (.slice (some ⟨w.heap.size, 64 - ds.length, none⟩) (ds.length + 1) (ds.length + 1)) W := fun W => by
        rw [run_sliceAt_array_l W 282 ⟨w.heap.size, 0, none⟩ (by kernel_rfl) .i64 ((64 - ds.length : Nat) : Int) (by omega) (by rw [hal]; omega), hal]
        have e1 : Tryz.prog.elem 282 = 5 := by kernel_rfl
        have e2 : (sizeOf 5).run Tryz.prog W = .ok 1 W := by kernel_rfl
        rw [e1, e2]
        simp only [Result.andThen, slicedAt, Int.toNat_natCast]
        rw [if_neg (by omega)]
        simp [Addr.add]
        omega
      have hS : wr.setCell ⟨w.heap.size, 64 - ds.length, none⟩ (.int .u8 (((⟨#[48, 49, 50, 51, 52, 53, 54, 55, 56, 57, 97, 98, 99, 100, 101, 102, 103, 104, 105, 106, 107, 108, 109, 110, 111, 112, 113, 114, 115, 116, 117, 118, 119, 120, 121, 122]⟩ : ByteArray)[y]'h36).toNat : Int)) = w.alloc (.cells (padA (64 - ds.length) (dig y :: ds)) 282) := by
        rw [digs y h36]; exact HSET.out (dig y)
      have HS := hideIt hS
      clear hal hS HSET
      go_wp2_with (at_builtin; refine wpList_append_own _ rfl _ _ 165 rfl base 5 i5 (.int .u8 0) 1 1 Tryz.underlying165 hi5 hz5 hs5 hb5 rfl (by decide) sv n xs rfl ?c6 ⟨w.heap.size, 64 - ds.length, none⟩ (ds.length + 1) (ds.length + 1) (byteV (dig y :: ds)) rfl ?c0 ?c1 ?c2 ?c3 ?c4 ?c5 ?_)
      case c6 => rw [HS.out]; exact HOWN.out.alloc _
      case c0 => simp [byteV]
      case c1 =>
        intro j u' hj
        rw [HS.out]
        rw [Addr.add_lit]
        exact pad_cell w (64 - ds.length) (dig y :: ds) j u' hj
      case c2 => intro u' hu'; simp only [byteV, List.mem_map] at hu'; obtain ⟨b, _, rfl⟩ := hu'; rfl
      case c3 => unfold maxLen; omega
      case c4 => omega
      case c5 => rw [HS.out]; simp; omega
      intro v' w' ho hgr _
      rw [HS.out] at hgr
      have HO := hideIt ho
      have HGR := hideIt hgr
      clear ho hgr
      go_wp2
      go_ret2
      refine ⟨v', rfl, ?_, (World.grownBy_alloc w _ _).trans HGR.out⟩
      have ho := HO.out
      rw [hd, d36_small h36]
      simpa [Nat.add_comm] using ho
    · have hge : decide (36 ≤ (y : Int)) = true := by simp; omega
      have hidx : y % 36 < 36 := Nat.mod_lt _ (by decide)
      have hi36 : y - y / 36 * 36 < 36 := by omega
      have hS : wr.setCell ⟨w.heap.size, 64 - ds.length, none⟩ (.int .u8 (((⟨#[48, 49, 50, 51, 52, 53, 54, 55, 56, 57, 97, 98, 99, 100, 101, 102, 103, 104, 105, 106, 107, 108, 109, 110, 111, 112, 113, 114, 115, 116, 117, 118, 119, 120, 121, 122]⟩ : ByteArray)[y - y / 36 * 36]'hi36).toNat : Int)) = w.alloc (.cells (padA (64 - ds.length) (dig (y % 36) :: ds)) 282) := by
        rw [digs _ hi36, show y - y / 36 * 36 = y % 36 by omega]; exact HSET.out (dig (y % 36))
      have HS := hideIt hS
      clear hS HSET
      go_wp2
      refine ⟨⟨_, _, _, _, _, _, _, _, _, _, _, _, _, _, _, _, _, _, _, _, ⟨y / 36, dig (y % 36) :: ds, ?_, ?_, ?_, ?_, ?_⟩, rfl⟩, ?_⟩
      · go_num
      · omega
      · rw [hd, d36_big h36]; simp
      · simp
      · rw [show 65 - (dig (y % 36) :: ds).length = 64 - ds.length by simp]
        exact HS.out
      · simp [intOf]; omega

/-- Nothing turns but rows of bytes from a block on. -/
structure BFr (base : Nat) (w w' : World) : Prop where
  os : w'.os = w.os
  tape : w'.tape = w.tape
  output : w'.output = w.output
  size : w.heap.size ≤ w'.heap.size
  block : ∀ k, k < w.heap.size → ¬ (base ≤ k ∧ ∃ c fz, w.heap[k]? = some (.cells c 5 fz)) → w'.heap[k]? = w.heap[k]?
theorem BFr.trans {base : Nat} {a b c : World} (h : BFr base a b) (k : BFr base b c) : BFr base a c :=
  ⟨k.os.trans h.os, k.tape.trans h.tape, k.output.trans h.output, Nat.le_trans h.size k.size, fun i hi hn => by
    have e := h.block i hi hn
    rw [k.block i (Nat.lt_of_lt_of_le hi h.size) (by rw [e]; exact hn), e]⟩
theorem bfr_of_grown {base n : Nat} {w w' : World} {sv : Value} {xs : List Value} (hown : w.ownsRow base 5 1 sv n xs) (hg : w.grownBy w' sv.ownBlock) : BFr base w w' :=
  ⟨hg.os, hg.tape, hg.output, hg.size, fun k hk hn => hg.block k hk (fun e => hn ⟨(hown.lt k e.symm).1, by
    obtain ⟨_, ⟨rfl, _⟩ | ⟨g, cap, cur, rfl, _, hh, _⟩⟩ := hown
    · cases e
    · obtain rfl : k = g := by simpa [Value.ownBlock] using e
      exact ⟨_, _, hh⟩⟩)⟩
theorem bfr_new {base : Nat} {w w' : World} (hg : w.grownBy w' none) : BFr base w w' :=
  ⟨hg.os, hg.tape, hg.output, hg.size, fun k hk _ => hg.block k hk (by simp)⟩

/-- What an append of bytes leaves. -/
structure Wrote (base : Nat) (w : World) (n : Nat) (xs : List Value) (l : List UInt8) (v' : Value) (w' : World) : Prop where
  row : w'.ownsRow base 5 1 v' (n + l.length) (xs ++ byteV l)
  fr : BFr base w w'
theorem Wrote.then {base n : Nat} {w w1 w2 : World} {v1 v2 : Value} {xs : List Value} {a b : List UInt8} (h : Wrote base w n xs a v1 w1) (k : Wrote base w1 (n + a.length) (xs ++ byteV a) b v2 w2) : Wrote base w n xs (a ++ b) v2 w2 := by
  refine ⟨?_, h.fr.trans k.fr⟩
  have := k.row
  rw [byteV_append, List.length_append, ← List.append_assoc, ← Nat.add_assoc]
  exact this

set_option maxRecDepth 100000 in
set_option maxHeartbeats 1000000 in
theorem appendUint85 (base n u : Nat) (hu : u < 18446744073709551616) (sv : Value) (xs : List Value) (w : World) (hown : w.ownsRow base 5 1 sv n xs) (hbase : base ≤ w.heap.size) (hlim : n + 20 ≤ 1000000) :
    Calls Tryz.prog 165 #[sv, .int .u64 u, .int .i64 36] w fun e w' => ∃ v', e = .returned v' ∧ Wrote base w n xs (d36 u) v' w' := by
  have HC := hideIt (fmt36 base n u hu sv xs w hown hbase hlim)
  have HN := hideIt hown
  clear hown
  go_enter Tryz.func165, Tryz.ntmps165
  go_wp2_with (go_at_call 172; refine HC.out.mono ?_; rintro e w' ⟨v', rfl, h1, h2⟩)
  have HW := hideIt (show Wrote base w n xs (d36 u) v' w' from ⟨h1, bfr_of_grown HN.out h2⟩)
  clear h1 h2
  go_wp2
  go_ret
  exact ⟨v', rfl, HW.out⟩

set_option maxHeartbeats 1000000 in
theorem appendUint36 (base n u : Nat) (hu : u < 18446744073709551616) (sv : Value) (xs : List Value) (w : World) (hown : w.ownsRow base 5 1 sv n xs) (hbase : base ≤ w.heap.size) (hlim : n + 20 ≤ 1000000) :
    Calls Tryz.prog 156 #[sv, .int .u64 u, .int .i64 36] w fun e w' => ∃ v', e = .returned v' ∧ Wrote base w n xs (d36 u) v' w' := by
  have HC := hideIt (appendUint85 base n u hu sv xs w hown hbase hlim)
  clear hown
  go_enter Tryz.func156, Tryz.ntmps156
  go_wp2_with (go_at_call 165; refine HC.out.mono ?_; rintro e w' ⟨v', rfl, h1⟩)
  have HW := hideIt h1
  clear h1
  go_wp2
  go_ret
  exact ⟨v', rfl, HW.out⟩


theorem n36_neg {m : Nat} (h : 0 < m) : n36 (-(m : Int)) = [45] ++ d36 m := by
  unfold n36
  rw [if_pos (by omega), Int.neg_neg, Int.toNat_natCast]; rfl
theorem n36_nat (m : Nat) : n36 (m : Int) = d36 m := by
  unfold n36
  rw [if_neg (by omega), Int.toNat_natCast]

set_option maxRecDepth 100000 in
set_option maxHeartbeats 1000000 in
theorem appendInt_nat (base n m : Nat) (hx : m < 9223372036854775808) (sv : Value) (xs : List Value) (w : World) (hown : w.ownsRow base 5 1 sv n xs) (hbase : base ≤ w.heap.size) (hlim : n + 30 ≤ 1000000) :
    Calls Tryz.prog 166 #[sv, .int .i64 m, .int .i64 36] w fun e w' => ∃ v', e = .returned v' ∧ Wrote base w n xs (d36 m) v' w' := by
  have hlt : decide ((m : Int) < 0) = false := by simp
  have hw : IntKind.u64.wrap (m : Int) = (m : Int) := by rw [IntKind.wrap_u64]; omega
  have HC := hideIt (appendUint85 base n m (by omega) sv xs w hown hbase (by omega))
  clear hown
  go_enter Tryz.func166, Tryz.ntmps166
  go_wp2_with (go_at_call 165; refine HC.out.mono ?_; rintro e w' ⟨v', rfl, h1⟩)
  have H1 := hideIt h1
  clear h1
  go_wp2
  go_ret
  exact ⟨v', rfl, H1.out⟩

set_option maxRecDepth 100000 in
set_option maxHeartbeats 1000000 in
theorem appendInt_neg (base n m : Nat) (h0 : 0 < m) (hx : m ≤ 9223372036854775808) (sv : Value) (xs : List Value) (w : World) (hown : w.ownsRow base 5 1 sv n xs) (hbase : base ≤ w.heap.size) (hlim : n + 30 ≤ 1000000) :
    Calls Tryz.prog 166 #[sv, .int .i64 (-(m : Int)), .int .i64 36] w fun e w' => ∃ v', e = .returned v' ∧ Wrote base w n xs ([45] ++ d36 m) v' w' := by
  have HN := hideIt hown
  have hlt : decide (-(m : Int) < 0) = true := by simp; omega
  have hw : IntKind.u64.wrap (-(m : Int)) = 18446744073709551616 - (m : Int) := by rw [IntKind.wrap_u64]; omega
  have hw2 : IntKind.u64.wrap (-(18446744073709551616 - (m : Int))) = (m : Int) := by rw [IntKind.wrap_u64]; omega
  obtain ⟨i5, hi5, hz5, hs5, hb5⟩ := info_parts info5
  clear hown
  go_enter Tryz.func166, Tryz.ntmps166
  go_wp2_with (at_builtin; refine wpList_append_own _ rfl _ _ 165 rfl base 5 i5 (.int .u8 0) 1 1 Tryz.underlying165 hi5 hz5 hs5 hb5 rfl (by decide) sv n xs rfl ?c6 ⟨w.heap.size, 0, none⟩ 1 1 (byteV [45]) rfl ?c0 ?c1 ?c2 ?c3 ?c4 ?c5 ?_)
  case c6 => exact HN.out.alloc _
  case c0 => simp [byteV]
  case c1 =>
    intro j u' hj
    match j, hj with
    | 0, hj => simp [byteV] at hj; subst hj; simp [Addr.add]
  case c2 => intro u' hu'; simp only [byteV, List.mem_map] at hu'; obtain ⟨b, _, rfl⟩ := hu'; rfl
  case c3 => unfold maxLen; omega
  case c4 => omega
  case c5 => simp; omega
  intro v' w' ho hgr _
  have H1 := hideIt (show Wrote base w n xs [45] v' w' from ⟨ho, (bfr_new (World.grownBy_alloc w _ none)).trans (bfr_of_grown (HN.out.alloc _) hgr)⟩)
  have hsz := hgr.size
  have HC := hideIt (appendUint85 base (n + 1) m (by omega) v' _ w' ho (by simp at hsz; omega) (by omega))
  clear ho hgr hsz
  go_wp2_with (go_at_call 165; refine HC.out.mono ?_; rintro e w2 ⟨v2, rfl, h2⟩)
  have H2 := hideIt h2
  clear h2
  go_wp2
  go_ret
  exact ⟨v2, rfl, H1.out.then H2.out⟩

set_option maxHeartbeats 1000000 in
theorem appendInt36 (base n : Nat) (x : Int) (hx : -9223372036854775808 ≤ x ∧ x < 9223372036854775808) (sv : Value) (xs : List Value) (w : World) (hown : w.ownsRow base 5 1 sv n xs) (hbase : base ≤ w.heap.size) (hlim : n + 30 ≤ 1000000) :
    Calls Tryz.prog 157 #[sv, .int .i64 x, .int .i64 36] w fun e w' => ∃ v', e = .returned v' ∧ Wrote base w n xs (n36 x) v' w' := by
  have HC : Hid (Calls Tryz.prog 166 #[sv, .int .i64 x, .int .i64 36] w fun e w' => ∃ v', e = .returned v' ∧ Wrote base w n xs (n36 x) v' w') := by
    by_cases h0 : x < 0
    · obtain ⟨m, rfl⟩ : ∃ m : Nat, x = -(m : Int) := ⟨(-x).toNat, by omega⟩
      rw [n36_neg (by omega)]
      exact appendInt_neg base n m (by omega) (by omega) sv xs w hown hbase hlim
    · obtain ⟨m, rfl⟩ : ∃ m : Nat, x = (m : Int) := ⟨x.toNat, by omega⟩
      rw [n36_nat]
      exact appendInt_nat base n m (by omega) sv xs w hown hbase hlim
  clear hown
  go_enter Tryz.func157, Tryz.ntmps157
  go_wp2_with (go_at_call 166; refine HC.out.mono ?_; rintro e w' ⟨v', rfl, h1⟩)
  have H1 := hideIt h1
  clear h1
  go_wp2
  go_ret
  exact ⟨v', rfl, H1.out⟩
end Go.Proofs.YtncnojgemmcplaaGreatDoor

namespace Go.Proofs.YtncnojgemmcplaaGreatDoor
open Go.RowKit
open Go.Maps (Keyed string_keyed IsMap)

/-! What hangs on one block alone. -/
theorem RowAt.same {w w' : World} {base : Nat} {v : Value} {st : List Int} (h : RowAt w base v st) (hs : ∀ b, v.ownBlock = some b → w'.heap[b]? = w.heap[b]?) : RowAt w' base v st := by
  rcases h with h | ⟨g, off, cap, cur, rfl, hb, hh, h1, h2, h4, h5⟩
  · exact .inl h
  · have e := hs g rfl
    exact .inr ⟨g, off, cap, cur, rfl, hb, e.trans hh, h1, h2, h4, fun j hj => (World.cell?_of_block (a := ⟨g, off + j, none⟩) e).trans (h5 j hj)⟩
theorem ownsRow_same {w w' : World} {base : Nat} {e : TypeId} {size : Nat} {v : Value} {n : Nat} {xs : List Value} (h : w.ownsRow base e size v n xs) (hs : ∀ b, v.ownBlock = some b → w'.heap[b]? = w.heap[b]?) : w'.ownsRow base e size v n xs := by
  obtain ⟨hl, h | ⟨g, cap, cur, rfl, hb, hh, h1⟩⟩ := h
  · exact ⟨hl, .inl h⟩
  · exact ⟨hl, .inr ⟨g, cap, cur, rfl, hb, (hs g rfl).trans hh, h1⟩⟩
theorem ownsMap_same {w w' : World} {k : TypeId} {R : Value → Option (DataW Unit × List MemPlace)} {b n : Nat} {D : DataW Unit} (h : w.ownsMap Tryz.prog k R b n D) (hs : w'.heap[b]? = w.heap[b]?) : w'.ownsMap Tryz.prog k R b n D := by
  obtain ⟨es, clock, hb, h⟩ := h
  exact ⟨es, clock, hs.trans hb, h⟩
theorem RowAt.block {w : World} {base : Nat} {v : Value} {st : List Int} (h : RowAt w base v st) : ∀ b, v.ownBlock = some b → base ≤ b ∧ b < w.heap.size ∧ ∃ cur, w.heap[b]? = some (.cells cur 3 (0, 0)) := by
  intro b hb
  have hl := h.lt b hb
  rcases h with ⟨rfl, _⟩ | ⟨g, off, cap, cur, rfl, _, hh, _⟩
  · cases hb
  · obtain rfl : g = b := by simpa [Value.ownBlock] using hb
    exact ⟨hl.1, hl.2, cur, hh⟩
theorem ownsRow_block {w : World} {base : Nat} {e : TypeId} {size : Nat} {v : Value} {n : Nat} {xs : List Value} (h : w.ownsRow base e size v n xs) : ∀ b, v.ownBlock = some b → base ≤ b ∧ b < w.heap.size ∧ ∃ cur, w.heap[b]? = some (.cells cur e (0, 0)) := by
  intro b hb
  have hl := h.lt b hb
  obtain ⟨_, ⟨rfl, _⟩ | ⟨g, cap, cur, rfl, _, hh, _⟩⟩ := h
  · cases hb
  · obtain rfl : g = b := by simpa [Value.ownBlock] using hb
    exact ⟨hl.1, hl.2, cur, hh⟩

/-! The set of names. -/
theorem keyedS : Keyed Tryz.prog 9 := string_keyed Tryz.underlying9
theorem zeroU (w : World) : (zeroValue 223).run Tryz.prog w = .ok (.agg #[]) w := by kernel_rfl
def strV (l : List UInt8) : Value := .string ⟨l.toArray⟩
theorem keyS (l : List UInt8) (h : l.length ≤ 100000) : keyOf Tryz.prog 9 (strV l) = some (.string l) := by
  have := WideMaps.keyOf_string_mk (P := Tryz.prog) (k := 9) Tryz.underlying9 (s := ⟨l.toArray⟩) (by show l.toArray.size ≤ maxLen; simp; unfold maxLen; omega)
  simpa [strV] using this
theorem isKeyS (l : List UInt8) : WideAt.IsKeyLit (.string l) := by simp [WideAt.IsKeyLit]

def SetS (w : World) (M : Nat) (ent : List (List UInt8)) : Prop :=
  ∃ D : DataW Unit, w.ownsMap Tryz.prog 9 (unitElem (H := Unit)) M ent.length D ∧ (∀ l, Maps.has D (.string l) = ent.contains l) ∧ Maps.size D = ent.length
theorem SetS.same {w w' : World} {M : Nat} {ent : List (List UInt8)} (h : SetS w M ent) (hs : w'.heap[M]? = w.heap[M]?) : SetS w' M ent := by
  obtain ⟨D, h1, h2⟩ := h
  exact ⟨D, ownsMap_same h1 hs, h2⟩
theorem SetS.isMap {w : World} {M : Nat} {ent : List (List UInt8)} (h : SetS w M ent) : ∃ es clock, w.heap[M]? = some (.map es clock) := by
  obtain ⟨D, ⟨es, clock, hb, _⟩, _⟩ := h
  exact ⟨es, clock, hb⟩
theorem setS_made (w : World) : SetS (w.alloc (.map #[] 0)) w.heap.size [] :=
  ⟨_, World.ownsMap_made w Tryz.prog 9 _, fun _ => rfl, rfl⟩
theorem SetS.look {w : World} {M : Nat} {ent : List (List UInt8)} (h : SetS w M ent) (l : List UInt8) (hl : l.length ≤ 100000) :
    (Instr.lookup 159 (.map (some M)) (strV l) true).run Tryz.prog w = .ok (.tuple #[.agg #[], .bool (ent.contains l)]) w := by
  obtain ⟨D, h1, h2, _⟩ := h
  obtain ⟨v, ps, hrun, hv⟩ := h1.look_ok keyedS Tryz.underlying159 (zeroU w) unitElem_mk (keyS l hl)
  obtain ⟨rfl, _⟩ := unitElem_inv hv
  rw [← h2 l]; exact hrun
theorem SetS.len {w : World} {M : Nat} {ent : List (List UInt8)} (h : SetS w M ent) (ty : TypeId) : (Builtin.len_ #[159] ty #[.map (some M)]).run Tryz.prog w = .ok (.int .i64 (ent.length : Int)) w := by
  obtain ⟨D, h1, _, h3⟩ := h
  have := h1.len Tryz.underlying159 ty
  rw [h3] at this; exact this
theorem SetS.store {w : World} {M : Nat} {ent : List (List UInt8)} (h : SetS w M ent) (hn : ent.length < 2000000) (l : List UInt8) (hl : l.length ≤ 100000) (hnew : ent.contains l = false) :
    ∃ w', (Instr.mapUpdate 159 (.map (some M)) (strV l) (.agg #[])).run Tryz.prog w = .ok () w' ∧ SetS w' M (l :: ent) ∧ w.grownBy w' (some M) := by
  obtain ⟨D, h1, h2, h3⟩ := h
  obtain ⟨w', hrun, ho, ht⟩ := h1.store keyedS Tryz.underlying159 (by unfold maxLen; omega) (keyS l hl) unitElem_mk
  refine ⟨w', hrun, ⟨_, ho, fun m => ?_, ?_⟩, ht.grown⟩
  · by_cases e : m = l
    · subst e
      rw [Maps.has_put_same h1.isMap (isKeyS m)]
      simp
    · have hne : (Lit.string m) ≠ .string l := fun k => e (by simpa using k)
      rw [Maps.has_put_other hne, h2 m, List.contains_cons]
      simp [e]
  · rw [Maps.size_put (h1.tidy keyedS), h2 l, hnew, h3]; rfl

/-- What stays as it is all along a search. -/
structure Par where
  o : Int
  ops : List Opn
  ah : Opn → Opn → Bool
  bud : Nat
  u : Value
  fn : Value
  wv : Value
  b0 : Nat
  B : Nat
  M : Nat

def Par.sr (p : Par) : Sr := ⟨p.o, p.ops, p.ah, p.bud, nameB⟩

/-- The search's own block. -/
def blkA (p : Par) (done : Nat) (vs : Nat → Value) (ov nv : Value) : Array Value :=
  #[.int .i64 p.o, p.u, .int .i64 p.bud, p.fn, p.wv, .int .u64 (maskN (endL p.ops)), .map (some p.M), .int .u64 done, vs 0, vs 1, vs 2, vs 3, vs 4, vs 5, vs 6, vs 7, ov, nv]

def ordV (ord : List Nat) : List Value := ord.map fun n : Nat => .int .i64 (n : Int)

/-- What must be ahead of what, in memory. -/
def WaitsAt (p : Par) (w : World) : Prop :=
  ∃ Wb cur, p.wv = .slice (some ⟨Wb, 0, none⟩) p.ops.length p.ops.length ∧ p.b0 ≤ Wb ∧ w.heap[Wb]? = some (.cells cur 161 (0, 0)) ∧ ∀ i, i < p.ops.length → w.cell? ⟨Wb, i, none⟩ = some (.int .u64 (maskN (waitL p.ops p.ah i)))

structure SearchAt (p : Par) (w : World) (ord : List Nat) (S : Int → List Int) (vs : Nat → Value) (ov nv : Value) (ent : List (List UInt8)) : Prop where
  blk : w.heap[p.B]? = some (.cells (blkA p (maskN ord) vs ov nv) 167 (0, 0))
  rows : ∀ k, k < 8 → RowAt w p.b0 (vs k) (S k)
  sep : ∀ k, k < 8 → ∀ b, (vs k).ownBlock = some b → ov.ownBlock ≠ some b
  ordr : w.ownsRow p.b0 3 1 ov ord.length (ordV ord)
  name : ∃ n xs, w.ownsRow p.b0 5 1 nv n xs
  set : SetS w p.M ent
  waits : WaitsAt p w
  ops : OpsIn w p.u p.ops
  opsb : ∀ a n c, p.u = .slice (some a) n c → 0 < n → a.block < p.b0
  known : KnownAt w
  b0pos : 0 < p.b0
  b0B : p.b0 ≤ p.B
  b0M : p.b0 ≤ p.M

/-- What a part of the search may turn: its own block, the set, the order's row, rows of bytes, and what is new. -/
structure VFr (p : Par) (ov : Value) (w : World) (ov' : Value) (w' : World) : Prop where
  os : w'.os = w.os
  tape : w'.tape = w.tape
  output : w'.output = w.output
  size : w.heap.size ≤ w'.heap.size
  same : ∀ k, k < w.heap.size → k ≠ p.B → k ≠ p.M → ov.ownBlock ≠ some k → (k < p.b0 ∨ ∀ c fz, w.heap[k]? ≠ some (.cells c 5 fz)) → w'.heap[k]? = w.heap[k]?
  ovn : ∀ b, ov'.ownBlock = some b → ov.ownBlock = some b ∨ w.heap.size ≤ b

theorem VFr.trans {p : Par} {ov ov1 ov2 : Value} {w w1 w2 : World} (h : VFr p ov w ov1 w1) (k : VFr p ov1 w1 ov2 w2) : VFr p ov w ov2 w2 := by
  refine ⟨k.os.trans h.os, k.tape.trans h.tape, k.output.trans h.output, Nat.le_trans h.size k.size, fun i hi hB hM ho hb => ?_, fun b hb => ?_⟩
  · have e := h.same i hi hB hM ho hb
    rw [k.same i (Nat.lt_of_lt_of_le hi h.size) hB hM (fun e1 => by
      rcases h.ovn i e1 with e2 | e2
      · exact ho e2
      · omega) (hb.imp id (fun hb c fz => by rw [e]; exact hb c fz)), e]
  · rcases k.ovn b hb with e | e
    · exact h.ovn b e
    · exact .inr (Nat.le_trans h.size e)
theorem vfr_grown {p : Par} {ov : Value} {w w' : World} (h : w.grownBy w' none) : VFr p ov w ov w' :=
  ⟨h.os, h.tape, h.output, h.size, fun k hk _ _ _ _ => h.block k hk (by simp), fun _ h => .inl h⟩
theorem vfr_bfr {p : Par} {ov : Value} {w w' : World} (h : BFr p.b0 w w') : VFr p ov w ov w' :=
  ⟨h.os, h.tape, h.output, h.size, fun k hk _ _ _ hb => h.block k hk (fun ⟨h1, c, fz, h2⟩ => by
    rcases hb with hb | hb
    · omega
    · exact hb c fz h2), fun _ h => .inl h⟩
theorem vfr_map {p : Par} {ov : Value} {w w' : World} (h : w.grownBy w' (some p.M)) : VFr p ov w ov w' :=
  ⟨h.os, h.tape, h.output, h.size, fun k hk _ hM _ _ => h.block k hk (fun e => hM (Option.some.inj e)), fun _ h => .inl h⟩
theorem vfr_set {p : Par} {ov ov' : Value} {w : World} (i : Nat) (x : Value) (ho : ∀ b, ov'.ownBlock = some b → ov.ownBlock = some b ∨ w.heap.size ≤ b) : VFr p ov w ov' (w.setCell ⟨p.B, i, none⟩ x) :=
  ⟨rfl, rfl, rfl, by simp [World.setCell], fun k _ hB _ _ _ => Below.heap_setCell _ _ _ _ hB, ho⟩

/-- Below the first block of the search nothing turns. -/
theorem VFr.below {p : Par} {ov ov' : Value} {w w' : World} (h : VFr p ov w ov' w') (hB : p.b0 ≤ p.B) (hM : p.b0 ≤ p.M) (ho : ∀ b, ov.ownBlock = some b → p.b0 ≤ b) (hs : p.b0 ≤ w.heap.size) : Below p.b0 w w' :=
  ⟨h.os, h.tape, h.output, h.size, fun k hk => h.same k (by omega) (by omega) (by omega) (fun e => by have := ho k e; omega) (.inl hk)⟩
/-- A state that is not the order's row stays. -/
theorem VFr.row {p : Par} {ov ov' : Value} {w w' : World} (h : VFr p ov w ov' w') {v : Value} {st : List Int} (hr : RowAt w p.b0 v st) (hB : ∃ c fz, w.heap[p.B]? = some (.cells c 167 fz)) (hM : ∃ es clock, w.heap[p.M]? = some (.map es clock))
    (ho : ∀ b, v.ownBlock = some b → ov.ownBlock ≠ some b) : RowAt w' p.b0 v st := by
  refine hr.same fun b hb => ?_
  obtain ⟨_, hlt, cur, hc⟩ := hr.block b hb
  refine h.same b hlt ?_ ?_ (ho b hb) (.inr fun c fz e => by rw [hc] at e; simp at e)
  · rintro rfl; obtain ⟨c, fz, e⟩ := hB; rw [hc] at e; simp at e
  · rintro rfl; obtain ⟨c, fz, e⟩ := hM; rw [hc] at e; simp at e
theorem VFr.waits {p : Par} {ov ov' : Value} {w w' : World} (h : VFr p ov w ov' w') (hw : WaitsAt p w) (hB : ∃ c fz, w.heap[p.B]? = some (.cells c 167 fz)) (hM : ∃ es clock, w.heap[p.M]? = some (.map es clock))
    (ho : ∀ b, ov.ownBlock = some b → ∃ c fz, w.heap[b]? = some (.cells c 3 fz)) : WaitsAt p w' := by
  obtain ⟨Wb, cur, e1, e2, e3, e4⟩ := hw
  have e : w'.heap[Wb]? = w.heap[Wb]? := by
    refine h.same Wb (lt_of_heap e3) ?_ ?_ ?_ (.inr fun c fz e => by rw [e3] at e; simp at e)
    · rintro rfl; obtain ⟨c, fz, e⟩ := hB; rw [e3] at e; simp at e
    · rintro rfl; obtain ⟨c, fz, e⟩ := hM; rw [e3] at e; simp at e
    · intro e; obtain ⟨c, fz, e'⟩ := ho Wb e; rw [e3] at e'; simp at e'
  exact ⟨Wb, cur, e1, e2, e.trans e3, fun i hi => (World.cell?_of_block (a := ⟨Wb, i, none⟩) e).trans (e4 i hi)⟩

/-- All but some blocks as they were. -/
structure Tch (T : Nat → Prop) (w w' : World) : Prop where
  os : w'.os = w.os
  tape : w'.tape = w.tape
  output : w'.output = w.output
  size : w.heap.size ≤ w'.heap.size
  same : ∀ k, k < w.heap.size → ¬ T k → w'.heap[k]? = w.heap[k]?
theorem Tch.trans {T : Nat → Prop} {a b c : World} (h : Tch T a b) (k : Tch T b c) : Tch T a c :=
  ⟨k.os.trans h.os, k.tape.trans h.tape, k.output.trans h.output, Nat.le_trans h.size k.size, fun i hi hT => (k.same i (Nat.lt_of_lt_of_le hi h.size) hT).trans (h.same i hi hT)⟩
theorem tch_grown {T : Nat → Prop} {w w' : World} {row : Option Nat} (h : w.grownBy w' row) (ht : ∀ k, row = some k → T k) : Tch T w w' :=
  ⟨h.os, h.tape, h.output, h.size, fun k hk hT => h.block k hk (fun e => hT (ht k e.symm))⟩
theorem tch_set {T : Nat → Prop} {w : World} {a : Addr} (x : Value) (ht : T a.block) : Tch T w (w.setCell a x) :=
  ⟨rfl, rfl, rfl, by simp [World.setCell], fun k _ hT => Below.heap_setCell _ _ _ _ (fun e => hT (e ▸ ht))⟩
theorem Tch.drew {T : Nat → Prop} {w w' : World} (h : Tch T w w') : Tch T w w'.drew := ⟨h.os, h.tape, h.output, h.size, h.same⟩

def OwnT (p : Par) (ov : Value) (k : Nat) : Prop := k = p.B ∨ ov.ownBlock = some k
theorem vfr_tch {p : Par} {ov ov' : Value} {w w' : World} (h : Tch (OwnT p ov) w w') (ho : ∀ b, ov'.ownBlock = some b → ov.ownBlock = some b ∨ w.heap.size ≤ b) : VFr p ov w ov' w' :=
  ⟨h.os, h.tape, h.output, h.size, fun k hk hB _ hv _ => h.same k hk (fun e => e.elim hB hv), ho⟩

/-- What does not lie in the order's row, nor is the search's own block. -/
theorem SearchAt.others {p : Par} {w w' : World} {ord : List Nat} {S : Int → List Int} {vs : Nat → Value} {ov nv : Value} {ent : List (List UInt8)} (h : SearchAt p w ord S vs ov nv ent) (ht : Tch (OwnT p ov) w w') :
    ∀ b c t, w.heap[b]? = some (.cells c t (0, 0)) → t ≠ 167 → (t = 3 → ov.ownBlock ≠ some b) → w'.heap[b]? = w.heap[b]? := by
  intro b c t hb h79 h3
  refine ht.same b (lt_of_heap hb) (fun e => ?_)
  rcases e with rfl | e
  · rw [h.blk] at hb; simp at hb; exact h79 hb.2.symm
  · obtain ⟨_, _, cur, hc⟩ := ownsRow_block h.ordr b e
    rw [hb] at hc
    simp at hc
    exact h3 hc.2 e
theorem SearchAt.blkd {p : Par} {w : World} {ord : List Nat} {S : Int → List Int} {vs : Nat → Value} {ov nv : Value} {ent : List (List UInt8)} (h : SearchAt p w ord S vs ov nv ent) : ∃ c fz, w.heap[p.B]? = some (.cells c 167 fz) := ⟨_, _, h.blk⟩

/-- The search behind what turned its own block and the order's row alone. -/
theorem SearchAt.after {p : Par} {w w' : World} {ord ord' : List Nat} {S S' : Int → List Int} {vs vs' : Nat → Value} {ov ov' nv : Value} {ent : List (List UInt8)} (h : SearchAt p w ord S vs ov nv ent) (ht : Tch (OwnT p ov) w w')
    (hblk : w'.heap[p.B]? = some (.cells (blkA p (maskN ord') vs' ov' nv) 167 (0, 0))) (hord : w'.ownsRow p.b0 3 1 ov' ord'.length (ordV ord')) (hov : ∀ b, ov'.ownBlock = some b → ov.ownBlock = some b ∨ w.heap.size ≤ b)
    (hrow : ∀ k, k < 8 → RowAt w p.b0 (vs' k) (S' k)) (hsep : ∀ k, k < 8 → ∀ b, (vs' k).ownBlock = some b → ov.ownBlock ≠ some b) : SearchAt p w' ord' S' vs' ov' nv ent := by
  have hs : p.b0 ≤ w.heap.size := by have := lt_of_heap h.blk; have := h.b0B; omega
  have hbel : Below p.b0 w w' := ⟨ht.os, ht.tape, ht.output, ht.size, fun k hk => ht.same k (by omega) (fun e => by
    rcases e with rfl | e
    · have := h.b0B; omega
    · have := (h.ordr.lt k e).1; omega)⟩
  refine ⟨hblk, fun k hk => (hrow k hk).same fun b hb => ?_, fun k hk b hb e => ?_, hord, ?_, ?_, ?_, ?_, h.opsb, ?_, h.b0pos, h.b0B, h.b0M⟩
  · obtain ⟨_, _, cur, hc⟩ := (hrow k hk).block b hb
    exact h.others ht b cur 3 hc (by decide) (fun _ => hsep k hk b hb)
  · rcases hov b e with e | e
    · exact hsep k hk b hb e
    · have := ((hrow k hk).lt b hb).2; omega
  · obtain ⟨n, xs, hn⟩ := h.name
    refine ⟨n, xs, ownsRow_same hn fun b hb => ?_⟩
    obtain ⟨_, _, cur, hc⟩ := ownsRow_block hn b hb
    exact h.others ht b cur 5 hc (by decide) (fun e => by cases e)
  · refine h.set.same (ht.same p.M ?_ (fun e => ?_))
    · obtain ⟨es, clock, hm⟩ := h.set.isMap; exact lt_of_heap hm
    · obtain ⟨es, clock, hm⟩ := h.set.isMap
      rcases e with e | e
      · rw [e, h.blk] at hm; cases hm
      · obtain ⟨_, _, cur, hc⟩ := ownsRow_block h.ordr p.M e
        rw [hc] at hm; cases hm
  · exact (vfr_tch ht hov).waits h.waits h.blkd h.set.isMap (fun b hb => by obtain ⟨_, _, cur, hc⟩ := ownsRow_block h.ordr b hb; exact ⟨_, _, hc⟩)
  · obtain ⟨a, cap, e, hc, hm, ho⟩ := h.ops
    refine ⟨a, cap, e, hc, hm, ?_⟩
    rcases ho with ho | ⟨b, off, rfl, hlt, ho⟩
    · exact .inl ho
    · by_cases h0 : p.ops = []
      · exact .inl h0
      · have hb0 : b < p.b0 := h.opsb ⟨b, off, none⟩ _ _ e (List.length_pos_iff.2 h0)
        exact .inr ⟨b, off, rfl, Nat.lt_of_lt_of_le hlt ht.size, ho.below hb0 hbel⟩
  · exact h.known.below h.b0pos hbel

end Go.Proofs.YtncnojgemmcplaaGreatDoor

namespace Go.Proofs.YtncnojgemmcplaaGreatDoor
open Go.RowKit

theorem blk_cells {p : Par} {w : World} {done : Nat} {vs : Nat → Value} {ov nv : Value} (h : w.heap[p.B]? = some (.cells (blkA p done vs ov nv) 167 (0, 0))) (i : Nat) : w.cell? ⟨p.B, i, none⟩ = (blkA p done vs ov nv)[i]? := cell_of_row w _ _ _ 167 (0, 0) h
theorem blk_fz {p : Par} {w : World} {cs : Array Value} (h : w.heap[p.B]? = some (.cells cs 167 (0, 0))) (i : Nat) : w.frozen? ⟨p.B, i, none⟩ = false := frozen_of_row w _ _ _ 167 h
theorem blk_set {p : Par} {w : World} {cs : Array Value} (h : w.heap[p.B]? = some (.cells cs 167 (0, 0))) (i : Nat) (x : Value) : (w.setCell ⟨p.B, i, none⟩ x).heap[p.B]? = some (.cells (cs.setIfInBounds i x) 167 (0, 0)) := by
  simp [World.setCell, Array.getElem?_modify, h]

def setV (vs : Nat → Value) (q : Nat) (x : Value) : Nat → Value := fun k => if k = q then x else vs k
theorem blkA_done (p : Par) (done d' : Nat) (vs : Nat → Value) (ov nv : Value) : (blkA p done vs ov nv).setIfInBounds 7 (.int .u64 d') = blkA p d' vs ov nv := rfl
theorem blkA_ord (p : Par) (done : Nat) (vs : Nat → Value) (ov ov' nv : Value) : (blkA p done vs ov nv).setIfInBounds 16 ov' = blkA p done vs ov' nv := rfl
theorem blkA_name (p : Par) (done : Nat) (vs : Nat → Value) (ov nv nv' : Value) : (blkA p done vs ov nv).setIfInBounds 17 nv' = blkA p done vs ov nv' := rfl
theorem blkA_key (p : Par) (done : Nat) (vs : Nat → Value) (ov nv : Value) (q : Nat) (hq : q < 8) (x : Value) : (blkA p done vs ov nv).setIfInBounds (8 + q) x = blkA p done (setV vs q x) ov nv := by
  match q, hq with
  | 0, _ => rfl
  | 1, _ => rfl
  | 2, _ => rfl
  | 3, _ => rfl
  | 4, _ => rfl
  | 5, _ => rfl
  | 6, _ => rfl
  | 7, _ => rfl
theorem blkA_vs (p : Par) (done : Nat) (vs : Nat → Value) (ov nv : Value) (q : Nat) (hq : q < 8) : (blkA p done vs ov nv)[8 + q]? = some (vs q) := by
  match q, hq with
  | 0, _ => rfl
  | 1, _ => rfl
  | 2, _ => rfl
  | 3, _ => rfl
  | 4, _ => rfl
  | 5, _ => rfl
  | 6, _ => rfl
  | 7, _ => rfl

/-- An op's place in memory, from the search. -/
theorem ops_cell {p : Par} {w : World} (h : OpsIn w p.u p.ops) (hb : ∀ a n c, p.u = .slice (some a) n c → 0 < n → a.block < p.b0) {n : Nat} (hn : n < p.ops.length) :
    ∃ bo offo cap, p.u = .slice (some ⟨bo, offo, none⟩) p.ops.length cap ∧ bo < p.b0 ∧ ∀ w', Below p.b0 w w' → OpAt w' bo (offo + n * 8) p.ops[n] := by
  obtain ⟨a, cap, e, hc, hm, h⟩ := h
  rcases h with h | ⟨b, off, rfl, hlt, h⟩
  · rw [h] at hn; simp at hn
  · have hb0 : b < p.b0 := hb ⟨b, off, none⟩ _ _ e (by omega)
    exact ⟨b, off, cap, e, hb0, fun w' hw => (h n hn).below hb0 hw⟩

theorem RowAt.slice {w : World} {base : Nat} {v : Value} {st : List Int} (h : RowAt w base v st) : ∃ a l c, v = .slice a l c := by
  rcases h with ⟨rfl, _⟩ | ⟨g, off, cap, cur, rfl, _⟩
  · exact ⟨_, _, _, rfl⟩
  · exact ⟨_, _, _, rfl⟩
theorem ownsRow_slice {w : World} {base : Nat} {e : TypeId} {size : Nat} {v : Value} {n : Nat} {xs : List Value} (h : w.ownsRow base e size v n xs) : ∃ a c, v = .slice a n c := by
  obtain ⟨_, ⟨rfl, rfl⟩ | ⟨g, cap, cur, rfl, _⟩⟩ := h
  · exact ⟨_, _, rfl⟩
  · exact ⟨_, _, rfl⟩

/-- What do and undo leave. -/
def DoTold (p : Par) (w : World) (ord' : List Nat) (S' : Int → List Int) (vs' : Nat → Value) (ov nv : Value) (ent : List (List UInt8)) (e : Ending) (w' : World) : Prop :=
  ∃ ov', e = .returned (.tuple #[]) ∧ SearchAt p w' ord' S' vs' ov' nv ent ∧ VFr p ov w ov' w'

theorem rows_set {p : Par} {w : World} {S : Int → List Int} {vs : Nat → Value} {nx : Value} {st : List Int} {q : Nat} (h : ∀ k, k < 8 → RowAt w p.b0 (vs k) (S k)) (hx : RowAt w p.b0 nx st) : ∀ k : Nat, k < 8 → RowAt w p.b0 (setV vs q nx k) (setK S (q : Int) st k) := by
  intro k hk
  by_cases e : k = q
  · subst e; rw [setK_same]; simpa [setV] using hx
  · rw [setK_other _ _ _ _ (by omega)]; simpa [setV, e] using h k hk
theorem sep_set {vs : Nat → Value} {nx ov : Value} {q : Nat} (h : ∀ k, k < 8 → ∀ b, (vs k).ownBlock = some b → ov.ownBlock ≠ some b) (hx : ∀ b, nx.ownBlock = some b → ov.ownBlock ≠ some b) : ∀ k : Nat, k < 8 → ∀ b, (setV vs q nx k).ownBlock = some b → ov.ownBlock ≠ some b := by
  intro k hk b
  by_cases e : k = q
  · subst e; simpa [setV] using hx b
  · simpa [setV, e] using h k hk b

set_option maxRecDepth 100000 in
set_option maxHeartbeats 4000000 in
theorem do_any (p : Par) (n q : Nat) (ord : List Nat) (S : Int → List Int) (vs : Nat → Value) (ov nv nx : Value) (ent : List (List UInt8)) (st : List Int) (w : World) (h : SearchAt p w ord S vs ov nv ent)
    (hn : n < p.ops.length) (hlen : p.ops.length ≤ 60) (hkq : (opN p.ops n).k = (q : Int)) (hq : q < 8) (hord : ∀ m ∈ ord, m < 60) (hol : ord.length ≤ 60) (hnx : RowAt w p.b0 nx st) (hsep : ∀ b, nx.ownBlock = some b → ov.ownBlock ≠ some b) :
    Calls Tryz.prog 141 #[.pointer (some ⟨p.B, 0, none⟩), .int .i64 n, nx] w fun e w' => DoTold p w (ord ++ [n]) (setK S (q : Int) st) (setV vs q nx) ov nv ent e w' := by
  have hml : maskN ord < 18446744073709551616 := maskN_lt (fun m hm => by have := hord m hm; omega)
  obtain ⟨pw, hp, hcall⟩ := bit_call n (by omega)
  have HC := hideIt hcall
  have R1 : Hid (bits .or .u64 (maskN ord : Int) (pw : Int) = (maskN (ord ++ [n]) : Int)) := hideIt (by rw [hp, or_bits hml (by omega), or_bit])
  have b7 : w.cell? ⟨p.B, 7, none⟩ = some (.int .u64 (maskN ord)) := blk_cells h.blk 7
  have f7 := blk_fz h.blk 7
  obtain ⟨bo, offo, cap, hu, hbo, hop⟩ := ops_cell h.ops h.opsb hn
  obtain ⟨i3, hi3, hz3, hs3, hb3⟩ := info_parts info3
  obtain ⟨na, nl, nc, rfl⟩ := hnx.slice
  have HH := hideIt h
  have HU := hideIt hu
  have HX := hideIt hnx
  have HSP := hideIt hsep
  have HKQ := hideIt hkq
  rw [opN_at hn] at hkq
  -- behind the first region
  have h1 : Hid (∀ W1, W1 = (w.setCell ⟨p.B, 7, none⟩ (.int .u64 (bits .or .u64 (maskN ord : Int) (pw : Int)))).drew → (W1.heap[p.B]? = some (.cells (blkA p (maskN (ord ++ [n])) vs ov nv) 167 (0, 0)) ∧ Tch (OwnT p ov) w W1)
      ∧ (∀ b, ov.ownBlock = some b → b ≠ p.B → W1.heap[b]? = w.heap[b]?)
      ∧ W1.cell? ⟨p.B, 1, none⟩ = some (.slice (some ⟨bo, offo, none⟩) p.ops.length cap) ∧ W1.cell? ⟨bo, offo + n * 8 + 1, none⟩ = some (.int .i64 q) ∧ W1.frozen? ⟨p.B, 8 + q, none⟩ = false ∧ ∃ x, W1.cell? ⟨p.B, 8 + q, none⟩ = some x) := hideIt (fun W1 e => by
    subst e
    have hb : (w.setCell ⟨p.B, 7, none⟩ (.int .u64 (bits .or .u64 (maskN ord : Int) (pw : Int)))).drew.heap[p.B]? = some (.cells (blkA p (maskN (ord ++ [n])) vs ov nv) 167 (0, 0)) := by
      rw [R1.out]; exact (blk_set h.blk 7 _).trans (by rw [blkA_done])
    have hf : Tch (OwnT p ov) w (w.setCell ⟨p.B, 7, none⟩ (.int .u64 (bits .or .u64 (maskN ord : Int) (pw : Int)))).drew := (tch_set (a := ⟨p.B, 7, none⟩) _ (.inl rfl)).drew
    refine ⟨⟨hb, hf⟩, fun b _ hne => Below.heap_setCell _ _ _ _ hne, ?_, ?_, blk_fz hb _, vs q, ?_⟩
    · rw [blk_cells hb 1]; show some p.u = _; rw [hu]
    · have := (hop _ ((vfr_tch hf (fun _ h => .inl h)).below h.b0B h.b0M (fun b e => (h.ordr.lt b e).1) (by have := lt_of_heap h.blk; have := h.b0B; omega))).2.1
      rw [hkq] at this; exact this
    · rw [blk_cells hb, blkA_vs _ _ _ _ _ _ hq])
  clear hp hcall hop hu hnx hkq h hsep
  have n1 : (0 : Int) ≤ (n : Int) := by omega
  have n2 : (n : Int) < (p.ops.length : Int) := by omega
  have q1 : (0 : Int) ≤ (q : Int) := by omega
  have q2 : (q : Int) < 8 := by omega
  go_enter Tryz.func141, Tryz.ntmps141
  go_wp2_with fail
  go_region_with (go_at_call 136; refine (HC.out _).mono ?_; rintro e w' ⟨rfl, rfl⟩)
  all_goals
    generalize hW1 : (w.setCell ⟨p.B, 7, none⟩ (.int .u64 (bits .or .u64 (maskN ord : Int) (pw : Int)))).drew = W1
    obtain ⟨HB1, HO1, c1, c2, c3, x, c4⟩ := h1.out W1 hW1.symm
    have HB1 := hideIt HB1
    have HO1 := hideIt HO1
    clear hW1 b7 f7
    go_wp2_with fail
    go_region
  all_goals
    generalize hW2 : (W1.setCell ⟨p.B, 8 + q, none⟩ (.slice na nl nc)).drew = W2
    have hB2 : W2.heap[p.B]? = some (.cells (blkA p (maskN (ord ++ [n])) (setV vs q (.slice na nl nc)) ov nv) 167 (0, 0)) := by
      rw [← hW2]; exact (blk_set HB1.out.1 (8 + q) _).trans (by rw [blkA_key _ _ _ _ _ _ hq])
    have hT2 : Tch (OwnT p ov) w W2 := by
      rw [← hW2]; exact HB1.out.2.trans (tch_set (a := ⟨p.B, 8 + q, none⟩) _ (.inl rfl)).drew
    have hO2 : W2.ownsRow p.b0 3 1 ov ord.length (ordV ord) := ownsRow_same HH.out.ordr fun b hb => by
      rw [← hW2]
      have hne : b ≠ p.B := by
        rintro rfl
        obtain ⟨_, _, cur, hc⟩ := ownsRow_block HH.out.ordr _ hb
        rw [HH.out.blk] at hc; simp at hc
      rw [show (W1.setCell ⟨p.B, 8 + q, none⟩ (.slice na nl nc)).drew.heap[b]? = W1.heap[b]? from Below.heap_setCell _ _ _ _ hne]
      exact HO1.out b hb hne
    have c5 : W2.cell? ⟨p.B, 16, none⟩ = some ov := blk_cells hB2 16
    have hs2 : p.b0 ≤ W2.heap.size := by have := lt_of_heap hB2; have := HH.out.b0B; omega
    have HB2 := hideIt hB2
    have HT2 := hideIt hT2
    have HO2 := hideIt hO2
    clear hW2 hB2 hT2 hO2 c1 c2 c3 c4
    go_wp2_with (at_builtin; refine wpList_append_own_at _ rfl _ _ 69 rfl p.b0 3 i3 (.int .i64 0) 1 8 Tryz.underlying69 hi3 hz3 hs3 hb3 rfl (by decide) ov ord.length (ordV ord) rfl (HO2.out.alloc _) ⟨W2.heap.size, 0, none⟩ 1 1 [.int .i64 n] rfl rfl (cell_one_new _ _ _) ?c2 ?c3 ?c4 ?c5 ?_)
    case c2 => intro u hu; simp at hu; subst hu; rfl
    case c3 => unfold maxLen; omega
    case c4 => omega
    case c5 => simp; omega
    intro v' w3 hown hgr _ hloc
    have hex := ownsRow_slice hown
    obtain ⟨va, vc, hv⟩ := hex
    have hg3 : W2.grownBy w3 ov.ownBlock := (World.grownBy_alloc W2 _ _).trans hgr
    have hT3 : Tch (OwnT p ov) w w3 := HT2.out.trans (tch_grown hg3 (fun k hk => .inr hk))
    have hne : some p.B ≠ ov.ownBlock := fun e => by
      obtain ⟨_, _, cur, hc⟩ := ownsRow_block HH.out.ordr _ e.symm
      rw [HH.out.blk] at hc; simp at hc
    have hB3 : w3.heap[p.B]? = some (.cells (blkA p (maskN (ord ++ [n])) (setV vs q (.slice na nl nc)) ov nv) 167 (0, 0)) := (hg3.block p.B (lt_of_heap HB2.out) hne).trans HB2.out
    have c6 : w3.cell? ⟨p.B, 16, none⟩ = some ov := blk_cells hB3 16
    have f6 := blk_fz hB3 16
    have hov : ∀ b, v'.ownBlock = some b → ov.ownBlock = some b ∨ w.heap.size ≤ b := fun b hb => by
      rcases hloc with e | e
      · exact .inl (e ▸ hb)
      · right
        rw [e] at hb
        have := HT2.out.size
        have : b = W2.heap.size + 1 := by simpa using (Option.some.inj hb).symm
        omega
    have hvB : v'.ownBlock ≠ some p.B := fun e => by
      rcases hov _ e with e1 | e1
      · exact hne e1.symm
      · have := lt_of_heap HH.out.blk; omega
    have HF : Hid (DoTold p w (ord ++ [n]) (setK S (q : Int) st) (setV vs q (.slice na nl nc)) ov nv ent (.returned (.tuple #[])) (w3.setCell ⟨p.B, 16, none⟩ v')) := hideIt ⟨v', rfl,
      HH.out.after (hT3.trans (tch_set (a := ⟨p.B, 16, none⟩) _ (.inl rfl))) ((blk_set hB3 16 v').trans (by rw [blkA_ord]))
        (by
          have : w3.ownsRow p.b0 3 1 v' (ord ++ [n]).length (ordV (ord ++ [n])) := by simpa [ordV] using hown
          exact ownsRow_same this fun b hb => Below.heap_setCell _ _ _ _ (fun e => hvB (by rw [← show b = p.B from e]; exact hb))) hov (rows_set HH.out.rows HX.out) (sep_set HH.out.sep HSP.out),
      vfr_tch (hT3.trans (tch_set (a := ⟨p.B, 16, none⟩) _ (.inl rfl))) hov⟩
    clear hown hgr hloc hg3 hT3 hB3 hov hvB hne c5
    subst hv
    go_wp2
    go_end0
    exact HF.out

end Go.Proofs.YtncnojgemmcplaaGreatDoor

namespace Go.Proofs.YtncnojgemmcplaaGreatDoor
open Go.RowKit

theorem keysB_snoc (S : Int → List Int) (ks : List Nat) (k : Nat) : keysB S (ks ++ [k]) = keysB S ks ++ 59 :: rowB (S k) := by simp [keysB]
theorem rowB_snoc (st : List Int) (x : Int) : rowB (st ++ [x]) = rowB st ++ (n36 x ++ [44]) := by simp [rowB]

theorem RowAt.bfr {w w' : World} {base b1 : Nat} {v : Value} {st : List Int} (h : RowAt w base v st) (hf : BFr b1 w w') : RowAt w' base v st := h.same fun b hb => by
  obtain ⟨_, hlt, cur, hc⟩ := h.block b hb
  exact hf.block b hlt (fun ⟨_, c, fz, e⟩ => by rw [hc] at e; simp at e)

theorem index8_0 (v0 v1 v2 v3 v4 v5 v6 v7 : Value) (w : World) : (Instr.index 162 (.agg #[v0, v1, v2, v3, v4, v5, v6, v7]) (.int .i64 (0 : Nat))).run Tryz.prog w = .ok v0 w := by kernel_rfl
theorem index8_1 (v0 v1 v2 v3 v4 v5 v6 v7 : Value) (w : World) : (Instr.index 162 (.agg #[v0, v1, v2, v3, v4, v5, v6, v7]) (.int .i64 (1 : Nat))).run Tryz.prog w = .ok v1 w := by kernel_rfl
theorem index8_2 (v0 v1 v2 v3 v4 v5 v6 v7 : Value) (w : World) : (Instr.index 162 (.agg #[v0, v1, v2, v3, v4, v5, v6, v7]) (.int .i64 (2 : Nat))).run Tryz.prog w = .ok v2 w := by kernel_rfl
theorem index8_3 (v0 v1 v2 v3 v4 v5 v6 v7 : Value) (w : World) : (Instr.index 162 (.agg #[v0, v1, v2, v3, v4, v5, v6, v7]) (.int .i64 (3 : Nat))).run Tryz.prog w = .ok v3 w := by kernel_rfl
theorem index8_4 (v0 v1 v2 v3 v4 v5 v6 v7 : Value) (w : World) : (Instr.index 162 (.agg #[v0, v1, v2, v3, v4, v5, v6, v7]) (.int .i64 (4 : Nat))).run Tryz.prog w = .ok v4 w := by kernel_rfl
theorem index8_5 (v0 v1 v2 v3 v4 v5 v6 v7 : Value) (w : World) : (Instr.index 162 (.agg #[v0, v1, v2, v3, v4, v5, v6, v7]) (.int .i64 (5 : Nat))).run Tryz.prog w = .ok v5 w := by kernel_rfl
theorem index8_6 (v0 v1 v2 v3 v4 v5 v6 v7 : Value) (w : World) : (Instr.index 162 (.agg #[v0, v1, v2, v3, v4, v5, v6, v7]) (.int .i64 (6 : Nat))).run Tryz.prog w = .ok v6 w := by kernel_rfl
theorem index8_7 (v0 v1 v2 v3 v4 v5 v6 v7 : Value) (w : World) : (Instr.index 162 (.agg #[v0, v1, v2, v3, v4, v5, v6, v7]) (.int .i64 (7 : Nat))).run Tryz.prog w = .ok v7 w := by kernel_rfl
theorem index8 (vs : Nat → Value) (k : Nat) (hk : k < 8) (w : World) :
    (Instr.index 162 (.agg #[vs 0, vs 1, vs 2, vs 3, vs 4, vs 5, vs 6, vs 7]) (.int .i64 k)).run Tryz.prog w = .ok (vs k) w := by
  rcases (by omega : k = 0 ∨ k = 1 ∨ k = 2 ∨ k = 3 ∨ k = 4 ∨ k = 5 ∨ k = 6 ∨ k = 7) with rfl | rfl | rfl | rfl | rfl | rfl | rfl | rfl
  · exact index8_0 _ _ _ _ _ _ _ _ w
  · exact index8_1 _ _ _ _ _ _ _ _ w
  · exact index8_2 _ _ _ _ _ _ _ _ w
  · exact index8_3 _ _ _ _ _ _ _ _ w
  · exact index8_4 _ _ _ _ _ _ _ _ w
  · exact index8_5 _ _ _ _ _ _ _ _ w
  · exact index8_6 _ _ _ _ _ _ _ _ w
  · exact index8_7 _ _ _ _ _ _ _ _ w

/-- One byte more. -/
theorem wpList_byte {ops : Array Oper} {rest : List Oper} {o : Oper} {a : Act} {Q : Exit → Act → World → Prop} {w W : World} {base : Nat} {l : List UInt8} (c : UInt8) (cn : Int) (hcn : cn = (c.toNat : Int)) (hgd : o.guard = none) (s x : Operand)
    (ho : o.op = .call { callee := .builtin .append, args := #[s, x], argTypes := #[165, 165] }) (v : Value) (hs : a.eval s = v) (hx : a.eval x = .slice (some ⟨W.heap.size, 0, none⟩) 1 1)
    (hw : Wrote base w 0 [] l v W) (hlen : l.length ≤ 100000) (hb : base ≤ W.heap.size)
    (h : ∀ v' W', Wrote base w 0 [] (l ++ [c]) v' W' → wpList Tryz.prog ops Q rest (a.put o.dst v') W') : wpList Tryz.prog ops Q (o :: rest) a (W.alloc (.cells #[.int .u8 cn] 5)) := by
  subst hcn
  obtain ⟨i5, hi5, hz5, hs5, hb5⟩ := info_parts info5
  refine wpList_append_own _ hgd s x 165 ho base 5 i5 (.int .u8 0) 1 1 Tryz.underlying165 hi5 hz5 hs5 hb5 rfl (by decide) v (0 + l.length) ([] ++ byteV l) hs (hw.row.alloc _) ⟨W.heap.size, 0, none⟩ 1 1 (byteV [c]) hx rfl ?_ ?_ ?_ ?_ ?_ ?_
  · intro j u' hj
    match j, hj with
    | 0, hj => simp [byteV] at hj; subst hj; simp [Addr.add]
  · intro u' hu'; simp only [byteV, List.mem_map] at hu'; obtain ⟨b, _, rfl⟩ := hu'; rfl
  · unfold maxLen; omega
  · omega
  · simp; omega
  intro v' W' hown hgr _
  refine h v' W' (hw.then (b := [c]) ⟨by simpa using hown, ?_⟩)
  exact (bfr_new (World.grownBy_alloc W _ none)).trans (bfr_of_grown (hw.row.alloc _) hgr)

def I64 (x : Int) : Prop := -9223372036854775808 ≤ x ∧ x < 9223372036854775808
theorem n36_len {x : Int} (h : I64 x) : (n36 x).length ≤ 14 := by
  unfold n36
  obtain ⟨h1, h2⟩ := h
  split
  · have := d36_length64 (u := (-x).toNat) (by omega)
    simp; omega
  · have := d36_length64 (u := x.toNat) (by omega)
    omega
theorem rowB_len : ∀ {st : List Int}, (∀ x ∈ st, I64 x) → (rowB st).length ≤ 15 * st.length
  | [], _ => by simp [rowB]
  | x :: st, h => by
    have h1 := n36_len (h x (by simp))
    have h2 := rowB_len (st := st) (fun y hy => h y (List.mem_cons_of_mem _ hy))
    rw [rowB_cons]
    simp; omega
theorem keysB_len {S : Int → List Int} : ∀ {ks : List Nat}, (∀ k ∈ ks, (∀ x ∈ S (k : Nat), I64 x) ∧ (S (k : Nat)).length ≤ 100) → (keysB S ks).length ≤ 1501 * ks.length
  | [], _ => by simp [keysB]
  | k :: ks, h => by
    have h1 := rowB_len (h k (by simp)).1
    have h2 := (h k (by simp)).2
    have h3 := keysB_len (ks := ks) (fun y hy => h y (List.mem_cons_of_mem _ hy))
    rw [keysB_cons]
    simp; omega

/-- What appendName tells. -/
def NmTold (p : Par) (w : World) (ord : List Nat) (S : Int → List Int) (e : Ending) (w' : World) : Prop := ∃ v', e = .returned v' ∧ Wrote p.b0 w 0 [] (nameB ord S) v' w'

set_option maxRecDepth 100000 in
set_option maxHeartbeats 4000000 in
theorem appendName_any (p : Par) (ord : List Nat) (S : Int → List Int) (vs : Nat → Value) (ov nv sv : Value) (w : World) (hblk : w.heap[p.B]? = some (.cells (blkA p (maskN ord) vs ov nv) 167 (0, 0))) (hrows : ∀ k, k < 8 → RowAt w p.b0 (vs k) (S k))
    (hown : w.ownsRow p.b0 5 1 sv 0 []) (hb0 : p.b0 ≤ w.heap.size) (hord : ∀ m ∈ ord, m < 60) (hS : ∀ k, k < 8 → (∀ x ∈ S (k : Nat), I64 x) ∧ (S (k : Nat)).length ≤ 100) :
    Calls Tryz.prog 139 #[.pointer (some ⟨p.B, 7, none⟩), sv] w fun e w' => NmTold p w ord S e w' := by
  have hml : maskN ord < 18446744073709551616 := maskN_lt (fun m hm => by have := hord m hm; omega)
  have hdl := d36_length64 hml
  have HC := hideIt (appendUint36 p.b0 0 (maskN ord) hml sv [] w hown hb0 (by omega))
  have HKL : Hid (∀ k, k ≤ 8 → (keysB S (List.range k)).length ≤ 1501 * k) := hideIt (fun k hk => by
    have := keysB_len (S := S) (ks := List.range k) (fun j hj => hS j (by have := List.mem_range.1 hj; omega))
    simpa using this)
  have HS := hideIt hS
  have HR := hideIt hrows
  have b7 : w.cell? ⟨p.B, 7, none⟩ = some (.int .u64 (maskN ord)) := blk_cells hblk 7
  have HBB : Hid (∀ W, BFr p.b0 w W → W.cell? ⟨p.B, 8, none⟩ = some (vs 0) ∧ W.cell? ⟨p.B, 9, none⟩ = some (vs 1) ∧ W.cell? ⟨p.B, 10, none⟩ = some (vs 2) ∧ W.cell? ⟨p.B, 11, none⟩ = some (vs 3) ∧ W.cell? ⟨p.B, 12, none⟩ = some (vs 4) ∧ W.cell? ⟨p.B, 13, none⟩ = some (vs 5) ∧ W.cell? ⟨p.B, 14, none⟩ = some (vs 6) ∧ W.cell? ⟨p.B, 15, none⟩ = some (vs 7)) := hideIt (fun W hf => by
    have e := hf.block p.B (lt_of_heap hblk) (fun ⟨_, c, fz, e⟩ => by rw [hblk] at e; simp at e)
    have e := e.trans hblk
    exact ⟨blk_cells e 8, blk_cells e 9, blk_cells e 10, blk_cells e 11, blk_cells e 12, blk_cells e 13, blk_cells e 14, blk_cells e 15⟩)
  clear hown hS hrows hblk
  go_enter Tryz.func139, Tryz.ntmps139
  go_wp2_with (first | (go_at_call 156; refine HC.out.mono ?_; rintro e w1 ⟨v1, rfl, hw1⟩; have HW1 := hideIt hw1; obtain ⟨e0, e1, e2, e3, e4, e5, e6, e7⟩ := HBB.out w1 hw1.fr; clear hw1))
  go_loopw [1, 19] (fun nm i wr => ∃ k : Nat, k ≤ 8 ∧ i = .int .i64 k ∧ Wrote p.b0 w 0 [] (d36 (maskN ord) ++ keysB S (List.range k)) nm wr) (fun _ i _ => 8 - (intOf i).toNat)
  case atStart => exact ⟨0, by omega, rfl, by simpa [keysB] using HW1.out⟩
  case round =>
    obtain ⟨k, hk, rfl, hw⟩ := hrel
    have HW := hideIt hw
    have hsz : p.b0 ≤ wr.heap.size := Nat.le_trans hb0 hw.fr.size
    clear hw e0 e1 e2 e3 e4 e5 e6 e7
    by_cases hk8 : k < 8
    · have hrow := (HR.out k hk8).bfr HW.out.fr
      obtain ⟨a, cap, hv, hl1, hl2, hl3, hcell⟩ := hrow.has
      unfold maxLen at hl2
      have hidx : ∀ W, (Instr.index 162 (.agg #[vs 0, vs 1, vs 2, vs 3, vs 4, vs 5, vs 6, vs 7]) (.int .i64 k)).run Tryz.prog W = .ok (.slice a (S (k : Int)).length cap) W := fun W => by rw [index8 vs k hk8 W, hv]
      have HKK := HKL.out k hk
      have hpl : (d36 (maskN ord) ++ keysB S (List.range k)).length ≤ 100000 := by rw [List.length_append]; omega
      have k1 : (0 : Int) ≤ (k : Int) := by omega
      have k2 : (k : Int) < 8 := by omega
      have HV := hideIt hv
      clear hv hcell hrow
      go_wp2_with (at_builtin; refine wpList_byte 59 59 rfl rfl _ _ rfl _ rfl rfl HW.out hpl hsz ?_; intro v2 w2 hw2)
      have HW2 := hideIt hw2
      clear hw2
      go_loopw [1, 27] (fun nm i wy => ∃ j : Nat, j ≤ (S (k : Int)).length ∧ i = .int .i64 j ∧ Wrote p.b0 w 0 [] (d36 (maskN ord) ++ keysB S (List.range k) ++ [59] ++ rowB ((S (k : Int)).take j)) nm wy) (fun _ i _ => (S (k : Int)).length - (intOf i).toNat)
      case atStart => exact ⟨0, by omega, rfl, by simpa [rowB] using HW2.out⟩
      case round =>
        obtain ⟨j, hj, rfl, hwj⟩ := hrel
        have HWJ := hideIt hwj
        have hszj : p.b0 ≤ wr.heap.size := Nat.le_trans hb0 hwj.fr.size
        clear hwj
        by_cases hjl : j < (S (k : Int)).length
        · have hrow := (HR.out k hk8).bfr HWJ.out.fr
          rw [HV.out] at hrow
          have hcell : ∃ b off, a = some ⟨b, off, none⟩ ∧ wr.cell? ⟨b, off + j, none⟩ = some (.int .i64 (S (k : Int))[j]) := by
            obtain ⟨a2, cap2, e, _, _, _, h | ⟨b, off, rfl, hc⟩⟩ := hrow.has
            · rw [h] at hjl; simp at hjl
            · simp at e
              exact ⟨b, off, e.1, hc j hjl⟩
          obtain ⟨b, off, rfl, hcell⟩ := hcell
          have hx := (HS.out k hk8).1 _ (List.getElem_mem hjl)
          have hTk := take_snoc (S (k : Int)) j hjl
          have hrl := rowB_len (st := (S (k : Int)).take j) (fun x hx => (HS.out k hk8).1 x (List.mem_of_mem_take hx))
          have hll := (HS.out k hk8).2
          rw [List.length_take] at hrl
          have hpl2 : (d36 (maskN ord) ++ keysB S (List.range k) ++ [59] ++ rowB ((S (k : Int)).take j)).length ≤ 50000 := by
            simp only [List.length_append, List.length_singleton] at hpl ⊢
            omega
          obtain ⟨x, hxx⟩ : ∃ x, (S (k : Int))[j] = x := ⟨_, rfl⟩
          rw [hxx] at hcell hx hTk
          have HT : Hid (rowB ((S (k : Int)).take (j + 1)) = rowB ((S (k : Int)).take j) ++ (n36 x ++ [44])) := hideIt (by rw [hTk, rowB_snoc])
          have hxl := n36_len hx
          have HC2 : Hid (∀ sv', Wrote p.b0 w 0 [] (d36 (maskN ord) ++ keysB S (List.range k) ++ [59] ++ rowB ((S (k : Int)).take j)) sv' wr → Calls Tryz.prog 157 #[sv', .int .i64 x, .int .i64 36] wr fun e w' => ∃ v', e = .returned v' ∧ Wrote p.b0 w 0 [] (d36 (maskN ord) ++ keysB S (List.range k) ++ [59] ++ rowB ((S (k : Int)).take j) ++ n36 x) v' w') := hideIt (fun sv' hw' =>
            (appendInt36 p.b0 (0 + (d36 (maskN ord) ++ keysB S (List.range k) ++ [59] ++ rowB ((S (k : Int)).take j)).length) x hx sv' _ wr hw'.row hszj (by omega)).mono fun e w' ⟨v', he, hw2⟩ => ⟨v', he, hw'.then hw2⟩)
          clear hTk hxx hx hrow hrl hidx
          have j1 : (0 : Int) ≤ (j : Int) := by omega
          have j2 : (j : Int) < ((S (k : Int)).length : Int) := by omega
          have hpl3 : (d36 (maskN ord) ++ keysB S (List.range k) ++ [59] ++ rowB ((S (k : Int)).take j) ++ n36 x).length ≤ 100000 := by
            rw [List.length_append]; omega
          go_wp2_with (first | (go_at_call 157; refine (HC2.out _ HWJ.out).mono ?_; rintro e w3 ⟨v3, rfl, hw3⟩; have HW3 := hideIt hw3; have hsz3 : p.b0 ≤ w3.heap.size := Nat.le_trans hb0 hw3.fr.size; clear hw3) | (at_builtin; refine wpList_byte 44 44 rfl rfl _ _ rfl _ rfl rfl HW3.out hpl3 hsz3 ?_; intro v4 w4 hw4; have HW4 := hideIt hw4; clear hw4))
          go_roundw
          case rel => exact ⟨j + 1, by omega, by go_num, by rw [HT.out]; simpa using HW4.out⟩
          case measure => simp [intOf]; omega
        · have HT : Hid ((S (k : Int)).take j = S (k : Int)) := hideIt (List.take_of_length_le (by omega))
          have HN : Hid (d36 (maskN ord) ++ keysB S (List.range (k + 1)) = d36 (maskN ord) ++ keysB S (List.range k) ++ [59] ++ rowB ((S (k : Int)).take j)) := hideIt (by
            rw [HT.out, List.range_succ, keysB_snoc]; simp)
          go_wp2
          go_roundw
          case rel => exact ⟨k + 1, by omega, by go_num, by rw [HN.out]; exact HWJ.out⟩
          case measure => simp [intOf]; omega
    · have HN : Hid (d36 (maskN ord) ++ keysB S (List.range k) = nameB ord S) := hideIt (by
        have : k = 8 := by omega
        subst this; rfl)
      go_wp2
      go_ret
      exact ⟨_, rfl, by rw [← HN.out]; exact HW.out⟩

end Go.Proofs.YtncnojgemmcplaaGreatDoor
