/-
  The statement LocalSplits walked: whatever the ops, true.
-/
import Derived.Test.YtbkeelnflpfdiaaSplitW
import Derived.Test.YtbkeelnflpfdiaaSame
namespace Go.Proofs.Ytbkeelnflpfdiaa
open Go.RowKit

theorem SpAt.below {w w' : World} {base P N : Nat} {ops : List Opn} {k : Nat} {vs ns : Nat → Value} (h : SpAt w base P N ops k vs ns) (hb : Below w.heap.size w w') : SpAt w' base P N ops k vs ns :=
  ⟨h.parts.same (fun b _ _ e _ => hb.block b (lt_of_heap e)), h.numbs.same (fun b _ _ e _ => hb.block b (lt_of_heap e))⟩

set_option maxHeartbeats 400000 in
theorem splits_long (a : Option Addr) (n cap : Nat) (w : World) (h : 60 < n) (h2 : n ≤ maxLen) :
    Calls Try.prog 3 #[.slice a n cap] w fun e w' => e = .returned (.bool true) ∧ Below w.heap.size w w' := by
  unfold maxLen at h2
  go_enter Try.func3, Try.ntmps3
  go_wp2
  go_ret
  exact ⟨rfl, Below.refl _ _⟩

set_option maxRecDepth 100000 in
set_option maxHeartbeats 1000000 in
theorem splits_some (ops : List Opn) (a : Option Addr) (cap : Nat) (w : World) (hlen : ops.length ≤ 60) (hl : OpsIn w (.slice a ops.length cap) ops) :
    Calls Try.prog 3 #[.slice a ops.length cap] w fun e w' => e = .returned (.bool true) ∧ Below w.heap.size w w' := by
  have h60 : decide (60 < (ops.length : Int)) = false := by simp; omega
  have HC := hideIt (split_any ops _ w hlen hl)
  have HD : Hid (∀ (q : Int) W, Below w.heap.size w W → Calls Try.prog 5 #[.slice a ops.length cap, .int .i64 q] W fun e w' => ∃ v n, e = .returned (.tuple #[v, n]) ∧ PartAt w' W.heap.size v n ops q ops.length ∧ Below W.heap.size W w') := hideIt (fun q W hW => refSplit_any ops q _ W hlen (hl.below hW))
  have HL : Hid (∀ q : Int, (partL ops q ops.length).length ≤ 1000 ∧ (nums ops q ops.length).length ≤ 1000) := hideIt (fun q => by have := nums_le ops q ops.length; rw [part_length]; omega)
  clear hl
  go_enter Try.func3, Try.ntmps3
  go_wp2_with (go_at_call 4; refine HC.out.mono ?_; rintro e w1 ⟨P, N, vs, ns, rfl, hsp, hb1⟩; have HS := hideIt hsp; have HB1 := hideIt hb1; clear hsp hb1)
  go_loopw [5] (fun i wr => ∃ k : Nat, k ≤ 8 ∧ i = .int .i64 k ∧ SpAt wr w.heap.size P N ops ops.length vs ns ∧ Below w.heap.size w wr) (fun i _ => 8 - (intOf i).toNat)
  case atStart => exact ⟨0, by omega, rfl, HS.out, HB1.out⟩
  case round =>
    obtain ⟨k, hk, rfl, hp, hb⟩ := hrel
    have HP := hideIt hp
    have HB := hideIt hb
    clear hp hb
    by_cases hkl : k < 8
    · have k1 : (0 : Int) ≤ (k : Int) := by omega
      have k2 : (k : Int) < 8 := by omega
      have hwr : IntKind.i64.wrap ((k : Int) + 1) = (k : Int) + 1 := by rw [IntKind.wrap_i64]; omega
      have HCK := hideIt (HD.out (k : Int) wr HB.out)
      have HQ : Hid (∀ W, Below wr.heap.size wr W → W.cell? ⟨P, k, none⟩ = some (vs k) ∧ W.cell? ⟨N, k, none⟩ = some (ns k)) := hideIt (fun W hW => ⟨tab_cell (HP.out.below hW).parts hkl, tab_cell (HP.out.below hW).numbs hkl⟩)
      have HO1 : Hid (∀ W v n, Below wr.heap.size wr W → PartAt W wr.heap.size v n ops k ops.length → Calls Try.prog 6 #[vs k, v] W fun e w' => e = .returned (.bool true) ∧ Below W.heap.size W w') := hideIt (fun W v n hW hpt => sameOps_same (vs k) v _ W (HL.out k).1 (hasO_own ((HP.out.below hW).parts.rows k hkl)) (hasO_own hpt.part))
      have HN1 : Hid (∀ W0 W v n, PartAt W0 wr.heap.size v n ops k ops.length → Below wr.heap.size wr W0 → Below W0.heap.size W0 W → Calls Try.prog 7 #[ns k, n] W fun e w' => e = .returned (.bool true) ∧ Below W.heap.size W w') := hideIt (fun W0 W v n hpt hW hW0 => sameInts_same (ns k) n _ W (HL.out k).2 (hasN_own ((HP.out.below (belJ hW hW0)).numbs.rows k hkl)) (hasN_own (ownsRow_same hpt.num (fun b hb => hW0.block b (ownsRow_block hpt.num b hb).2.1))))
      go_wp2_with (first
        | (go_at_call 5; refine HCK.out.mono ?_; rintro e w2 ⟨v, n, rfl, hpt, hb2⟩; obtain ⟨p1, p2⟩ := HQ.out w2 hb2; have HPT := hideIt hpt; have HB2 := hideIt hb2; clear hpt hb2)
        | (go_at_call 6; refine (HO1.out w2 v n HB2.out HPT.out).mono ?_; rintro e w3 ⟨rfl, hb3⟩; obtain ⟨p3, p4⟩ := HQ.out w3 (belJ HB2.out hb3); have HB3 := hideIt hb3; clear hb3)
        | (go_at_call 7; refine (HN1.out w2 w3 v n HPT.out HB2.out HB3.out).mono ?_; rintro e w4 ⟨rfl, hb4⟩; have HB4 := hideIt hb4; clear hb4))
      go_roundw
      case rel => exact ⟨k + 1, by omega, by go_num, HP.out.below (belJ (belJ HB2.out HB3.out) HB4.out), belJ HB.out (belJ (belJ HB2.out HB3.out) HB4.out)⟩
      case measure => simp [intOf]; omega
    · obtain rfl : k = 8 := by omega
      go_wp2
      go_ret
      exact ⟨rfl, HB.out⟩
end Go.Proofs.Ytbkeelnflpfdiaa
