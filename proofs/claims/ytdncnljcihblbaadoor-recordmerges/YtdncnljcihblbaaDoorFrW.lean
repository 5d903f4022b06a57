/-
  A payload's frame: the program's way, walked.
-/
import Derived.Test.YtdncnljcihblbaaDoorEnW
import Derived.Laws.MakeOwn
namespace Go.Proofs.YtdncnljcihblbaaDoor
open Go.RowKit

set_option maxHeartbeats 1000000 in
set_option maxRecDepth 100000 in
theorem frame_any (b o c : Nat) (l : List Nat) (w : World) (hB : Byt l) (hc : l.length ≤ c) (hb : b < w.heap.size) (hA : BysAt w b o l) (hl : l.length ≤ 70000) :
    Calls Tryd.prog 12 #[.slice (some ⟨b, o, none⟩) l.length c] w fun e w' => ∃ v', e = .returned v' ∧ w'.ownsRow w.heap.size 5 1 v' (frameL l).length (byCs (frameL l)) ∧ Below w.heap.size w w' := by
  obtain ⟨i0, hi, hz0, hz1, hz2⟩ := info_parts' infoB
  have HC := hideIt (crc_any (.slice (some ⟨b, o, none⟩) l.length c) l w ⟨hB, Or.inr ⟨b, o, c, rfl, hc, hb, hA⟩⟩ (by omega))
  have hc32 := crcL_lt (l := l)
  have HF : Hid (frameL l = ([l.length / 256 % 256, l.length % 256] ++ [crcL l / 16777216, crcL l / 65536 % 256, crcL l / 256 % 256, crcL l % 256]) ++ l) := rfl
  generalize crcL l = s at *
  have HA := hideIt hA
  obtain ⟨w2, hmk, hown, hgr⟩ := run_make_own (P := Tryd.prog) w w.heap.size 30 5 i0 _ 1 Tryd.underlying30 hi hz0 hz1 .i64 .i64 (6 + l.length) (by rw [hz2]; omega) (by unfold maxLen; omega) (Nat.le_refl _)
  rw [show ((6 + l.length : Nat) : Int) = 6 + (l.length : Int) from by omega] at hmk
  have hbel2 : Below w.heap.size w w2 := (Below.refl _ _).grown hgr (Nat.le_refl _) (fun g hg => by cases hg)
  have HO := hideIt hown
  have HB2 := hideIt hbel2
  have hs2 := hbel2.size
  clear hA hown hgr hbel2 hB
  go_enter Tryd.func12, Tryd.ntmps12
  go_wp2_with fail
  refine HC.out.mono ?_
  rintro x w1 ⟨rfl, rfl⟩
  go_wp2_with (at_builtin; refine wpList_append_own _ rfl _ _ 30 rfl w1.heap.size 5 i0 _ 1 1 Tryd.underlying30 hi hz0 hz1 hz2 rfl (by decide) _ 0 [] rfl (HO.out.alloc _) ⟨w2.heap.size, 0, none⟩ 2 2 [.int .u8 ((l.length / 256 % 256 : Nat) : Int), .int .u8 ((l.length % 256 : Nat) : Int)] rfl rfl ?c1 ?c2 ?c3 ?c4 ?c5 ?_)
  case c1 =>
    intro j u hj
    match j, hj with
    | 0, hj => simp at hj; subst hj; simp [Addr.add]
    | 1, hj => simp at hj; subst hj; simp [Addr.add]
    | n + 2, hj => simp at hj
  case c2 => intro u hu; simp at hu; rcases hu with rfl | rfl <;> rfl
  case c3 => unfold maxLen; omega
  case c4 => omega
  case c5 => simp; omega
  intro v3 w3 hown3 hgr3 _
  have HO3 : Hid (w3.ownsRow w1.heap.size 5 1 v3 2 (byCs [l.length / 256 % 256, l.length % 256])) := hideIt (by simpa [byCs] using hown3)
  have HB3 : Hid (Below w1.heap.size w1 w3) := (HB2.out.alloc hs2 _).grown hgr3 (by simp; omega) (fun g hg => (HO.out.lt g hg).1)
  have hs3 := HB3.out.size
  clear hown3 hgr3
  go_wp2_with (at_builtin; refine wpList_append_own _ rfl _ _ 30 rfl w1.heap.size 5 i0 _ 1 1 Tryd.underlying30 hi hz0 hz1 hz2 rfl (by decide) _ 2 _ rfl (HO3.out.alloc _) ⟨w3.heap.size, 0, none⟩ 4 4 [.int .u8 ((s / 16777216 : Nat) : Int), .int .u8 ((s / 65536 % 256 : Nat) : Int), .int .u8 ((s / 256 % 256 : Nat) : Int), .int .u8 ((s % 256 : Nat) : Int)] rfl rfl ?d1 ?d2 ?d3 ?d4 ?d5 ?_)
  case d1 =>
    intro j u hj
    match j, hj with
    | 0, hj => simp at hj; subst hj; simp [Addr.add]
    | 1, hj => simp at hj; subst hj; simp [Addr.add]
    | 2, hj => simp at hj; subst hj; simp [Addr.add]
    | 3, hj => simp at hj; subst hj; simp [Addr.add]
    | n + 4, hj => simp at hj
  case d2 => intro u hu; simp at hu; rcases hu with rfl | rfl | rfl | rfl <;> rfl
  case d3 => unfold maxLen; omega
  case d4 => omega
  case d5 => simp; omega
  intro v4 w4 hown4 hgr4 _
  have HO4 : Hid (w4.ownsRow w1.heap.size 5 1 v4 6 (byCs ([l.length / 256 % 256, l.length % 256] ++ [s / 16777216, s / 65536 % 256, s / 256 % 256, s % 256]))) := hideIt (by simpa [byCs] using hown4)
  have HB4 : Hid (Below w1.heap.size w1 w4) := (HB3.out.alloc hs3 _).grown hgr4 (by simp; omega) (fun g hg => (HO3.out.lt g hg).1)
  have hs4 := HB4.out.size
  clear hown4 hgr4
  go_wp2_with (at_builtin; refine wpList_append_own _ rfl _ _ 30 rfl w1.heap.size 5 i0 _ 1 1 Tryd.underlying30 hi hz0 hz1 hz2 rfl (by decide) _ 6 _ rfl HO4.out ⟨b, o, none⟩ l.length c (byCs l) rfl (by simp [byCs]) (HA.out.below hb HB4.out).cells byCs_one ?e3 ?e4 ?e5 ?_)
  case e3 => unfold maxLen; omega
  case e4 => omega
  case e5 => omega
  intro v5 w5 hown5 hgr5 _
  have HO5 : Hid (w5.ownsRow w1.heap.size 5 1 v5 (frameL l).length (byCs (frameL l))) := by
    show w5.ownsRow w1.heap.size 5 1 v5 (frameL l).length (byCs (frameL l))
    rw [HF.out, byCs_append, List.length_append]; exact hown5
  have HB5 : Hid (Below w1.heap.size w1 w5) := HB4.out.grown hgr5 hs4 (fun g hg => (HO4.out.lt g hg).1)
  clear hown5 hgr5
  go_wp2
  go_ret
  exact ⟨v5, rfl, HO5.out, HB5.out⟩

end Go.Proofs.YtdncnljcihblbaaDoor
