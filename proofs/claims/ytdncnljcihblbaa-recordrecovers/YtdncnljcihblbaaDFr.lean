/-
  A payload's frame: the document's way, walked.
-/
import Derived.Test.YtdncnljcihblbaaDCr
import Derived.Test.YtdncnljcihblbaaCoW
namespace Go.Proofs.Ytdncnljcihblbaa
open Go.RowKit

set_option maxHeartbeats 1000000 in
set_option maxRecDepth 100000 in
theorem refFrame_any (v : Value) (l : List Nat) (w : World) (hq : ByQ w v l) (hl : l.length ≤ 70000) :
    Calls Try.prog 15 #[v] w fun e w' => ∃ v', e = .returned v' ∧ w'.ownsRow w.heap.size 5 1 v' (frameL l).length (byCs (frameL l)) ∧ Below w.heap.size w w' := by
  have HC := hideIt (refCrc_any v l w hq (by omega))
  obtain ⟨a0, k0, rfl⟩ := hq.form
  have hc32 := crcL_lt (l := l)
  have HF : Hid (frameL l = [l.length / 256 % 256, l.length % 256, crcL l / 16777216, crcL l / 65536 % 256, crcL l / 256 % 256, crcL l % 256] ++ l) := rfl
  generalize crcL l = s at *
  have HQ := hideIt hq
  clear hq
  go_enter Try.func15, Try.ntmps15
  go_wp2_with fail
  refine HC.out.mono ?_
  rintro x w1 ⟨rfl, rfl⟩
  go_wp2_with (at_builtin; refine wpList_append_by rfl _ _ rfl w1.heap.size (.slice (some ⟨w1.heap.size, 0, none⟩) 6 6) (.slice a0 l.length k0) [l.length / 256 % 256, l.length % 256, s / 16777216, s / 65536 % 256, s / 256 % 256, s % 256] l rfl rfl ?o1 ?o2 (by simp; omega) ?o3 ?_)
  case o1 =>
    have := World.ownsRow_lit (base := w1.heap.size) (e := 5) (size := 1) w1 #[.int .u8 ((l.length / 256 % 256 : Nat) : Int), .int .u8 ((l.length % 256 : Nat) : Int), .int .u8 ((s / 16777216 : Nat) : Int), .int .u8 ((s / 65536 % 256 : Nat) : Int), .int .u8 ((s / 256 % 256 : Nat) : Int), .int .u8 ((s % 256 : Nat) : Int)] 6 (Nat.le_refl _) (by decide) rfl
    simpa [byCs] using this
  case o2 => exact HQ.out.below (below_alloc (Below.refl _ _) _)
  case o3 => simp
  intro v4 w4 ho4 hb4
  have HO : Hid (w4.ownsRow w1.heap.size 5 1 v4 (frameL l).length (byCs (frameL l))) := by
    show w4.ownsRow w1.heap.size 5 1 v4 (frameL l).length (byCs (frameL l))
    rw [HF.out]; simpa using ho4
  have HB := hideIt ((below_alloc (Below.refl w1.heap.size w1) _).trans hb4)
  clear ho4 hb4
  go_wp2
  go_ret
  exact ⟨v4, rfl, HO.out, HB.out⟩

end Go.Proofs.Ytdncnljcihblbaa
