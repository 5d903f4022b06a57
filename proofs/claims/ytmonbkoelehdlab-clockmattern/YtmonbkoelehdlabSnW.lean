/-
  The statements' own sent and pick, walked.
-/
import Derived.Test.YtmonbkoelehdlabTiW
import Derived.Test.YtmonbkoelehdlabAhC
namespace Go.Proofs.Ytmonbkoelehdlab
open Go.RowKit

def lSent : List Stp := [⟨0, 2, 5⟩, ⟨1, 3, 5⟩]
theorem sent_ck : CkC lSent 0 (-1) := by
  refine .inr ⟨by decide, .inl ⟨fun k hk => ?_, rfl, rfl⟩⟩
  have hk2 : k < 2 := hk
  rcases (by omega : k = 0 ∨ k = 1) with rfl | rfl
  · decide
  · decide
theorem sent_pred0 : predC lSent 0 = [] := by decide
theorem sent_pred1 : predC lSent 1 = [0] := by decide
theorem sent_ahead : aheadC lSent 0 1 = true := by decide
theorem sent_time {t : Nat → Nat} (h : CountsT lSent t) : t 1 = 2 := by
  have h0 := h 0 (by decide)
  have h1 := h 1 (by decide)
  rw [sent_pred0] at h0
  rw [sent_pred1] at h1
  have e0 : t 0 = 1 := by
    rcases h0.2.1 with e | ⟨j, hj, _⟩
    · exact e
    · cases hj
  have e1 := h1.1 0 (by simp)
  rcases h1.2.1 with e | ⟨j, hj, e⟩
  · omega
  · simp at hj
    subst hj
    omega

set_option maxRecDepth 100000 in
set_option maxHeartbeats 1000000 in
theorem sent_any (w : World) : Calls Try.prog 13 #[] w fun e w' => e = .returned (.bool true) ∧ Below w.heap.size w w' := by
  have hst : StpsAt (w.alloc (.cells #[.int .i64 0, .int .i64 2, .int .i64 5, .int .i64 1, .int .i64 3, .int .i64 5] 43)) w.heap.size 0 lSent := fun k hk => by
    have hk2 : k < 2 := hk
    rcases (by omega : k = 0 ∨ k = 1) with rfl | rfl
    · exact ⟨by simp [lSent], by simp [lSent], by simp [lSent]⟩
    · exact ⟨by simp [lSent], by simp [lSent], by simp [lSent]⟩
  have hq : StpsQ (w.alloc (.cells #[.int .i64 0, .int .i64 2, .int .i64 5, .int .i64 1, .int .i64 3, .int .i64 5] 43)) (some ⟨w.heap.size, 0, none⟩) lSent := .inr ⟨w.heap.size, 0, rfl, by simp, hst⟩
  have HB0 : Hid (Below w.heap.size w (w.alloc (.cells #[.int .i64 0, .int .i64 2, .int .i64 5, .int .i64 1, .int .i64 3, .int .i64 5] 43))) := belA (Below.refl _ _) _
  have HT : Hid (Calls Try.prog 11 #[.slice (some ⟨w.heap.size, 0, none⟩) 2 2] (w.alloc (.cells #[.int .i64 0, .int .i64 2, .int .i64 5, .int .i64 1, .int .i64 3, .int .i64 5] 43)) fun e w' => TiTold lSent (w.alloc (.cells #[.int .i64 0, .int .i64 2, .int .i64 5, .int .i64 1, .int .i64 3, .int .i64 5] 43)) e w') := times_any lSent _ 2 _ (by decide) hq
  have HQ := hideIt hq
  clear hst hq
  go_enter Try.func13, Try.ntmps13
  go_wp2_with fail
  refine HT.out.mono ?_
  rintro e w1 ⟨v, err, n, pl, rfl, hck, her, _, hok, hb1⟩
  obtain ⟨rfl, rfl⟩ := hck.one sent_ck
  obtain ⟨rfl, _⟩ := her.nil
  obtain ⟨g, t, rfl, _, hct, _, hib⟩ := hok rfl
  have c1 := hib.at_ 1 (by decide)
  simp only [sent_time hct] at c1
  have HB1 := hideIt (belJ HB0.out hb1)
  have HA : Hid (Calls Try.prog 12 #[.slice (some ⟨w.heap.size, 0, none⟩) 2 2] w1 fun e w' => AcTold lSent w1 e w') := ahead_any lSent _ 2 w1 (by decide) (HQ.out.below hb1)
  clear hck her hok hib hct hb1 HT HQ
  have hl2 : lSent.length = 2 := rfl
  rw [hl2]
  go_wp2_with fail
  refine HA.out.mono ?_
  rintro e w2 ⟨v, err, n, pl, rfl, hck, her, _, hok, hb2⟩
  obtain ⟨rfl, rfl⟩ := hck.one sent_ck
  obtain ⟨rfl, _⟩ := her.nil
  obtain ⟨B, rb, rfl, hmat⟩ := hok rfl
  have d1 : w2.cell? ⟨g, 1, none⟩ = some (.int .i64 2) := (hb2.cell (p := ⟨g, 1, none⟩) (World.block_lt_of_cell? w1 _ c1)).trans c1
  have d2 := hmat.head 0 (by decide)
  have d3 := (hmat.row 0 (by decide)).bit 1 (by decide)
  rw [sent_ahead] at d3
  rw [hl2] at d2
  rw [hl2]
  have HB2 := hideIt (belJ HB1.out hb2)
  clear hck her hok hmat hb2 c1 HA
  go_wp2
  go_ret
  exact ⟨rfl, HB2.out⟩
end Go.Proofs.Ytmonbkoelehdlab
