/-
  The program's Level, walked.
-/
import Derived.Test.YtaopigjhdkdklaaDoorIfW
namespace Go.Proofs.YtaopigjhdkdklaaDoor
open Go.RowKit

/-- The level of a story. -/
def lvlI (s : ISt) : Int := if fndB s 0 = true then 0 else if fndB s 1 = true ∨ fndB s 2 = true ∨ fndB s 3 = true then 1 else if fndB s 5 = true then 2 else 3
def LevTold (s : ISt) (w : World) (e : Ending) (w' : World) : Prop :=
  e = .returned (.tuple #[.int .i64 (if fltI s = 0 then lvlI s else 0), toldV (fltI s)]) ∧ Below w.heap.size w w'

set_option maxRecDepth 100000 in
set_option maxHeartbeats 2000000 in
theorem level_any (s : ISt) (a b : Option Addr) (ca cb : Nat) (w : World) (h : StyQ w a ca b cb s) :
    Calls Tryd.prog 22 #[.agg #[.slice a s.txs.length ca, .slice b s.ord.length cb]] w fun e w' => LevTold s w e w' := by
  have HB : Hid (Below w.heap.size w (w.alloc (.cells #[.slice a s.txs.length ca, .slice b s.ord.length cb] 44))) := belA (Below.refl _ _) _
  have HF := hideIt (finds_any s a b ca cb _ (h.below HB.out))
  unfold FinTold at HF
  clear h
  go_enter Tryd.func22, Tryd.ntmps22
  go_wp2_with fail
  refine HF.out.mono ?_
  rintro e w1 ⟨v, rfl, hY, hN, hb1⟩
  have HB1 := hideIt (belJ HB.out hb1)
  clear HF hb1 HB
  by_cases hf : fltI s = 0
  · obtain ⟨B, rfl, hB⟩ := hY hf
    have c0 := hB.bit 0 (by omega)
    have c1 := hB.bit 1 (by omega)
    have c2 := hB.bit 2 (by omega)
    have c3 := hB.bit 3 (by omega)
    have c5 := hB.bit 5 (by omega)
    have HE : Hid (∀ r, lvlI s = r → LevTold s w (.returned (.tuple #[.int .i64 r, .nilIface])) w1) := fun r hr => ⟨by rw [if_pos hf, hr, hf]; rfl, HB1.out⟩
    unfold lvlI at HE
    rw [hf, show toldV 0 = .nilIface from rfl]
    clear hY hN hB hf
    generalize fndB s 0 = x0 at *
    generalize fndB s 1 = x1 at *
    generalize fndB s 2 = x2 at *
    generalize fndB s 3 = x3 at *
    generalize fndB s 5 = x5 at *
    cases x0
    · cases x1
      · cases x2
        · cases x3
          · cases x5
            · have HE2 := hideIt (HE.out 3 (by simp))
              clear HE
              go_wp2
              go_ret2
              exact HE2.out
            · have HE2 := hideIt (HE.out 2 (by simp))
              clear HE
              go_wp2
              go_ret2
              exact HE2.out
          · have HE2 := hideIt (HE.out 1 (by simp))
            clear HE
            go_wp2
            go_ret2
            exact HE2.out
        · have HE2 := hideIt (HE.out 1 (by simp))
          clear HE
          go_wp2
          go_ret2
          exact HE2.out
      · have HE2 := hideIt (HE.out 1 (by simp))
        clear HE
        go_wp2
        go_ret2
        exact HE2.out
    · have HE2 := hideIt (HE.out 0 (by simp))
      clear HE
      go_wp2
      go_ret2
      exact HE2.out
  · obtain rfl := hN hf
    clear hY hN
    rw [told_ne hf]
    go_wp2
    go_ret2
    exact ⟨by rw [if_neg hf, told_ne hf]; rfl, HB1.out⟩
end Go.Proofs.YtaopigjhdkdklaaDoor
