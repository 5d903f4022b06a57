/-
  MvccSnapshot and MvccCareful, walked over what a base tells.
-/
import Derived.Test.YtaopigjhdkdklaaDoorMvBZ
import Derived.Test.YtaopigjhdkdklaaDoorMvPZ
import Derived.Test.YtaopigjhdkdklaaDoorKrW
namespace Go.Proofs.YtaopigjhdkdklaaDoor
open Go.RowKit

/-- What a base is asked to tell of its story and times. -/
structure BaseSt (PB : World → World → Nat → Bool → Nat → MvS → (Nat → Prop) → Prop) : Prop extends BaseOk PB where
  story : ∀ {w0 W B c n st S}, PB w0 W B c n st S → MvI n st → n ≤ 8 → Calls Tryd.prog 16 #[.pointer (some ⟨B, 0, none⟩)] W fun e W' => ∃ a ca b cb, e = .returned (.agg #[.slice a (mvSt n st).txs.length ca, .slice b (mvSt n st).ord.length cb]) ∧ StyQ W' a ca b cb (mvSt n st) ∧ Below W.heap.size W W'
  spans : ∀ {w0 W B c n st S}, PB w0 W B c n st S → MvI n st → n ≤ 8 → Calls Tryd.prog 18 #[.pointer (some ⟨B, 0, none⟩)] W fun e W' => ∃ a ca, e = .returned (.slice a n ca) ∧ n ≤ ca ∧ SpansQ W' a n st ∧ Below W.heap.size W W'

set_option maxRecDepth 100000 in
set_option maxHeartbeats 4000000 in
theorem snapshot_walk {PB : World → World → Nat → Bool → Nat → MvS → (Nat → Prop) → Prop} (hP : BaseSt PB) (l : List (Int × Int × Int)) (hlm : l.length ≤ maxLen) (c : Bool) (a : Option Addr) (cap : Nat) (W : World) (ha : AsksQ W a l) (hg : GlE W) :
    Calls Tryd.prog 4 #[.slice a l.length cap, .bool c] W fun e W' => e = .returned (.bool true) ∧ Below W.heap.size W W' := by
  unfold maxLen at hlm
  by_cases h80 : 80 < l.length
  · have h80' : (80 : Int) < (l.length : Int) := by omega
    clear ha hP hg
    go_enter Tryd.func4, Tryd.ntmps4
    go_wp2
    go_ret
    exact ⟨rfl, Below.refl _ _⟩
  have h80' : ¬ (80 : Int) < (l.length : Int) := by omega
  have HPl := hideIt (played_any hP.toBaseOk c l (by omega) a cap W ha)
  have HP := hideIt hP
  have HG := hideIt hg
  have hI := run_ok c 8 l (MvI.start 8)
  have HI := hideIt hI
  have HSn := hideIt hI.snap
  have hFl := hI.flt (Nat.le_refl _)
  have HFl := hideIt hFl
  have hlen := mv_len 8 (runM c 8 mv0 l)
  have hord := mv_ord 8 (runM c 8 mv0 l)
  generalize hst : runM c 8 mv0 l = st at *
  clear ha hP hg hI hst hFl
  go_enter Tryd.func4, Tryd.ntmps4
  go_wp2_with fail
  refine HPl.out.mono ?_
  rintro e W1 ⟨B, S, rfl, h1⟩
  have hb1 := HP.out.bel h1
  have HBs := hideIt (based_any HP.out.toBaseOk W1 (HG.out.below hb1))
  have H1 := hideIt h1
  have HB1 := hideIt hb1
  clear HPl h1 hb1
  go_wp2_with fail
  refine HBs.out.mono ?_
  rintro e W2 ⟨rfl, hb2⟩
  have h2 := HP.out.toBaseOk.below H1.out hb2
  have HSt := hideIt (HP.out.story h2 HI.out (Nat.le_refl _))
  have HB2 := hideIt (belJ HB1.out hb2)
  clear HBs H1 HB1 h2 hb2
  go_wp2_with fail
  refine HSt.out.mono ?_
  rintro e W3 ⟨sa, sca, sb, scb, rfl, hsq, hb3⟩
  have HB3 := hideIt (belJ HB2.out hb3)
  have hB4 : Below W3.heap.size W3 (W3.alloc (.cells #[.slice sa (mvSt 8 st).txs.length sca, .slice sb (mvSt 8 st).ord.length scb] 44)) := belA (Below.refl _ _) _
  have HB4 := hideIt (belJ HB3.out hB4)
  have HF := hideIt (finds_any (mvSt 8 st) sa sb sca scb _ (hsq.below hB4))
  clear HSt hsq hb3 HB2 hB4
  go_wp2_with fail
  refine HF.out.mono ?_
  rintro e W5 ⟨v, rfl, hv, _, hb5⟩
  obtain ⟨Bf, rfl, hbits⟩ := hv HFl.out
  have HB5 := hideIt (belJ HB4.out hb5)
  have q0 := hbits.bit 0 (by omega)
  have q1 := hbits.bit 1 (by omega)
  have q2 := hbits.bit 2 (by omega)
  have q3 := hbits.bit 3 (by omega)
  have q4 := hbits.bit 4 (by omega)
  rw [HSn.out 0 (by omega)] at q0
  rw [HSn.out 1 (by omega)] at q1
  rw [HSn.out 2 (by omega)] at q2
  rw [HSn.out 3 (by omega)] at q3
  rw [HSn.out 4 (by omega)] at q4
  rw [HFl.out]
  have ht0 : toldV 0 = .nilIface := rfl
  rw [ht0]
  clear HF hb5 hbits hv
  go_wp2
  go_ret
  exact ⟨rfl, HB5.out⟩

set_option maxRecDepth 100000 in
set_option maxHeartbeats 4000000 in
theorem careful_walk {PB : World → World → Nat → Bool → Nat → MvS → (Nat → Prop) → Prop} (hP : BaseSt PB) (l : List (Int × Int × Int)) (hlm : l.length ≤ maxLen) (a : Option Addr) (cap : Nat) (W : World) (ha : AsksQ W a l) (hg : GlE W) :
    Calls Tryd.prog 6 #[.slice a l.length cap] W fun e W' => e = .returned (.bool true) ∧ Below W.heap.size W W' := by
  unfold maxLen at hlm
  by_cases h80 : 80 < l.length
  · have h80' : (80 : Int) < (l.length : Int) := by omega
    clear ha hP hg
    go_enter Tryd.func6, Tryd.ntmps6
    go_wp2
    go_ret
    exact ⟨rfl, Below.refl _ _⟩
  have h80' : ¬ (80 : Int) < (l.length : Int) := by omega
  have HPl := hideIt (played_any hP.toBaseOk true l (by omega) a cap W ha)
  have HP := hideIt hP
  have HG := hideIt hg
  have hI := run_ok true 8 l (MvI.start 8)
  have HI := hideIt hI
  have HLv := hideIt (hI.careful (run_pv 8 l (MvI.start 8) PvI.start))
  have HFl := hideIt (hI.flt (Nat.le_refl _))
  generalize hst : runM true 8 mv0 l = st at *
  clear ha hP hg hI hst
  go_enter Tryd.func6, Tryd.ntmps6
  go_wp2_with fail
  refine HPl.out.mono ?_
  rintro e W1 ⟨B, S, rfl, h1⟩
  have hb1 := HP.out.bel h1
  have HBs := hideIt (based_any HP.out.toBaseOk W1 (HG.out.below hb1))
  have H1 := hideIt h1
  have HB1 := hideIt hb1
  clear HPl h1 hb1
  go_wp2_with fail
  refine HBs.out.mono ?_
  rintro e W2 ⟨rfl, hb2⟩
  have h2 := HP.out.toBaseOk.below H1.out hb2
  have HSt := hideIt (HP.out.story h2 HI.out (Nat.le_refl _))
  have HB2 := hideIt (belJ HB1.out hb2)
  clear HBs H1 HB1 h2 hb2
  go_wp2_with fail
  refine HSt.out.mono ?_
  rintro e W3 ⟨sa, sca, sb, scb, rfl, hsq, hb3⟩
  have HB3 := hideIt (belJ HB2.out hb3)
  have hB4 : Below W3.heap.size W3 (W3.alloc (.cells #[.slice sa (mvSt 8 st).txs.length sca, .slice sb (mvSt 8 st).ord.length scb] 44)) := belA (Below.refl _ _) _
  have HB4 := hideIt (belJ HB3.out hB4)
  have hnew := box2 W3 (.slice sa (mvSt 8 st).txs.length sca) (.slice sb (mvSt 8 st).ord.length scb) 44
  have HQ := hideIt (hsq.below hB4)
  have HF := hideIt (level_any (mvSt 8 st) sa sb sca scb _ HQ.out)
  unfold LevTold at HF
  rw [HFl.out, if_pos rfl, HLv.out] at HF
  clear HSt hsq hb3 HB2 hB4
  go_wp2_with fail
  refine HF.out.mono ?_
  rintro e W5 ⟨rfl, hb5⟩
  have d0 := (hb5.cell (p := ⟨W3.heap.size, 0, none⟩) (by simp)).trans hnew.1
  have d1 := (hb5.cell (p := ⟨W3.heap.size, 1, none⟩) (by simp)).trans hnew.2
  have HB5 := hideIt (belJ HB4.out hb5)
  have HR := hideIt (replay_walk (mvSt 8 st) sa sb sca scb W5 (HQ.out.below hb5))
  have ht0 : toldV 0 = .nilIface := rfl
  rw [ht0]
  clear HF hb5 hnew HQ
  go_wp2_with fail
  refine HR.out.mono ?_
  rintro e W6 ⟨rfl, hb6⟩
  have HB6 := hideIt (belJ HB5.out hb6)
  clear HR hb6
  go_wp2
  go_ret
  exact ⟨rfl, HB6.out⟩
end Go.Proofs.YtaopigjhdkdklaaDoor
