/-
  MvccFirst, walked over what a base tells.
-/
import Derived.Test.YtaopigjhdkdklaaDoorMvD
import Derived.BigQuiet
namespace Go.Proofs.YtaopigjhdkdklaaDoor
open Go.RowKit

set_option maxRecDepth 100000 in
set_option maxHeartbeats 8000000 in
theorem first_walk {PB : World → World → Nat → Bool → Nat → MvS → (Nat → Prop) → Prop} (hP : BaseSt PB) (l : List (Int × Int × Int)) (hlm : l.length ≤ maxLen) (c : Bool) (a : Option Addr) (cap : Nat) (W : World) (ha : AsksQ W a l) (hg : GlE W) :
    Calls Tryd.prog 7 #[.slice a l.length cap, .bool c] W fun e W' => e = .returned (.bool true) ∧ Below W.heap.size W W' := by
  unfold maxLen at hlm
  by_cases h80 : 80 < l.length
  · have h80' : (80 : Int) < (l.length : Int) := by omega
    clear ha hP hg
    go_enter Tryd.func7, Tryd.ntmps7
    go_wp2
    go_ret
    exact ⟨rfl, Below.refl _ _⟩
  have h80' : ¬ (80 : Int) < (l.length : Int) := by omega
  have HPl := hideIt (played_any hP.toBaseOk c l (by omega) a cap W ha)
  have HP := hideIt hP
  have HG := hideIt hg
  have hI := run_ok c 8 l (MvI.start 8)
  have HI := hideIt hI
  generalize hst : runM c 8 mv0 l = st at *
  have hlen := mv_len 8 st
  have hord := mv_ord 8 st
  have HRow : Hid (∀ k (h : k < (mvSt 8 st).ord.length), (mvSt 8 st).ord[k] = (st.ord k).map fun q : Nat => (q : Int)) := fun k h => by simp [mvSt]
  have HFst : Hid (∀ k, k < 8 → ∀ j (h : j + 1 < (st.ord k).length), (st.ord k)[j]'(by omega) < 8 ∧ (st.ord k)[j + 1] < 8 ∧ st.en ((st.ord k)[j]'(by omega)) < st.bg (st.ord k)[j + 1]) := fun k hk j h => by
    have h1 := List.getElem?_eq_getElem (l := st.ord k) (i := j) (by omega)
    have h2 := List.getElem?_eq_getElem (l := st.ord k) (i := j + 1) h
    exact ⟨(hI.cov _ (hI.mem_com hk h1).1).2.2.2, (hI.cov _ (hI.mem_com hk h2).1).2.2.2, hI.ord_lt hk h1 h2 (by omega)⟩
  clear ha hP hg hI hst
  go_enter Tryd.func7, Tryd.ntmps7
  go_wp2_with fail
  refine HPl.out.mono ?_
  rintro e W1 ⟨B, S, rfl, h1⟩
  have hb1 := HP.out.bel h1
  have HBs := hideIt (based_any HP.out.toBaseOk W1 (HG.out.below hb1))
  have H1 := hideIt h1
  have HB1 := hideIt hb1
  clear HPl h1 hb1
  go_wp2_with fail
  refine HBs.out.mono ?_
  rintro e W2 ⟨rfl, hb2⟩
  have h2 := HP.out.toBaseOk.below H1.out hb2
  have HSt := hideIt (HP.out.story h2 HI.out (Nat.le_refl _))
  have HB2 := hideIt (belJ HB1.out hb2)
  have H2 := hideIt h2
  clear HBs H1 HB1 h2 hb2
  go_wp2_with fail
  refine HSt.out.mono ?_
  rintro e W3 ⟨sa, sca, sb, scb, rfl, hsq, hb3⟩
  have HB3 := hideIt (belJ HB2.out hb3)
  have hB4 : Below W3.heap.size W3 (W3.alloc (.cells #[.slice sa (mvSt 8 st).txs.length sca, .slice sb (mvSt 8 st).ord.length scb] 44)) := belA (Below.refl _ _) _
  have HB4 := hideIt (belJ HB3.out hB4)
  have hnew := box2 W3 (.slice sa (mvSt 8 st).txs.length sca) (.slice sb (mvSt 8 st).ord.length scb) 44
  have HQ := hideIt (hsq.below hB4)
  have HSp := hideIt (HP.out.spans (HP.out.toBaseOk.below H2.out (belJ hb3 hB4)) HI.out (Nat.le_refl _))
  clear HSt hsq hb3 HB2 hB4 H2
  go_wp2_with fail
  refine HSp.out.mono ?_
  rintro e W5 ⟨pa, pca, rfl, hpc, hsp, hb5⟩
  have d1 := (hb5.cell (p := ⟨W3.heap.size, 1, none⟩) (by simp)).trans hnew.2
  have HB5 := hideIt (belJ HB4.out hb5)
  have HQ5 := hideIt (HQ.out.below hb5)
  have HSq := hideIt hsp
  have hWs : W3.heap.size < W5.heap.size := by have := hb5.size; simp at this; omega
  rw [hord] at d1
  clear HSp hb5 hnew HQ hsp
  obtain ⟨gb, ob, rfl, hgb, _⟩ := HQ5.out.row (i := 0) (by rw [hord]; omega)
  obtain ⟨pg, po, rfl, hpg, hps⟩ : ∃ b off, pa = some ⟨b, off, none⟩ ∧ b < W5.heap.size ∧ ∀ k, k < 8 → W5.cell? ⟨b, off + k * 2, none⟩ = some (.int .i64 (st.bg k)) ∧ W5.cell? ⟨b, off + k * 2 + 1, none⟩ = some (.int .i64 (st.en k)) := by
    rcases HSq.out with e | e
    · omega
    · exact e
  have HPs := hideIt hps
  clear hps HSq
  go_wp2
  go_loopw [8] (fun v wr => ∃ k : Nat, k ≤ 8 ∧ v = .int .i64 k ∧ Below W5.heap.size W5 wr) (fun v _ => 8 - (intOf v).toNat)
  case atStart => exact ⟨0, Nat.zero_le _, rfl, Below.refl _ _⟩
  case round =>
    obtain ⟨k, hk, rfl, hb⟩ := hrel
    have HB := hideIt hb
    clear hb
    have e1 := (HB.out.cell (p := ⟨W3.heap.size, 1, none⟩) hWs).trans d1
    by_cases hk8 : k < 8
    · have hk8' : (k : Int) < 8 := by omega
      obtain ⟨g2, o2, e2, _, hrw⟩ := HQ5.out.row (i := k) (by rw [hord]; omega)
      injection e2 with e2
      injection e2 with e3 e4
      subst e3 e4
      rw [HRow.out k (by rw [hord]; omega)] at hrw
      obtain ⟨ra, rc, r1, r2, r3, r4⟩ := hrw
      rw [List.length_map] at r1 r2 r3
      have HR4 := hideIt r4
      have HR1 := hideIt r1
      have x1 := (HB.out.cell (p := ⟨gb, ob + k, none⟩) hgb).trans r1
      unfold maxLen at r3
      clear r4 r1
      go_wp2
      clear e1 x1
      go_loopw [9] (fun v wz => ∃ j : Nat, v = .int .i64 ((j : Int) + 1) ∧ Below W5.heap.size W5 wz ∧ (j = 0 ∨ j + 1 ≤ (st.ord k).length)) (fun v _ => (st.ord k).length + 1 - (intOf v).toNat)
      case atStart => exact ⟨0, rfl, HB.out, .inl rfl⟩
      case round =>
        obtain ⟨j, rfl, hb, hj⟩ := hrel
        replace HB := hideIt hb
        clear hb
        have e1 := (HB.out.cell (p := ⟨W3.heap.size, 1, none⟩) hWs).trans d1
        have x1 := (HB.out.cell (p := ⟨gb, ob + k, none⟩) hgb).trans HR1.out
        by_cases hin : j + 1 < (st.ord k).length
        · have hin' : (j : Int) + 1 < ((st.ord k).length : Int) := by omega
          obtain ⟨f1, f2, f3⟩ := HFst.out k hk8 j hin
          obtain ⟨rg, ro, rfl, hrg, y0⟩ := HR4.out.at (i := j) (by rw [List.length_map]; omega)
          obtain ⟨rg', ro', e5, _, y1⟩ := HR4.out.at (i := j + 1) (by rw [List.length_map]; omega)
          injection e5 with e5
          injection e5 with e6 e7
          subst e6 e7
          rw [List.getElem_map] at y0 y1
          have z0 := (HB.out.cell (p := ⟨rg, ro + j, none⟩) hrg).trans y0
          have z1 := (HB.out.cell (p := ⟨rg, ro + (j + 1), none⟩) hrg).trans y1
          generalize (st.ord k)[j] = x at f1 f3 z0 y0
          generalize (st.ord k)[j + 1] = y at f2 f3 z1 y1
          have u1 := (HB.out.cell (p := ⟨pg, po + x * 2 + 1, none⟩) hpg).trans (HPs.out x f1).2
          have u0 := (HB.out.cell (p := ⟨pg, po + y * 2, none⟩) hpg).trans (HPs.out y f2).1
          have g1 : decide ((x : Int) < 0) = false := by simp
          have g2 : decide ((8 : Int) ≤ (x : Int)) = false := by simp; omega
          have g2n : decide (8 ≤ x) = false := by simp; omega
          have g3 : decide ((y : Int) < 0) = false := by simp
          have g4 : decide ((8 : Int) ≤ (y : Int)) = false := by simp; omega
          have g4n : decide (8 ≤ y) = false := by simp; omega
          have g5 : decide (st.bg y ≤ st.en x) = false := by simp; omega
          have g6 : st.en x < st.bg y := f3
          have g7 : (x : Int) < 8 := by omega
          have g8 : (y : Int) < 8 := by omega
          clear y0 y1
          go_wp2_with fail
          go_quiet (fail)
          go_wp2_with fail
          go_quiet (fail)
          go_wp2
          go_roundw
          case rel => exact ⟨j + 1, by rw [show ((j + 1 : Nat) : Int) + 1 = (j : Int) + 1 + 1 by omega], below_drewN HB.out _, .inr (by omega)⟩
          case measure => simp [intOf]; omega
        · have hin' : ¬ (j : Int) + 1 < ((st.ord k).length : Int) := by omega
          go_wp2
          go_roundw
          case rel => exact ⟨k + 1, by omega, by go_num, HB.out⟩
          case measure => simp [intOf]; omega
    · have hk8' : ¬ (k : Int) < 8 := by omega
      go_wp2
      go_ret
      exact ⟨rfl, belJ HB5.out HB.out⟩
end Go.Proofs.YtaopigjhdkdklaaDoor
