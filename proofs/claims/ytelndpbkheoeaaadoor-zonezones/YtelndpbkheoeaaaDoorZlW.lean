/-
  The statements ZoneZones and ZoneFits, walked.
-/
import Derived.Test.YtelndpbkheoeaaaDoorRzW
import Derived.Test.YtelndpbkheoeaaaDoorRFit
import Derived.Test.YtelndpbkheoeaaaDoorAsZ
namespace Go.Proofs.YtelndpbkheoeaaaDoor
open Go.RowKit

def ErrZ (w : World) : Prop := w.cell? ⟨1, 0, none⟩ = some (.iface 181 (.agg #[.pointer (some ⟨5, 29, none⟩)]))
theorem ztold_sorted {l : List Opn} {n : Int} {L : List Zon} (h : ZTold l n L) : L.Pairwise (fun x y => x.lo < y.lo) := by
  obtain ⟨m, _, ⟨_, _, rfl⟩ | ⟨_, _, _, rfl⟩ | ⟨_, _, _, h⟩⟩ := h
  · exact List.Pairwise.nil
  · exact List.Pairwise.nil
  · exact h.sorted
theorem OpsZ.below {w w' : World} {a : Option Addr} {cap : Nat} {l : List Opn} (h : OpsZ w a cap l) (hb : Below w.heap.size w w') : OpsZ w' a cap l := ⟨h.1.below hb, h.2⟩

set_option maxRecDepth 100000 in
set_option maxHeartbeats 2000000 in
theorem zf_walk (ops : List Opn) (u : Value) (w : World) (hl : ∃ a cap, u = .slice a ops.length cap ∧ ops.length ≤ cap ∧ ops.length ≤ maxLen ∧ OpsZ w a cap ops) (hg : ErrZ w) :
    Calls Tryd.prog 4 #[u] w fun e w' => e = .returned (.bool true) ∧ Below w.heap.size w w' := by
  obtain ⟨a, cap, rfl, hcap, hml, hh⟩ := hl
  unfold maxLen at hml
  have hpos : 1 < w.heap.size := World.block_lt_of_cell? w ⟨1, 0, none⟩ hg
  by_cases h60 : 60 < ops.length
  · have h60' : decide (60 < (ops.length : Int)) = true := by simp; omega
    clear hh hg
    go_enter Tryd.func4, Tryd.ntmps4
    go_wp2
    go_ret
    exact ⟨rfl, Below.refl _ _⟩
  · have h60' : decide (60 < (ops.length : Int)) = false := by simp; omega
    have HC1 := hideIt (rZones_any ops a cap w (by omega) hcap hh)
    have HR : Hid (∀ L v w1, ZonsH w1 v L → L.Pairwise (fun x y => x.lo < y.lo) → Calls Tryd.prog 12 #[v] w1 fun e w' => ∃ fit p q, e = .returned (.tuple #[.bool fit, .int .i64 p, .int .i64 q]) ∧ FTold L fit p q ∧ Below w1.heap.size w1 w') := fun L v w1 hz hs => rFits_any L v w1 hz hs
    have HF : Hid (∀ w1, Below w.heap.size w w1 → Calls Tryd.prog 13 #[.slice a ops.length cap] w1 fun e w' => ∃ n L fit p q, e = .returned (.tuple #[.bool fit, .int .i64 p, .int .i64 q, toldV n]) ∧ ZTold ops n L ∧ (n = 0 → FTold L fit p q) ∧ (n ≠ 0 → fit = false ∧ p = 0 ∧ q = 0) ∧ Below w1.heap.size w1 w') := fun w1 hb => fits_any ops a cap w1 (by omega) hcap (hh.1.below hb)
    have HBE : Hid (∀ (n : Int) (w1 : World), Below w.heap.size w w1 → Calls Tryd.prog 9 #[toldV n, .int .i64 n] w1 fun e w' => e = .returned (.bool true) ∧ Below w1.heap.size w1 w') := fun n w1 hb => bare_told n w1 ((hb.cell (p := ⟨1, 0, none⟩) hpos).trans hg)
    clear hh hg
    go_enter Tryd.func4, Tryd.ntmps4
    go_wp2_with fail
    refine HC1.out.mono ?_
    rintro e w1 ⟨n, v, L, rfl, hzt, hzh, hb1⟩
    have HZT := hideIt hzt
    have HZH := hideIt hzh
    have HB1 := hideIt hb1
    clear hzt hzh hb1 HC1
    by_cases hn : n = 0
    · subst hn
      go_wp2_with fail
      refine (HR.out L v _ HZH.out (ztold_sorted HZT.out)).mono ?_
      rintro e w2 ⟨fit, x, y, rfl, hxy, hb2⟩
      have HXY := hideIt hxy
      have HB2 := hideIt (HB1.out.trans (hb2.mono HB1.out.size))
      clear hxy hb2
      go_wp2_with fail
      refine (HF.out _ HB2.out).mono ?_
      rintro e w3 ⟨n', L', fit', p, q, rfl, hzt', h0, _, hb3⟩
      obtain ⟨rfl, rfl⟩ := hzt'.one HZT.out
      obtain ⟨rfl, rfl, rfl⟩ := (h0 rfl).one HXY.out
      have HB3 := hideIt (HB2.out.trans (hb3.mono HB2.out.size))
      clear hzt' h0 hb3
      obtain ⟨tv, HTV⟩ : ∃ tv, Hid (toldV 0 = tv) := ⟨_, hideIt rfl⟩
      rw [HTV.out]
      go_wp2_with fail
      refine (show Calls Tryd.prog 9 #[tv, .int .i64 0] _ _ from HTV.out ▸ (HBE.out 0 _ HB3.out)).mono ?_
      rintro e w4 ⟨rfl, hb4⟩
      have HB4 := hideIt (HB3.out.trans (hb4.mono HB3.out.size))
      clear hb4
      go_wp2
      go_ret
      exact ⟨rfl, HB4.out⟩
    · have hn' : (n == 0) = false := by simp [hn]
      go_wp2_with fail
      refine (HF.out _ HB1.out).mono ?_
      rintro e w3 ⟨n', L', fit', p, q, rfl, hzt', _, h1, hb3⟩
      obtain ⟨rfl, rfl⟩ := hzt'.one HZT.out
      obtain ⟨rfl, rfl, rfl⟩ := h1 hn
      have HB3 := hideIt (HB1.out.trans (hb3.mono HB1.out.size))
      clear hzt' h1 hb3
      obtain ⟨tv, HTV⟩ : ∃ tv, Hid (toldV n' = tv) := ⟨_, hideIt rfl⟩
      rw [HTV.out]
      go_wp2_with fail
      refine (show Calls Tryd.prog 9 #[tv, .int .i64 n'] _ _ from HTV.out ▸ (HBE.out n' _ HB3.out)).mono ?_
      rintro e w4 ⟨rfl, hb4⟩
      have HB4 := hideIt (HB3.out.trans (hb4.mono HB3.out.size))
      clear hb4
      go_wp2
      go_ret
      exact ⟨rfl, HB4.out⟩

set_option maxRecDepth 100000 in
set_option maxHeartbeats 4000000 in
theorem zz_walk (ops : List Opn) (u : Value) (w : World) (hl : ∃ a cap, u = .slice a ops.length cap ∧ ops.length ≤ cap ∧ ops.length ≤ maxLen ∧ OpsZ w a cap ops) (hg : ErrZ w) :
    Calls Tryd.prog 3 #[u] w fun e w' => e = .returned (.bool true) ∧ Below w.heap.size w w' := by
  obtain ⟨a, cap, rfl, hcap, hml, hh⟩ := hl
  unfold maxLen at hml
  have hpos : 1 < w.heap.size := World.block_lt_of_cell? w ⟨1, 0, none⟩ hg
  by_cases h60 : 60 < ops.length
  · have h60' : decide (60 < (ops.length : Int)) = true := by simp; omega
    clear hh hg
    go_enter Tryd.func3, Tryd.ntmps3
    go_wp2
    go_ret
    exact ⟨rfl, Below.refl _ _⟩
  · have h60' : decide (60 < (ops.length : Int)) = false := by simp; omega
    have HC1 := hideIt (rZones_any ops a cap w (by omega) hcap hh)
    have HP : Hid (∀ w1, Below w.heap.size w w1 → Calls Tryd.prog 8 #[.slice a ops.length cap] w1 fun e w' => ∃ n v L, e = .returned (.tuple #[v, toldV n]) ∧ ZTold ops n L ∧ ZonsH w' v L ∧ Below w1.heap.size w1 w') := fun w1 hb => zones_any ops a cap w1 (by omega) hcap (hh.1.below hb)
    have HK : Hid (∀ w1, Below w.heap.size w w1 → Calls Tryd.prog 10 #[.slice a ops.length cap] w1 fun e w' => ∃ n, e = .returned (toldV n) ∧ CTold zFormB 2 ops n ∧ Below w1.heap.size w1 w') := fun w1 hb => zCheck_any ops a cap w1 (by omega) hcap (hh.1.below hb)
    have HRC : Hid (∀ w1, Below w.heap.size w w1 → Calls Tryd.prog 11 #[.slice a ops.length cap] w1 fun e w' => ∃ n, e = .returned (.int .i64 n) ∧ CTold zFormB 2 ops n ∧ Below w1.heap.size w1 w') := fun w1 hb => rCheck_any ops a cap w1 (by omega) hcap (hh.1.below hb)
    have HBE : Hid (∀ (n : Int) (w1 : World), Below w.heap.size w w1 → Calls Tryd.prog 9 #[toldV n, .int .i64 n] w1 fun e w' => e = .returned (.bool true) ∧ Below w1.heap.size w1 w') := fun n w1 hb => bare_told n w1 ((hb.cell (p := ⟨1, 0, none⟩) hpos).trans hg)
    clear hh hg
    go_enter Tryd.func3, Tryd.ntmps3
    go_wp2_with fail
    refine HC1.out.mono ?_
    rintro e w1 ⟨n, v1, L, rfl, hzt, hzh, hb1⟩
    have HZT := hideIt hzt
    obtain ⟨a1, c1, rfl, hc1, hL1, hz1⟩ := hzh
    have HZ1 := hideIt hz1
    have HB1 := hideIt hb1
    clear hzt hz1 hb1 HC1
    go_wp2_with fail
    refine (HP.out _ HB1.out).mono ?_
    rintro e w2 ⟨n', v2, L', rfl, hzt', hzh', hb2⟩
    obtain ⟨rfl, rfl⟩ := hzt'.one HZT.out
    obtain ⟨a2, c2, rfl, hc2, hL2, hz2⟩ := hzh'
    have HZ2 := hideIt hz2
    have HBa := hideIt hb2
    have HB2 := hideIt (HB1.out.trans (hb2.mono HB1.out.size))
    clear hzt' hz2 hb2
    obtain ⟨tv, HTV⟩ : ∃ tv, Hid (toldV n' = tv) := ⟨_, hideIt rfl⟩
    rw [HTV.out]
    go_wp2_with fail
    refine (show Calls Tryd.prog 9 #[tv, .int .i64 n'] _ _ from HTV.out ▸ (HBE.out n' _ HB2.out)).mono ?_
    rintro e w3 ⟨rfl, hb3⟩
    have HBb := hideIt hb3
    have HB3 := hideIt (HB2.out.trans (hb3.mono HB2.out.size))
    clear hb3
    go_wp2_with fail
    refine (HK.out _ HB3.out).mono ?_
    rintro e w4 ⟨m, rfl, hcm, hb4⟩
    have HCM := hideIt hcm
    have HBc := hideIt (HBb.out.trans (hb4.mono HBb.out.size))
    have HB4 := hideIt (HB3.out.trans (hb4.mono HB3.out.size))
    clear hcm hb4
    obtain ⟨tm, HTM⟩ : ∃ tm, Hid (toldV m = tm) := ⟨_, hideIt rfl⟩
    rw [HTM.out]
    go_wp2_with fail
    refine (HRC.out _ HB4.out).mono ?_
    rintro e w5 ⟨m', rfl, hcm', hb5⟩
    obtain rfl := hcm'.one HCM.out
    have HBd := hideIt (HBc.out.trans (hb5.mono HBc.out.size))
    have HB5 := hideIt (HB4.out.trans (hb5.mono HB4.out.size))
    clear hcm' hb5
    go_wp2_with fail
    refine (show Calls Tryd.prog 9 #[tm, .int .i64 m'] _ _ from HTM.out ▸ (HBE.out m' _ HB5.out)).mono ?_
    rintro e w6 ⟨rfl, hb6⟩
    have HBe := hideIt (HBd.out.trans (hb6.mono HBd.out.size))
    have HB6 := hideIt (HB5.out.trans (hb6.mono HB5.out.size))
    have HBf := hideIt (HBa.out.trans (HBe.out.mono HBa.out.size))
    clear hb6
    go_wp2_with fail
    go_loopw [7] (fun i wr => ∃ k : Nat, k ≤ L'.length ∧ i = .int .i64 k ∧ Below w6.heap.size w6 wr) (fun i _ => L'.length - (intOf i).toNat)
    case atStart => exact ⟨0, Nat.zero_le _, rfl, Below.refl _ _⟩
    case round =>
      obtain ⟨k, hk, rfl, hnx⟩ := hrel
      have HNX := hideIt hnx
      clear hnx
      by_cases hkl : k < L'.length
      · rcases HZ1.out with h0 | ⟨g1, rfl, hg1, hza1⟩
        · rw [h0] at hkl; simp at hkl
        · rcases HZ2.out with h0 | ⟨g2, rfl, hg2, hza2⟩
          · rw [h0] at hkl; simp at hkl
          · obtain ⟨e0, e1, e2, e3⟩ := (hza1 k hkl).below hg1 (HBf.out.trans (HNX.out.mono HBf.out.size))
            obtain ⟨f0, f1, f2, f3⟩ := (hza2 k hkl).below hg2 (HBe.out.trans (HNX.out.mono HBe.out.size))
            rw [Nat.zero_add] at e0 e1 e2 e3 f0 f1 f2 f3
            generalize L'[k] = z at e0 e1 e2 e3 f0 f1 f2 f3
            have hkI : (k : Int) < (L'.length : Int) := by omega
            clear hza1 hza2
            go_wp2_with fail
            go_big_quiet (fail)
            go_wp2
            go_roundw
            case rel => exact ⟨k + 1, by omega, by go_num, below_drewN HNX.out _⟩
            case measure => simp [intOf]; omega
      · have hkI : ¬ (k : Int) < (L'.length : Int) := by omega
        have R := hideIt (HB6.out.trans (HNX.out.mono HB6.out.size))
        go_wp2
        go_ret
        exact ⟨rfl, R.out⟩

end Go.Proofs.YtelndpbkheoeaaaDoor
