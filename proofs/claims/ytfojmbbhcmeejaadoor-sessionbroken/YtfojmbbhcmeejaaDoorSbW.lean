/-
  The statement SessionBroken, walked.
-/
import Derived.Test.YtfojmbbhcmeejaaDoorRsWZ
import Derived.Test.YtfojmbbhcmeejaaDoorAsZ
import Derived.Test.YtfojmbbhcmeejaaDoorRpWZ
namespace Go.Proofs.YtfojmbbhcmeejaaDoor
open Go.RowKit

def ErrS (w : World) : Prop := w.cell? ⟨1, 0, none⟩ = some (.iface 159 (.agg #[.pointer (some ⟨5, 27, none⟩)]))

theorem four_of_own {w : World} {base : Nat} {v : Value} {f : Nat → Int × Int} (h : w.ownsRow base 57 2 v 4 (flatP f 4)) : ∃ g c, v = .slice (some ⟨g, 0, none⟩) 4 c ∧ 4 ≤ c ∧ FourAt w g f := by
  obtain ⟨hl, ⟨_, h0⟩ | ⟨g, cap, cur, rfl, hb, hh, h1, h2, h3, h4⟩⟩ := h
  · cases h0
  · have hc : ∀ i, i < 8 → w.cell? ⟨g, i, none⟩ = (flatP f 4)[i]? := fun i hi => by
      rw [cell_of_row _ _ _ _ 57 _ hh, ← h4, List.getElem?_take_of_lt (by omega), Array.getElem?_toList]
    refine ⟨g, cap, rfl, h1, ⟨⟨cur, 57, hh⟩, fun q hq => ?_⟩⟩
    rw [hc _ (by omega), hc _ (by omega)]
    match q, hq with
    | 0, _ => exact ⟨rfl, rfl⟩
    | 1, _ => exact ⟨rfl, rfl⟩
    | 2, _ => exact ⟨rfl, rfl⟩
    | 3, _ => exact ⟨rfl, rfl⟩
    | q + 4, h => omega

set_option maxRecDepth 100000 in
set_option maxHeartbeats 4000000 in
theorem sb_walk (l : List Opn) (V : List (List Int)) (u v : Value) (w : World) (hl : ∃ a cap, u = .slice a l.length cap ∧ l.length ≤ cap ∧ l.length ≤ maxLen ∧ OpsQ w a l) (hv : VersAt w v V) (hs : ShortV V) (hg : ErrS w) :
    Calls Tryd.prog 7 #[u, v] w fun e w' => e = .returned (.bool true) ∧ Below w.heap.size w w' := by
  obtain ⟨a, cap, rfl, hcap, hml, hh⟩ := hl
  unfold maxLen at hml
  have hpos : 1 < w.heap.size := World.block_lt_of_cell? w ⟨1, 0, none⟩ hg
  have hVl := hs.1
  have HBE : Hid (∀ (n : Int) (w1 : World), Below w.heap.size w w1 → Calls Tryd.prog 10 #[toldV n, .int .i64 n] w1 fun e w' => e = .returned (.bool true) ∧ Below w1.heap.size w1 w') := fun n w1 hb => bare_told n w1 ((hb.cell (p := ⟨1, 0, none⟩) hpos).trans hg)
  have HV := hideIt hv
  have HQ := hideIt hh
  have HSh := hideIt hs
  obtain ⟨va, vc, rfl, hvc, _⟩ := hv
  clear hh hg hs
  go_enter Tryd.func7, Tryd.ntmps7
  go_wp2
  go_loopw [5, 6] (fun n i wr => ∃ (k : Nat) (z : Int), k ≤ V.length ∧ n = .int .i64 z ∧ i = .int .i64 k ∧ Below w.heap.size w wr) (fun _ i _ => V.length - (intOf i).toNat)
  case atStart => exact ⟨0, 0, Nat.zero_le _, rfl, rfl, Below.refl _ _⟩
  case round =>
    obtain ⟨k, z, hk, rfl, rfl, hb0⟩ := hrel
    have HB0 := hideIt hb0
    clear hb0
    by_cases hkV : k < V.length
    · obtain ⟨vb, vo, rfl, sa, sn, sc, c1⟩ : ∃ vb vo, va = some ⟨vb, vo, none⟩ ∧ ∃ sa sn sc, wr.cell? ⟨vb, vo + k, none⟩ = some (.slice sa sn sc) := by
        obtain ⟨a', cap', e, _, h⟩ := HV.out.below HB0.out
        injection e with e1 e2 e3
        subst e1
        rcases h with h | ⟨b, off, e, _, h⟩
        · subst h; simp at hkV
        · obtain ⟨s, h1, sa, sc, e2, _⟩ := h k hkV
          subst e2
          exact ⟨b, off, e, sa, _, sc, h1⟩
      go_wp2
      go_roundw
      case rel => exact ⟨k + 1, _, by omega, rfl, by go_num, HB0.out⟩
      case measure => simp [intOf]; omega
    · obtain rfl : k = V.length := by omega
      clear hkV hk
      by_cases h60 : 60 < l.length
      · have h60' : decide (60 < (l.length : Int)) = true := by simp; omega
        go_wp2
        go_ret
        exact ⟨rfl, HB0.out⟩
      · have h60' : decide (60 < (l.length : Int)) = false := by simp; omega
        by_cases hz : 150 < z
        · have hz' : decide (150 < z) = true := by simp; omega
          go_wp2
          go_ret
          exact ⟨rfl, HB0.out⟩
        · have hz' : decide (150 < z) = false := by simp; omega
          have H20 := hideIt (rsCheck_any l V a cap _ wr (by omega) hcap (HQ.out.below HB0.out) (HV.out.below HB0.out) HSh.out)
          have H21 : Hid (∀ W, SOk l V → Below w.heap.size w W → Calls Tryd.prog 21 #[.slice a l.length cap, .slice va V.length vc] W fun e w' => ∃ v', e = .returned v' ∧ w'.ownsRow W.heap.size 57 2 v' 4 (flatP (brkI l V) 4) ∧ Below W.heap.size W w') := fun W so hW => rBroken_any l V so a cap _ W (HQ.out.below hW) hcap (HV.out.below hW) HSh.out
          have H22 : Hid (∀ W, Below w.heap.size w W → Calls Tryd.prog 22 #[.slice a l.length cap, .slice va V.length vc] W fun e w' => BkTold l V W e w') := fun W hW => broken_any l V a cap _ W (by omega) hcap (HQ.out.below hW) (HV.out.below hW) HSh.out
          have H23 : Hid (∀ W, Below w.heap.size w W → Calls Tryd.prog 23 #[.slice a l.length cap, .slice va V.length vc] W fun e w' => ∃ n, e = .returned (toldV n) ∧ STold l V n ∧ Below W.heap.size W w') := fun W hW => sCheck_any l V a cap _ W (by omega) hcap (HQ.out.below hW) (HV.out.below hW) HSh.out
          clear HV HQ HSh hz
          go_wp2_with fail
          refine H20.out.mono ?_
          rintro e w1 ⟨n, rfl, hst, hb1⟩
          have HST := hideIt hst
          have HB1 := hideIt (belJ HB0.out hb1)
          clear hst hb1 H20 HB0
          by_cases hn : n = 0
          · subst hn
            have HSO := hideIt (sOk_of HST.out)
            go_wp2_with fail
            refine (H21.out _ HSO.out HB1.out).mono ?_
            rintro e w2 ⟨v', rfl, hown, hb2⟩
            obtain ⟨g1, c1, rfl, hc1, hf1⟩ := four_of_own hown
            have HF1 := hideIt hf1
            have HB2 := hideIt (belJ HB1.out hb2)
            clear hown hf1 hb2 H21 HB1
            go_wp2_with fail
            refine (H22.out _ HB2.out).mono ?_
            rintro e w3 ⟨hb3, ⟨m, hm, ht, _⟩ | ⟨_, g2, hg2, hf2, rfl⟩⟩
            · exact absurd (ht.one HST.out) hm
            have HF2 := hideIt hf2
            have HF1b := hideIt (HF1.out.below hb3 HF1.out.lt)
            have HB3 := hideIt (belJ HB2.out hb3)
            clear hf2 hb3 H22 HB2 HF1 hg2
            go_wp2_with fail
            refine (show Calls Tryd.prog 10 #[.nilIface, .int .i64 0] _ _ from toldV_zero ▸ (HBE.out 0 _ HB3.out)).mono ?_
            rintro e w4 ⟨rfl, hb4⟩
            have HG1 := hideIt (HF1b.out.below hb4 HF1b.out.lt)
            have HG2 := hideIt (HF2.out.below hb4 HF2.out.lt)
            have HB4 := hideIt (belJ HB3.out hb4)
            clear hb4 HF1b HF2 HB3
            go_wp2_with fail
            refine (H23.out _ HB4.out).mono ?_
            rintro e w5 ⟨n5, rfl, ht5, hb5⟩
            obtain rfl := ht5.one HST.out
            rw [toldV_zero]
            have HF1 := hideIt (HG1.out.below hb5 HG1.out.lt)
            have HF2 := hideIt (HG2.out.below hb5 HG2.out.lt)
            have HB5 := hideIt (belJ HB4.out hb5)
            clear hb5 HG1 HG2 HB4 ht5 H23
            go_wp2_with fail
            refine (show Calls Tryd.prog 10 #[.nilIface, .int .i64 0] _ _ from toldV_zero ▸ (HBE.out 0 _ HB5.out)).mono ?_
            rintro e w6 ⟨rfl, hb6⟩
            have HG1 := hideIt (HF1.out.below hb6 HF1.out.lt)
            have HG2 := hideIt (HF2.out.below hb6 HF2.out.lt)
            have HB6 := hideIt (belJ HB5.out hb6)
            clear hb6 HF1 HF2 HB5
            go_wp2
            go_loopw [11] (fun i wr => ∃ k : Nat, k ≤ 4 ∧ i = .int .i64 k ∧ FourAt wr g1 (brkI l V) ∧ FourAt wr g2 (brkI l V) ∧ Below w.heap.size w wr) (fun i _ => 4 - (intOf i).toNat)
            case atStart => exact ⟨0, by omega, rfl, HG1.out, HG2.out, HB6.out⟩
            case round =>
              clear HG1 HG2 HB6
              obtain ⟨k, hk, rfl, hf1, hf2, hb7⟩ := hrel
              have HF1 := hideIt hf1
              have HF2 := hideIt hf2
              have HB7 := hideIt hb7
              clear hf1 hf2 hb7
              by_cases hk4 : k < 4
              · obtain ⟨a0, a1⟩ := HF1.out.at_ k hk4
                obtain ⟨b0, b1⟩ := HF2.out.at_ k hk4
                have hk4I : (k : Int) < 4 := by omega
                have hl1 := HF1.out.lt
                have hl2 := HF2.out.lt
                generalize (brkI l V k).1 = x at a0 b0
                generalize (brkI l V k).2 = y at a1 b1
                have heq := eq57
                go_upto_region 18 with fail
                go_big_quiet (fail)
                go_wp2
                go_roundw
                case rel => exact ⟨k + 1, by omega, by go_num, HF1.out.below (below_drewN (Below.refl _ _) _) HF1.out.lt, HF2.out.below (below_drewN (Below.refl _ _) _) HF2.out.lt, below_drewN HB7.out _⟩
                case measure => simp [intOf]; omega
              · obtain rfl : k = 4 := by omega
                go_wp2
                go_ret
                exact ⟨rfl, HB7.out⟩
          · go_wp2_with fail
            refine (H22.out _ HB1.out).mono ?_
            rintro e w3 ⟨hb3, ⟨m, hm, ht, rfl⟩ | ⟨ht, _⟩⟩
            rotate_left 1
            · exact absurd (HST.out.one ht) hn
            obtain rfl := ht.one HST.out
            obtain ⟨tv, HTV⟩ : ∃ tv, Hid (toldV m = tv) := ⟨_, hideIt rfl⟩
            rw [HTV.out]
            have HB3 := hideIt (belJ HB1.out hb3)
            clear hb3 ht H22 HB1 H21
            go_wp2_with fail
            refine (show Calls Tryd.prog 10 #[tv, .int .i64 m] _ _ from HTV.out ▸ (HBE.out m _ HB3.out)).mono ?_
            rintro e w4 ⟨rfl, hb4⟩
            have HB4 := hideIt (belJ HB3.out hb4)
            clear hb4 HB3
            go_wp2_with fail
            refine (H23.out _ HB4.out).mono ?_
            rintro e w5 ⟨n5, rfl, ht5, hb5⟩
            obtain rfl := ht5.one HST.out
            rw [HTV.out]
            have HB5 := hideIt (belJ HB4.out hb5)
            clear hb5 HB4 ht5 H23
            go_wp2_with fail
            refine (show Calls Tryd.prog 10 #[tv, .int .i64 n5] _ _ from HTV.out ▸ (HBE.out n5 _ HB5.out)).mono ?_
            rintro e w6 ⟨rfl, hb6⟩
            have HB6 := hideIt (belJ HB5.out hb6)
            clear hb6 HB5
            go_wp2
            go_loopw [11] (fun i wr => i = .int .i64 0 ∧ Below w.heap.size w wr) (fun _ _ => 0)
            case atStart => exact ⟨rfl, HB6.out⟩
            case round =>
              clear HB6
              obtain ⟨rfl, hb7⟩ := hrel
              have HB7 := hideIt hb7
              clear hb7
              go_wp2
              go_ret
              exact ⟨rfl, HB7.out⟩

end Go.Proofs.YtfojmbbhcmeejaaDoor
