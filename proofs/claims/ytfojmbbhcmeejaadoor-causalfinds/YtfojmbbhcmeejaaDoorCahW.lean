/-
  The statement CausalAhead, walked.
-/
import Derived.Test.YtfojmbbhcmeejaaDoorWkPZ
namespace Go.Proofs.YtfojmbbhcmeejaaDoor
open Go.RowKit

def ErrK (w : World) : Prop := w.cell? ⟨1, 0, none⟩ = some (.iface 159 (.agg #[.pointer (some ⟨5, 27, none⟩)]))

set_option maxRecDepth 100000 in
set_option maxHeartbeats 4000000 in
theorem ca_walk (l : List Opn) (u : Value) (w : World) (hl : ∃ a cap, u = .slice a l.length cap ∧ l.length ≤ cap ∧ l.length ≤ maxLen ∧ OpsQ w a l) (hg : ErrK w) :
    Calls Tryd.prog 3 #[u] w fun e w' => e = .returned (.bool true) ∧ Below w.heap.size w w' := by
  obtain ⟨a, cap, rfl, hcap, hml, hh⟩ := hl
  unfold maxLen at hml
  have hpos : 1 < w.heap.size := World.block_lt_of_cell? w ⟨1, 0, none⟩ hg
  by_cases h60 : 60 < l.length
  · have h60' : decide (60 < (l.length : Int)) = true := by simp; omega
    clear hh hg
    go_enter Tryd.func3, Tryd.ntmps3
    go_wp2
    go_ret
    exact ⟨rfl, Below.refl _ _⟩
  · have h60' : decide (60 < (l.length : Int)) = false := by simp; omega
    have HC1 := hideIt (rkCheck_any l a cap w (by omega) hcap hh)
    have HC2 : Hid (∀ w1, Below w.heap.size w w1 → Calls Tryd.prog 11 #[.slice a l.length cap] w1 fun e w' => ∃ n, e = .returned (toldV n) ∧ KTold l n ∧ Below w1.heap.size w1 w') := fun w1 hb => kCheck_any l a cap w1 (by omega) hcap (hh.below hb)
    have HRd : Hid (∀ w1 i, i < l.length → Below w.heap.size w w1 → Calls Tryd.prog 12 #[.slice a l.length cap, .int .i64 (i : Nat)] w1 fun e w' => e = .returned (.int .i64 (readsD l i)) ∧ Below w1.heap.size w1 w') := fun w1 i hi hb => reads_any l a cap i w1 (by omega) (hh.below hb) hi
    have HA7 : Hid (∀ w1, Below w.heap.size w w1 → Calls Tryd.prog 13 #[.slice a l.length cap] w1 fun e w' => A7Told l w1 e w') := fun w1 hb => ahead7_any l a cap w1 (by omega) (hh.below hb)
    have HAh : Hid (∀ w1, Below w.heap.size w w1 → Calls Tryd.prog 14 #[.slice a l.length cap] w1 fun e w' => AhTold l w1 e w') := fun w1 hb => kAhead_any l a cap w1 (by omega) hcap (hh.below hb)
    have HBE : Hid (∀ (n : Int) (w1 : World), Below w.heap.size w w1 → Calls Tryd.prog 10 #[toldV n, .int .i64 n] w1 fun e w' => e = .returned (.bool true) ∧ Below w1.heap.size w1 w') := fun n w1 hb => bare_told n w1 ((hb.cell (p := ⟨1, 0, none⟩) hpos).trans hg)
    clear hh hg
    go_enter Tryd.func3, Tryd.ntmps3
    go_wp2_with fail
    refine HC1.out.mono ?_
    rintro e w1 ⟨n, rfl, hct, hb1⟩
    have HCT := hideIt hct
    have HB1 := hideIt hb1
    clear hct hb1 HC1
    obtain ⟨tv, HTV⟩ : ∃ tv, Hid (toldV n = tv) := ⟨_, hideIt rfl⟩
    go_wp2_with fail
    refine (HC2.out _ HB1.out).mono ?_
    rintro e w2 ⟨n2, rfl, hct2, hb2⟩
    obtain rfl := hct2.one HCT.out
    rw [HTV.out]
    have HB2 := hideIt (belJ HB1.out hb2)
    clear hct2 hb2
    go_wp2_with fail
    refine (show Calls Tryd.prog 10 #[tv, .int .i64 n2] _ _ from HTV.out ▸ (HBE.out n2 _ HB2.out)).mono ?_
    rintro e w3 ⟨rfl, hb3⟩
    have HB3 := hideIt (belJ HB2.out hb3)
    clear hb3
    by_cases hn : n2 = 0
    · subst hn
      have HOk := hideIt (kOk_of HCT.out)
      go_wp2
      go_loopw [3, 4] (fun v q wr => ∃ (k : Nat) (z : Int), k ≤ l.length ∧ v = .int .i64 z ∧ q = .int .i64 k ∧ ((z = 0 ∧ ∀ j, j < k → thinB l j = false) ∨ (z = 8 ∧ firstN (thinB l) l.length ≠ none)) ∧ Below w.heap.size w wr) (fun v q _ => l.length - (intOf q).toNat)
      case atStart => exact ⟨0, 0, Nat.zero_le _, rfl, rfl, .inl ⟨rfl, fun j hj => absurd hj (by omega)⟩, HB3.out⟩
      case round =>
        clear HB3
        obtain ⟨k, z, hk, rfl, rfl, hz, hb4⟩ := hrel
        have HB4 := hideIt hb4
        clear hb4
        have HZ := hideIt hz
        clear hz
        have HEnd : Hid (∀ z, z = 0 ∨ z = 8 → True) := fun _ _ => trivial
        by_cases hz0 : z = 0
        · subst hz0
          have HTh : Hid (∀ j, j < k → thinB l j = false) := by
            rcases HZ.out with h | h
            · exact h.2
            · exact absurd h.1 (by decide)
          clear HZ
          by_cases hkl : k < l.length
          · have HR := hideIt (HRd.out wr k hkl HB4.out)
            have HRT := hideIt (readsD_thin HOk.out hkl)
            cases ht : thinB l k
            · rw [ht] at HRT
              have hr := HRT.out
              have R1 : Hid (∀ j, j < k + 1 → thinB l j = false) := fun j hj => by
                by_cases e : j = k
                · subst e; exact ht
                · exact HTh.out j (by omega)
              generalize readsD l k = rd at HR hr
              clear ht
              go_wp2_with (go_at_call 12; refine HR.out.mono ?_; rintro e w5 ⟨rfl, hb5⟩)
              go_roundw
              case rel => exact ⟨k + 1, 0, by omega, by go_num, by go_num, .inl ⟨rfl, R1.out⟩, belJ HB4.out hb5⟩
              case measure => simp [intOf]; omega
            · rw [ht] at HRT
              have hr := HRT.out
              have R1 : Hid (firstN (thinB l) l.length ≠ none) := by
                show firstN (thinB l) l.length ≠ none
                rw [firstN_at hkl HTh.out ht]; simp
              generalize readsD l k = rd at HR hr
              clear ht
              go_wp2_with (go_at_call 12; refine HR.out.mono ?_; rintro e w5 ⟨rfl, hb5⟩)
              go_roundw
              case rel => exact ⟨k + 1, 8, by omega, by go_num, by go_num, .inr ⟨rfl, R1.out⟩, belJ HB4.out hb5⟩
              case measure => simp [intOf]; omega
          · have HNo : Hid (firstN (thinB l) l.length = none) := firstN_none fun j hj => HTh.out j (by omega)
            go_wp2_with fail
            refine (HA7.out _ HB4.out).mono ?_
            rintro e w5 ⟨v, gs, A, rfl, ho, hgl, hA, hb5⟩
            have HB5 := hideIt (belJ HB4.out hb5)
            have HRM : Hid (∀ W, Below w5.heap.size w5 W → ReadM W v l.length (aheadK l)) := fun W hW =>
              ((ho.below hW (Nat.le_refl _)).same (fun i k hi hk => aheadK_of HOk.out hA (by omega) hk)).readM hgl
            obtain ⟨va, vc, hv, _⟩ := HRM.out w5 (Below.refl _ _)
            subst hv
            clear ho hA hb5
            go_wp2_with fail
            refine (HAh.out _ HB5.out).mono ?_
            rintro e w6 ⟨hb6, h6⟩
            obtain ⟨B, rb, hmat, rfl⟩ : ∃ B rb, MatAt w6 w5.heap.size B l.length l.length rb (aheadK l) ∧ e = .returned (.tuple #[.slice (some ⟨B, 0, none⟩) l.length l.length, .nilIface]) := by
              rcases h6 with ⟨m, hm, ht, _⟩ | ⟨_, h, _⟩ | ⟨_, _, B, rb, hmat, e⟩
              · exact absurd (ht.one HCT.out) hm
              · exact absurd HNo.out h
              · exact ⟨B, rb, hmat, e⟩
            have HMat := hideIt hmat
            have HB6 := hideIt (belJ HB5.out hb6)
            have H6 := hideIt hb6
            clear h6 hmat hb6
            go_wp2_with fail
            refine (show Calls Tryd.prog 10 #[.nilIface, .int .i64 0] _ _ from toldV_zero ▸ (HBE.out 0 _ HB6.out)).mono ?_
            rintro e w7 ⟨rfl, hb7⟩
            have HS := hideIt (sameBools_any l.length (by omega) (aheadK l) _ _ w7 (HMat.out.below hb7).readM (HRM.out w7 (belJ H6.out hb7)))
            have HB7 := hideIt (belJ HB6.out hb7)
            clear hb7
            go_wp2_with fail
            refine HS.out.mono ?_
            rintro e w8 ⟨rfl, hb8⟩
            go_wp2
            go_ret
            exact ⟨rfl, belJ HB7.out hb8⟩
        · obtain ⟨rfl, HNo⟩ : z = 8 ∧ Hid (firstN (thinB l) l.length ≠ none) := by
            rcases HZ.out with h | h
            · exact absurd h.1 hz0
            · exact ⟨h.1, h.2⟩
          clear hz0 HZ
          by_cases hkl : k < l.length
          all_goals
            go_wp2_with fail
            refine (HAh.out _ HB4.out).mono ?_
            rintro e w6 ⟨hb6, h6⟩
            obtain rfl : e = .returned (.tuple #[.slice none 0 0, toldV 8]) := by
              rcases h6 with ⟨m, hm, ht, _⟩ | ⟨_, _, e⟩ | ⟨_, h, _⟩
              · exact absurd (ht.one HCT.out) hm
              · exact e
              · exact absurd h HNo.out
            have HB6 := hideIt (belJ HB4.out hb6)
            clear h6 hb6
            obtain ⟨tw, HTW⟩ : ∃ tw, Hid (toldV 8 = tw) := ⟨_, hideIt rfl⟩
            rw [HTW.out]
            go_wp2_with fail
            refine (show Calls Tryd.prog 10 #[tw, .int .i64 8] _ _ from HTW.out ▸ (HBE.out 8 _ HB6.out)).mono ?_
            rintro e w7 ⟨rfl, hb7⟩
            have HS := hideIt (sameBools_any 0 (by omega) (fun _ _ => false) _ _ w7 (readM_nil w7 _) (readM_nil w7 _))
            have HB7 := hideIt (belJ HB6.out hb7)
            clear hb7
            go_wp2_with fail
            refine HS.out.mono ?_
            rintro e w8 ⟨rfl, hb8⟩
            go_wp2
            go_ret
            exact ⟨rfl, belJ HB7.out hb8⟩
    · have hn' : (n2 == 0) = false := by simp [hn]
      go_wp2
      refine wp_loop_rounds 1 ?_
      rw [rounds_succ]
      by_cases h0 : 0 < l.length
      all_goals
        go_wp2_with fail
        refine (HAh.out _ HB3.out).mono ?_
        rintro e w6 ⟨hb6, h6⟩
        obtain rfl : e = .returned (.tuple #[.slice none 0 0, toldV n2]) := by
          rcases h6 with ⟨m, hm, ht, e⟩ | ⟨ht, _, _⟩ | ⟨ht, _, _⟩
          · obtain rfl := ht.one HCT.out; exact e
          · exact absurd (HCT.out.one ht) hn
          · exact absurd (HCT.out.one ht) hn
        have HB6 := hideIt (belJ HB3.out hb6)
        clear h6 hb6
        rw [HTV.out]
        go_wp2_with fail
        refine (show Calls Tryd.prog 10 #[tv, .int .i64 n2] _ _ from HTV.out ▸ (HBE.out n2 _ HB6.out)).mono ?_
        rintro e w7 ⟨rfl, hb7⟩
        have HS := hideIt (sameBools_any 0 (by omega) (fun _ _ => false) _ _ w7 (readM_nil w7 _) (readM_nil w7 _))
        have HB7 := hideIt (belJ HB6.out hb7)
        clear hb7
        go_wp2_with fail
        refine HS.out.mono ?_
        rintro e w8 ⟨rfl, hb8⟩
        go_wp2
        go_ret
        exact ⟨rfl, belJ HB7.out hb8⟩

end Go.Proofs.YtfojmbbhcmeejaaDoor
