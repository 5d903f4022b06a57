/-
  The statement NetLinks, walked.
-/
import Derived.Test.YtggdjongbmdefaaDoorLiW
import Derived.Test.YtggdjongbmdefaaDoorMoW
import Derived.Test.YtggdjongbmdefaaDoorNlW
import Derived.Test.YtggdjongbmdefaaDoorJaW
namespace Go.Proofs.YtggdjongbmdefaaDoor
open Go.RowKit

theorem most_tab {n : Nat} {r : Nat → Nat → Bool} {i : Nat} (hi : i < n) : mostB (tabL n r) (i : Int) = decide (n < 2 * (List.range n).countP (r i)) := by
  unfold mostB
  have hi' : i < (tabL n r).length := by rw [tabL_len]; exact hi
  rw [if_pos (by omega), Int.toNat_natCast, List.getElem?_eq_getElem hi', tabL_row hi', tabL_len]
  show decide (n < 2 * ((List.range n).map fun b => r i b).countP id) = _
  rw [List.countP_map]
  rfl
theorem tab_rows {n : Nat} {r : Nat → Nat → Bool} : ∀ x ∈ tabL n r, x.length = n := fun x hx => by
  obtain ⟨i, hi, rfl⟩ := List.getElem_of_mem hx
  exact tabL_row_len hi
/-- A table: where each row lies. -/
theorem tab_cells {w : World} {X : Nat → Prop} {lv : Value} {n : Nat} {r : Nat → Nat → Bool} (h0 : 0 < n) (h : LnkS w X lv (tabL n r)) : ∃ g off cap, lv = .slice (some ⟨g, off, none⟩) n cap ∧ ∀ i, i < n → ∃ rg ro rc, ∀ Z, Below w.heap.size w Z → Z.cell? ⟨g, off + i, none⟩ = some (.slice (some ⟨rg, ro, none⟩) n rc) ∧ ∀ j, j < n → Z.cell? ⟨rg, ro + j, none⟩ = some (.bool (r i j)) := by
  obtain ⟨g, off, cap, e, _⟩ := h.tab h0
  refine ⟨g, off, cap, e, fun i hi => ?_⟩
  obtain ⟨g', off', cap', e', rg, ro, rc, h1, h2⟩ := h.tab hi
  rw [e] at e'
  cases e'
  exact ⟨rg, ro, rc, fun Z hZ => ⟨(hZ.cell (p := ⟨g, off + i, none⟩) (World.block_lt_of_cell? w _ h1)).trans h1, fun j hj => (hZ.cell (p := ⟨rg, ro + j, none⟩) (World.block_lt_of_cell? w _ (h2 j hj))).trans (h2 j hj)⟩⟩

theorem most_nil (x : Int) (w : World) : Calls Tryd.prog 8 #[.slice none 0 0, .int .i64 x] w fun e w' => e = .returned (.bool false) ∧ w' = w := by
  have h := most_any x (.slice none 0 0) (fun _ => True) [] (by simp) (by simp) w ⟨none, 0, rfl, .inl rfl⟩
  have e : mostB [] x = false := by unfold mostB; split <;> simp
  rwa [e] at h

set_option maxRecDepth 100000 in
set_option maxHeartbeats 8000000 in
theorem nlinks_walk (what x who : Int) (w : World) (hg : GlE w) : Calls Tryd.prog 3 #[.int .i64 what, .int .i64 x, .int .i64 who] w fun e w' => e = .returned (.bool true) ∧ Below w.heap.size w w' := by
  have HG := hideIt hg
  clear hg
  have h64 : 0 ≤ IntKind.u64.wrap what := by rw [IntKind.wrap_u64]; omega
  obtain ⟨m, hm⟩ : ∃ m : Nat, IntKind.u64.wrap what = m := ⟨(IntKind.u64.wrap what).toNat, by omega⟩
  clear h64
  have hw5 : wrap64 ((m : Int) % 5) = ((m % 5 : Nat) : Int) := by unfold wrap64; omega
  have hw7 : wrap64 (7 + (m : Int) % 5) = 7 + ((m % 5 : Nat) : Int) := by unfold wrap64; omega
  have hm5 : m % 5 < 5 := Nat.mod_lt _ (by omega)
  go_enter Tryd.func3, Tryd.ntmps3
  go_wp2_with fail
  obtain ⟨q, hq⟩ : ∃ q : Int, q = 7 + (m : Int) % 5 := ⟨_, rfl⟩
  have hq7 : 7 ≤ q ∧ q ≤ 11 := by omega
  rw [← hq]
  clear hq hw5 hw7 hm5 hm
  have hru : ruleW q = q - 7 := by unfold ruleW; split <;> omega
  have HRu := hideIt hru
  have HL := hideIt (links_any q x who w)
  clear hru
  refine HL.out.mono ?_
  clear HL
  rintro e W (⟨h1, rfl, hb⟩ | ⟨h1, h0, h2, rfl, hb⟩ | ⟨n, rfl, h1, h2, lv, rfl, h3, hb⟩)
  · have HB := hideIt hb
    have HBr := hideIt (bare_any 4 W (HG.out.below hb))
    rw [toldV_pos (by decide)] at HBr
    have HMo : Hid (∀ Z, Calls Tryd.prog 8 #[.slice none 0 0, .int .i64 who] Z fun e w' => e = .returned (.bool false) ∧ w' = Z) := fun Z => most_nil who Z
    unfold badV
    clear hb
    rcases h1 with h1 | h1
    · have g1 : decide (x < 1) = true := decide_eq_true h1
      go_wp2_with fail
      refine HBr.out.mono ?_
      rintro e W1 ⟨rfl, hb1⟩
      have HB1 := hideIt (belJ HB.out hb1)
      clear hb1
      go_wp2_with fail
      refine (HMo.out _).mono ?_
      rintro e W2 ⟨rfl, rfl⟩
      go_wp2
      go_ret
      exact ⟨rfl, HB1.out⟩
    · have g1 : decide (x < 1) = false := decide_eq_false (by omega)
      have g2 : decide (x > 7) = true := decide_eq_true h1
      go_wp2_with fail
      refine HBr.out.mono ?_
      rintro e W1 ⟨rfl, hb1⟩
      have HB1 := hideIt (belJ HB.out hb1)
      clear hb1
      go_wp2_with fail
      refine (HMo.out _).mono ?_
      rintro e W2 ⟨rfl, rfl⟩
      go_wp2
      go_ret
      exact ⟨rfl, HB1.out⟩
  · have HB := hideIt hb
    have HBr := hideIt (bare_any 2 W (HG.out.below hb))
    rw [toldV_pos (by decide)] at HBr
    have HMo : Hid (∀ Z, Calls Tryd.prog 8 #[.slice none 0 0, .int .i64 who] Z fun e w' => e = .returned (.bool false) ∧ w' = Z) := fun Z => most_nil who Z
    have hq11 : q = 11 := by have := HRu.out; omega
    subst hq11
    have g1 : decide (x < 1) = false := decide_eq_false (by omega)
    have g2 : decide (x > 7) = false := decide_eq_false (by omega)
    unfold badV
    clear hb h0
    rcases h2 with h2 | h2
    · have g3 : decide (who < 0) = true := decide_eq_true h2
      go_wp2_with fail
      refine HBr.out.mono ?_
      rintro e W1 ⟨rfl, hb1⟩
      have HB1 := hideIt (belJ HB.out hb1)
      clear hb1
      go_wp2_with fail
      refine (HMo.out _).mono ?_
      rintro e W2 ⟨rfl, rfl⟩
      go_wp2
      go_ret
      exact ⟨rfl, HB1.out⟩
    · have g3 : decide (who < 0) = false := decide_eq_false (by omega)
      have g4 : decide (who ≥ x) = true := decide_eq_true h2
      go_wp2_with fail
      refine HBr.out.mono ?_
      rintro e W1 ⟨rfl, hb1⟩
      have HB1 := hideIt (belJ HB.out hb1)
      clear hb1
      go_wp2_with fail
      refine (HMo.out _).mono ?_
      rintro e W2 ⟨rfl, rfl⟩
      go_wp2
      go_ret
      exact ⟨rfl, HB1.out⟩
  · have HB := hideIt hb
    have hn' : (1 : Int) ≤ n ∧ (n : Int) ≤ 7 := by omega
    rw [HRu.out] at h3 h2
    have HLd : Hid (∀ Z (a b : Nat), a < n → b < n → Calls Tryd.prog 9 #[.int .i64 (q - 7), .int .i64 (n : Int), .int .i64 who, .int .i64 (a : Int), .int .i64 (b : Int)] Z fun e w' => e = .returned (.bool (linkN (q - 7) n who a b)) ∧ w' = Z) := fun Z a b ha hb => linked_any (q - 7) n who a b hn' (by omega) (by omega) Z
    have g1 : decide ((n : Int) < 1) = false := decide_eq_false (by omega)
    have g2 : decide ((n : Int) > 7) = false := decide_eq_false (by omega)
    have HMo : Hid (∀ Z, Below W.heap.size W Z → ∀ i, i < n → Calls Tryd.prog 8 #[lv, .int .i64 (i : Int)] Z fun e w' => e = .returned (.bool (decide (n < 2 * (List.range n).countP (linkN (q - 7) n who i)))) ∧ w' = Z) := fun Z hZ i hi => by
      have := most_any (i : Int) lv _ (tabL n (linkN (q - 7) n who)) (by rw [tabL_len]; omega) (fun x hx => by rw [tab_rows x hx]; omega) Z (h3.below hZ (Nat.le_refl _))
      rwa [most_tab hi] at this
    have HMx : Hid (∀ Z, Below W.heap.size W Z → Calls Tryd.prog 8 #[lv, .int .i64 (-1)] Z (fun e w' => e = .returned (.bool false) ∧ w' = Z) ∧ Calls Tryd.prog 8 #[lv, .int .i64 (n : Int)] Z (fun e w' => e = .returned (.bool false) ∧ w' = Z)) := fun Z hZ => by
      have h5 := fun y => most_any y lv _ (tabL n (linkN (q - 7) n who)) (by rw [tabL_len]; omega) (fun x hx => by rw [tab_rows x hx]; omega) Z (h3.below hZ (Nat.le_refl _))
      have e1 : mostB (tabL n (linkN (q - 7) n who)) (-1) = false := by unfold mostB; rw [if_neg (by omega)]
      have e2 : mostB (tabL n (linkN (q - 7) n who)) (n : Int) = false := by unfold mostB; rw [if_pos (by omega), List.getElem?_eq_none (by rw [tabL_len]; omega)]
      have h6 := h5 (-1)
      have h7 := h5 n
      rw [e1] at h6
      rw [e2] at h7
      exact ⟨h6, h7⟩
    have hw7 : IntKind.i64.wrap (q - 7) = q - 7 := IntWalk.i64_in _ (by omega)
    obtain ⟨g, off, cap, rfl, hT⟩ := tab_cells (by omega) h3
    have HT := hideIt hT
    have g6 : (q == 11) = false ∨ ((q == 11) = true ∧ decide (who < 0) = false ∧ decide (who ≥ (n : Int)) = false) := by
      by_cases e : q = 11
      · have h5 := h2 (by omega)
        exact .inr ⟨by simp [e], decide_eq_false (by omega), decide_eq_false (by omega)⟩
      · exact .inl (by simp [e])
    generalize linkN (q - 7) n who = r at *
    clear hT h3 hb h2
    rcases g6 with g6 | ⟨g6, g7, g8⟩
    · skip
      go_wp2
      go_loopw [10] (fun v wr => ∃ a : Nat, a ≤ n ∧ v = .int .i64 a ∧ Below W.heap.size W wr) (fun v _ => n - (intOf v).toNat)
      case atStart => exact ⟨0, Nat.zero_le _, rfl, Below.refl _ _⟩
      case round =>
        obtain ⟨a, ha, rfl, hbr⟩ := hrel
        have HBr := hideIt hbr
        clear hbr
        by_cases han : a < n
        · have han' : (a : Int) < n := by omega
          obtain ⟨rg, ro, rc, hra⟩ := HT.out a han
          have HRa := hideIt hra
          clear hra
          have c0 := (HRa.out wr HBr.out).1
          go_wp2
          clear c0
          go_loopw [12, 11] (fun v mv wr => ∃ b : Nat, b ≤ n ∧ v = .int .i64 b ∧ mv = .int .i64 (((List.range b).countP (r a) : Nat) : Int) ∧ Below W.heap.size W wr) (fun v _ _ => n - (intOf v).toNat)
          case atStart => exact ⟨0, Nat.zero_le _, rfl, rfl, HBr.out⟩
          case round =>
            clear HBr
            obtain ⟨b, hbn, rfl, rfl, hbr⟩ := hrel
            have HBr := hideIt hbr
            clear hbr
            have hcl : (List.range b).countP (r a) ≤ 7 := Nat.le_trans List.countP_le_length (by simp; omega)
            by_cases hb : b < n
            · have hbi : (b : Int) < n := by omega
              have HN : Hid ((List.range (b + 1)).countP (r a) = (List.range b).countP (r a) + if r a b = true then 1 else 0) := by
                show _ = _
                rw [List.range_succ, List.countP_append, List.countP_singleton]
              have c0 := (HRa.out wr HBr.out).1
              have c1 := (HRa.out wr HBr.out).2 b hb
              have HC := hideIt (fun qq : Nat => HLd.out (wr.drewN qq) a b han hb)
              have HRz : Hid (∀ Z, Below W.heap.size W Z → Z.cell? ⟨g, off + a, none⟩ = some (.slice (some ⟨rg, ro, none⟩) n rc) ∧ Z.cell? ⟨rg, ro + b, none⟩ = some (.bool (r a b))) := fun Z hZ => ⟨(HRa.out Z hZ).1, (HRa.out Z hZ).2 b hb⟩
              generalize (List.range b).countP (r a) = c9 at *
              generalize r a b = rab at *
              have hne : (rab != rab) = false := by simp
              go_wp2_with fail
              go_quiet ((go_at_call 9; exact Calls.quiet_of_same (HC.out _)))
              generalize hV : wr.drewN _ = V
              have HBV : Hid (Below W.heap.size W V) := by rw [← hV]; exact below_drewN HBr.out _
              clear hV c0 c1 HC
              obtain ⟨c0, c1⟩ := HRz.out V HBV.out
              cases rab
              · go_wp2
                go_roundw
                case rel => exact ⟨b + 1, by omega, by go_num, by rw [HN.out]; simp, HBV.out⟩
                case measure => simp [intOf]; omega
              · go_wp2
                go_roundw
                case rel => exact ⟨b + 1, by omega, by go_num, by rw [HN.out]; simp, HBV.out⟩
                case measure => simp [intOf]; omega
            · obtain rfl : b = n := by omega
              have HM1 := hideIt (HMo.out wr HBr.out a han)
              generalize (List.range b).countP (r a) = c9 at *
              go_wp2_with fail
              refine HM1.out.mono ?_
              rintro e w4 ⟨rfl, rfl⟩
              have hde : (decide (b < 2 * c9) != decide (2 * (c9 : Int) > (b : Int))) = false := by
                have : decide (b < 2 * c9) = decide (2 * (c9 : Int) > (b : Int)) := decide_eq_decide.2 (by omega)
                rw [this]; simp
              have hde2 : decide (b < 2 * c9) = decide ((b : Int) < 2 * (c9 : Int)) := decide_eq_decide.2 (by omega)
              clear HM1
              go_wp2
              go_roundw
              case rel => exact ⟨a + 1, by omega, by go_num, HBr.out⟩
              case measure => simp [intOf]; omega
        · obtain rfl : a = n := by omega
          have HM1 := hideIt (HMx.out wr HBr.out).1
          have HM2 := hideIt (HMx.out wr HBr.out).2
          go_wp2_with fail
          refine HM1.out.mono ?_
          rintro e w4 ⟨rfl, rfl⟩
          go_wp2_with fail
          refine HM2.out.mono ?_
          rintro e w5 ⟨rfl, rfl⟩
          go_wp2
          go_ret
          exact ⟨rfl, belJ HB.out HBr.out⟩
    · skip
      go_wp2
      go_loopw [10] (fun v wr => ∃ a : Nat, a ≤ n ∧ v = .int .i64 a ∧ Below W.heap.size W wr) (fun v _ => n - (intOf v).toNat)
      case atStart => exact ⟨0, Nat.zero_le _, rfl, Below.refl _ _⟩
      case round =>
        obtain ⟨a, ha, rfl, hbr⟩ := hrel
        have HBr := hideIt hbr
        clear hbr
        by_cases han : a < n
        · have han' : (a : Int) < n := by omega
          obtain ⟨rg, ro, rc, hra⟩ := HT.out a han
          have HRa := hideIt hra
          clear hra
          have c0 := (HRa.out wr HBr.out).1
          go_wp2
          clear c0
          go_loopw [12, 11] (fun v mv wr => ∃ b : Nat, b ≤ n ∧ v = .int .i64 b ∧ mv = .int .i64 (((List.range b).countP (r a) : Nat) : Int) ∧ Below W.heap.size W wr) (fun v _ _ => n - (intOf v).toNat)
          case atStart => exact ⟨0, Nat.zero_le _, rfl, rfl, HBr.out⟩
          case round =>
            clear HBr
            obtain ⟨b, hbn, rfl, rfl, hbr⟩ := hrel
            have HBr := hideIt hbr
            clear hbr
            have hcl : (List.range b).countP (r a) ≤ 7 := Nat.le_trans List.countP_le_length (by simp; omega)
            by_cases hb : b < n
            · have hbi : (b : Int) < n := by omega
              have HN : Hid ((List.range (b + 1)).countP (r a) = (List.range b).countP (r a) + if r a b = true then 1 else 0) := by
                show _ = _
                rw [List.range_succ, List.countP_append, List.countP_singleton]
              have c0 := (HRa.out wr HBr.out).1
              have c1 := (HRa.out wr HBr.out).2 b hb
              have HC := hideIt (fun qq : Nat => HLd.out (wr.drewN qq) a b han hb)
              have HRz : Hid (∀ Z, Below W.heap.size W Z → Z.cell? ⟨g, off + a, none⟩ = some (.slice (some ⟨rg, ro, none⟩) n rc) ∧ Z.cell? ⟨rg, ro + b, none⟩ = some (.bool (r a b))) := fun Z hZ => ⟨(HRa.out Z hZ).1, (HRa.out Z hZ).2 b hb⟩
              generalize (List.range b).countP (r a) = c9 at *
              generalize r a b = rab at *
              have hne : (rab != rab) = false := by simp
              go_wp2_with fail
              go_quiet ((go_at_call 9; exact Calls.quiet_of_same (HC.out _)))
              generalize hV : wr.drewN _ = V
              have HBV : Hid (Below W.heap.size W V) := by rw [← hV]; exact below_drewN HBr.out _
              clear hV c0 c1 HC
              obtain ⟨c0, c1⟩ := HRz.out V HBV.out
              cases rab
              · go_wp2
                go_roundw
                case rel => exact ⟨b + 1, by omega, by go_num, by rw [HN.out]; simp, HBV.out⟩
                case measure => simp [intOf]; omega
              · go_wp2
                go_roundw
                case rel => exact ⟨b + 1, by omega, by go_num, by rw [HN.out]; simp, HBV.out⟩
                case measure => simp [intOf]; omega
            · obtain rfl : b = n := by omega
              have HM1 := hideIt (HMo.out wr HBr.out a han)
              generalize (List.range b).countP (r a) = c9 at *
              go_wp2_with fail
              refine HM1.out.mono ?_
              rintro e w4 ⟨rfl, rfl⟩
              have hde : (decide (b < 2 * c9) != decide (2 * (c9 : Int) > (b : Int))) = false := by
                have : decide (b < 2 * c9) = decide (2 * (c9 : Int) > (b : Int)) := decide_eq_decide.2 (by omega)
                rw [this]; simp
              have hde2 : decide (b < 2 * c9) = decide ((b : Int) < 2 * (c9 : Int)) := decide_eq_decide.2 (by omega)
              clear HM1
              go_wp2
              go_roundw
              case rel => exact ⟨a + 1, by omega, by go_num, HBr.out⟩
              case measure => simp [intOf]; omega
        · obtain rfl : a = n := by omega
          have HM1 := hideIt (HMx.out wr HBr.out).1
          have HM2 := hideIt (HMx.out wr HBr.out).2
          go_wp2_with fail
          refine HM1.out.mono ?_
          rintro e w4 ⟨rfl, rfl⟩
          go_wp2_with fail
          refine HM2.out.mono ?_
          rintro e w5 ⟨rfl, rfl⟩
          go_wp2
          go_ret
          exact ⟨rfl, belJ HB.out HBr.out⟩
end Go.Proofs.YtggdjongbmdefaaDoor
