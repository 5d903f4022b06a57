/-
  The statement IsolateFinds' body, walked.
-/
import Derived.Test.YtodanhjookgbeaaDoorJaWZ
import Derived.Test.YtodanhjookgbeaaDoorJoW
import Derived.Test.YtodanhjookgbeaaDoorJcW
import Derived.Test.YtodanhjookgbeaaDoorJlW
namespace Go.Proofs.YtodanhjookgbeaaDoor
open Go.RowKit

set_option maxRecDepth 100000 in
set_option maxHeartbeats 4000000 in
theorem finds_walk (s : ISt) (hz : StyZ s) (a b : Option Addr) (ca cb : Nat) (w : World) (h : StyQ w a ca b cb s) (hg : GlE w) :
    Calls Tryd.prog 4 #[.agg #[.slice a s.txs.length ca, .slice b s.ord.length cb]] w fun e w' => e = .returned (.bool true) ∧ Below w.heap.size w w' := by
  have HB : Hid (Below w.heap.size w (w.alloc (.cells #[.slice a s.txs.length ca, .slice b s.ord.length cb] 25))) := belA (Below.refl _ _) _
  obtain ⟨c0, c1⟩ := box2 w (.slice a s.txs.length ca) (.slice b s.ord.length cb) 25
  have HSy := hideIt (story_any s hz a b ca cb _ (h.below HB.out))
  unfold StoTold at HSy
  have HS := hideIt h
  have HG := hideIt hg
  clear h hg hz
  go_enter Tryd.func4, Tryd.ntmps4
  go_wp2_with fail
  generalize hW : w.alloc _ = W at HB c0 c1 HSy ⊢
  clear hW
  refine HSy.out.mono ?_
  rintro e w1 ⟨a', ca', b', cb', okb, rfl, hq, hb1⟩
  have d0 := (hb1.cell (p := ⟨w.heap.size, 0, none⟩) (World.block_lt_of_cell? W _ c0)).trans c0
  have d1 := (hb1.cell (p := ⟨w.heap.size, 1, none⟩) (World.block_lt_of_cell? W _ c1)).trans c1
  have HQ := hideIt hq
  have HB1 := hideIt (belJ HB.out hb1)
  clear hq hb1 HSy c0 c1
  cases okb
  · go_wp2
    go_ret
    exact ⟨rfl, belA HB1.out _⟩
  by_cases hn0 : s.txs.length = 0
  · have e0 : ((s.txs.length : Int) == 0) = true := by rw [hn0]; rfl
    have d0a := cellA (o := .cells #[.slice a' s.txs.length ca', .slice b' s.ord.length cb'] 28) d0
    clear hn0
    go_wp2
    go_ret
    exact ⟨rfl, belA HB1.out _⟩
  have e0 : ((s.txs.length : Int) == 0) = false := by rw [beq_eq_false_iff_ne]; omega
  have d0a := cellA (o := .cells #[.slice a' s.txs.length ca', .slice b' s.ord.length cb'] 28) d0
  · have HBk : Hid (∀ Z, Below w1.heap.size w1 Z → Below w.heap.size w Z) := fun Z hZ => belJ HB1.out hZ
    have HBox : Hid (∀ Z, Below w1.heap.size w1 Z → Z.cell? ⟨w.heap.size, 0, none⟩ = some (.slice a s.txs.length ca) ∧ Z.cell? ⟨w.heap.size, 1, none⟩ = some (.slice b s.ord.length cb)) := fun Z hZ => ⟨(hZ.cell (p := ⟨w.heap.size, 0, none⟩) (World.block_lt_of_cell? w1 _ d0)).trans d0, (hZ.cell (p := ⟨w.heap.size, 1, none⟩) (World.block_lt_of_cell? w1 _ d1)).trans d1⟩
    obtain ⟨m0, m1⟩ := box2 w1 (.slice a' s.txs.length ca') (.slice b' s.ord.length cb') 28
    have hbA : Below w1.heap.size w1 (w1.alloc (.cells #[.slice a' s.txs.length ca', .slice b' s.ord.length cb'] 28)) := belA (Below.refl _ _) _
    have HCk := hideIt (dCheck_any s a' b' ca' cb' _ (HQ.out.below hbA))
    have HQa := hideIt (HQ.out.below hbA)
    have HBA := hideIt hbA
    clear d0 d1 hbA HQ
    go_wp2_with fail
    generalize w1.alloc _ = Y0 at HCk HQa HBA m0 m1 ⊢
    refine HCk.out.mono ?_
    rintro e Y1 ⟨rfl, hb1⟩
    have n0 := (hb1.cell (p := ⟨w1.heap.size, 0, none⟩) (World.block_lt_of_cell? Y0 _ m0)).trans m0
    have n1 := (hb1.cell (p := ⟨w1.heap.size, 1, none⟩) (World.block_lt_of_cell? Y0 _ m1)).trans m1
    have HBx := hideIt (belJ HBA.out hb1)
    have HQ1 := hideIt (HQa.out.below hb1)
    clear HCk hb1 m0 m1 HQa HBA
    by_cases hf : fltI s = 0
    · have ok := iOk_of hf
      have HD1 := hideIt (fun Z hZ => dFinds_any s ok a' b' ca' cb' Z hZ)
      have HD2 := hideIt (fun Z hZ => dLevel_any s ok a' b' ca' cb' Z hZ)
      rw [hf]
      clear ok
      have HX : Hid (∀ Z, Below Y1.heap.size Y1 Z → Z.cell? ⟨w1.heap.size, 0, none⟩ = some (.slice a' s.txs.length ca') ∧ Z.cell? ⟨w1.heap.size, 1, none⟩ = some (.slice b' s.ord.length cb')) := fun Z hZ => ⟨(hZ.cell (p := ⟨w1.heap.size, 0, none⟩) (World.block_lt_of_cell? Y1 _ n0)).trans n0, (hZ.cell (p := ⟨w1.heap.size, 1, none⟩) (World.block_lt_of_cell? Y1 _ n1)).trans n1⟩
      go_upto_region 8 with fail
      clear n0 n1
      refine wp_region_held_drew (S := (fun w' => Below Y1.heap.size Y1 w')) (by kernel_rfl) (Below.refl _ _).drew (fun hHeld => ?_)
      refine wpAnyH_take (i := 0) (v := ?_) rfl (by kernel_rfl) (by kernel_rfl) (by kernel_rfl) (fun _ _ _ h => h) (Or.inl ⟨by rfl, ?_⟩) (by assumption) ?_
      rotate_left 1
      · intro wz sb
        obtain ⟨z0, z1⟩ := HX.out wz sb
        go_simp
        all_goals with_reducible rfl
      simp only [Act.put, List.setIfInBounds_toArray, List.set_cons_zero, List.set_cons_succ, List.getElem_toArray, List.getElem_cons_zero]
      refine wpAnyH_take (i := 2) (v := ?_) rfl (by kernel_rfl) (by kernel_rfl) (by kernel_rfl) (fun _ _ _ h => h) (Or.inl ⟨by rfl, ?_⟩) (by assumption) ?_
      rotate_left 1
      · intro wz sb
        obtain ⟨z0, z1⟩ := HX.out wz sb
        go_simp
        all_goals with_reducible rfl
      simp only [Act.put, List.setIfInBounds_toArray, List.set_cons_zero, List.set_cons_succ, List.getElem_toArray, List.getElem_cons_zero, List.getElem_cons_succ]
      refine wpAnyH_ready (rs := [1]) (by kernel_rfl) (by simp) (AllReadyH.cons rfl (fun K hK => ?_) AllReadyH.nil)
      go_simp
      refine (HD1.out _ (HQ1.out.below hHeld)).mono ?_
      rintro e Y2 ⟨B, rfl, hB, hb2⟩
      refine hK.out _ _ ?_ (fun hHeld => ?_)
      · exact belJ hHeld hb2
      clear hK K
      refine wpAnyH_ready (rs := [3]) (by kernel_rfl) (by simp) (AllReadyH.cons rfl (fun K hK => ?_) AllReadyH.nil)
      go_simp
      refine (HD2.out _ (HQ1.out.below hHeld)).mono ?_
      rintro e Y3 ⟨rfl, hb3⟩
      refine hK.out _ _ ?_ (fun hHeld => ?_)
      · exact belJ hHeld hb3
      clear hK K
      replace hB := hB.below hb3 hB.lt
      have HBy := hideIt (belJ HBx.out hHeld)
      refine wpAnyH_take (i := 4) (v := ?_) rfl (by kernel_rfl) (by kernel_rfl) (by kernel_rfl) (fun _ _ _ h => h) (Or.inl ⟨by rfl, ?_⟩) (by assumption) ?_
      rotate_left 1
      · intro wz sb
        go_simp
        all_goals with_reducible rfl
      simp only [Act.put, List.setIfInBounds_toArray, List.set_cons_zero, List.set_cons_succ, List.getElem_toArray, List.getElem_cons_zero, List.getElem_cons_succ]
      refine wpAnyH_take (i := 5) (v := ?_) rfl (by kernel_rfl) (by kernel_rfl) (by kernel_rfl) (fun _ _ _ h => h) (Or.inl ⟨by rfl, ?_⟩) (by assumption) ?_
      rotate_left 1
      · intro wz sb
        go_simp
        all_goals with_reducible rfl
      simp only [Act.put, List.setIfInBounds_toArray, List.set_cons_zero, List.set_cons_succ, List.getElem_toArray, List.getElem_cons_zero, List.getElem_cons_succ]
      refine wpAnyH_done (by kernel_rfl) ?_ _
      replace HBx := HBy
      clear HBy hHeld hb2 hb3
      clear HD1 HD2 HX HQ1
      have HFl := hideIt hf
      clear hf
      obtain ⟨d0, d1⟩ := HBox.out _ HBx.out
      have HF1 := hideIt (finds_any s a b ca cb Y3 (HS.out.below (HBk.out _ HBx.out)))
      unfold FinTold at HF1
      rw [HFl.out] at HF1
      go_wp2_with fail
      refine HF1.out.mono ?_
      rintro e Y4 ⟨v, rfl, hY, hN, hb4⟩
      replace HBx := hideIt (belJ HBx.out hb4)
      obtain ⟨B4, rfl, hB4⟩ := hY trivial
      replace hB := hB.below hb4 hB.lt
      clear hb4
      clear HF1 hY hN d0 d1
      obtain ⟨d0, d1⟩ := HBox.out _ HBx.out
      have HF2 := hideIt (level_any s a b ca cb Y4 (HS.out.below (HBk.out _ HBx.out)))
      unfold LevTold at HF2
      rw [HFl.out] at HF2
      rw [if_pos rfl] at HF2
      go_wp2_with fail
      refine HF2.out.mono ?_
      rintro e Y5 ⟨rfl, hb5⟩
      replace HBx := hideIt (belJ HBx.out hb5)
      replace hB := hB.below hb5 hB.lt
      replace hB4 := hB4.below hb5 hB4.lt
      clear hb5
      clear HF2 d0 d1
      go_wp2_with fail
      refine (bare_any _ _ (HG.out.below (HBk.out _ HBx.out))).mono ?_
      rintro e Y6 ⟨rfl, hb6⟩
      replace HBx := hideIt (belJ HBx.out hb6)
      replace hB := hB.below hb6 hB.lt
      replace hB4 := hB4.below hb6 hB4.lt
      clear hb6
      go_wp2_with fail
      refine (bare_any _ _ (HG.out.below (HBk.out _ HBx.out))).mono ?_
      rintro e Y7 ⟨rfl, hb7⟩
      replace HBx := hideIt (belJ HBx.out hb7)
      replace hB := hB.below hb7 hB.lt
      replace hB4 := hB4.below hb7 hB4.lt
      clear hb7
      have hne : (lvlI s != lvlI s) = false := by simp
      generalize lvlI s = lv at hne ⊢
      have HP := hideIt hB
      have HP4 := hideIt hB4
      have HBz := hideIt (HBk.out _ HBx.out)
      clear hB hB4 HBx HBox HBk HS HG HFl HB1 HB
      go_wp2
      go_loopw [12] (fun i wr => ∃ (k : Nat), k ≤ 6 ∧ i = .int .i64 k ∧ Below Y7.heap.size Y7 wr) (fun i _ => 6 - (intOf i).toNat)
      case atStart => exact ⟨0, Nat.zero_le _, rfl, Below.refl _ _⟩
      case round =>
        obtain ⟨i, hi, rfl, hb⟩ := hrel
        have HBr := hideIt hb
        clear hb
        by_cases hin : i < 6
        · have c1 := (HP.out.below HBr.out HP.out.lt).bit i hin
          have c2 := (HP4.out.below HBr.out HP4.out.lt).bit i hin
          generalize fndB s i = x at c1 c2
          have hne2 : (x != x) = false := by simp
          go_wp2_with fail
          go_big_quiet (fail)
          go_wp2
          go_roundw
          case rel => exact ⟨i + 1, by omega, by go_num, below_drewN HBr.out _⟩
          case measure => simp [intOf]; omega
        · go_wp2
          go_ret
          exact ⟨rfl, belJ HBz.out HBr.out⟩
    · have hfb : (fltI s == 0) = false := by simp [hf]
      have HNe := hideIt hf
      clear hf
      obtain ⟨d0, d1⟩ := HBox.out _ HBx.out
      have HF1 := hideIt (finds_any s a b ca cb Y1 (HS.out.below (HBk.out _ HBx.out)))
      unfold FinTold at HF1
      go_wp2_with fail
      refine HF1.out.mono ?_
      rintro e Y4 ⟨v, rfl, hY, hN, hb4⟩
      replace HBx := hideIt (belJ HBx.out hb4)
      obtain rfl := hN HNe.out
      clear hb4
      clear HF1 hY hN d0 d1
      obtain ⟨d0, d1⟩ := HBox.out _ HBx.out
      have HF2 := hideIt (level_any s a b ca cb Y4 (HS.out.below (HBk.out _ HBx.out)))
      unfold LevTold at HF2
      rw [if_neg HNe.out] at HF2
      go_wp2_with fail
      refine HF2.out.mono ?_
      rintro e Y5 ⟨rfl, hb5⟩
      replace HBx := hideIt (belJ HBx.out hb5)
      clear hb5
      clear HF2 d0 d1
      go_wp2_with fail
      refine (bare_any _ _ (HG.out.below (HBk.out _ HBx.out))).mono ?_
      rintro e Y6 ⟨rfl, hb6⟩
      replace HBx := hideIt (belJ HBx.out hb6)
      clear hb6
      go_wp2_with fail
      refine (bare_any _ _ (HG.out.below (HBk.out _ HBx.out))).mono ?_
      rintro e Y7 ⟨rfl, hb7⟩
      replace HBx := hideIt (belJ HBx.out hb7)
      clear hb7
      have HBz := hideIt (HBk.out _ HBx.out)
      clear HBx HBox HBk HS HG HB1 HB
      go_wp2
      go_loopw [12] (fun i wr => i = .int .i64 0 ∧ Below Y7.heap.size Y7 wr) (fun i _ => 6 - (intOf i).toNat)
      case atStart => exact ⟨rfl, Below.refl _ _⟩
      case round =>
        obtain ⟨rfl, hb⟩ := hrel
        have HBr := hideIt hb
        clear hb
        go_wp2
        go_ret
        exact ⟨rfl, belJ HBz.out HBr.out⟩
end Go.Proofs.YtodanhjookgbeaaDoor
