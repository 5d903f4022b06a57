/-
  The statement IsolateSerial's body, walked.
-/
import Derived.Test.YtodanhjookgbeaaDoorJaWZ
import Derived.Test.YtodanhjookgbeaaDoorJoW
import Derived.Test.YtodanhjookgbeaaDoorJcW
import Derived.Test.YtodanhjookgbeaaDoorJsW
import Derived.Test.YtodanhjookgbeaaDoorIqW
namespace Go.Proofs.YtodanhjookgbeaaDoor
open Go.RowKit

set_option maxRecDepth 100000 in
set_option maxHeartbeats 4000000 in
theorem serial_walk (s : ISt) (hz : StyZ s) (a b : Option Addr) (ca cb : Nat) (w : World) (h : StyQ w a ca b cb s) (hg : GlE w) :
    Calls Tryd.prog 5 #[.agg #[.slice a s.txs.length ca, .slice b s.ord.length cb]] w fun e w' => e = .returned (.bool true) ∧ Below w.heap.size w w' := by
  have HB : Hid (Below w.heap.size w (w.alloc (.cells #[.slice a s.txs.length ca, .slice b s.ord.length cb] 25))) := belA (Below.refl _ _) _
  obtain ⟨c0, c1⟩ := box2 w (.slice a s.txs.length ca) (.slice b s.ord.length cb) 25
  have HSy := hideIt (story_any s hz a b ca cb _ (h.below HB.out))
  unfold StoTold at HSy
  have HS := hideIt h
  have HG := hideIt hg
  clear h hg hz
  go_enter Tryd.func5, Tryd.ntmps5
  go_wp2_with fail
  generalize hW : w.alloc _ = W at HB c0 c1 HSy ⊢
  clear hW
  refine HSy.out.mono ?_
  rintro e w1 ⟨a', ca', b', cb', okb, rfl, hq, hb1⟩
  have d0 := (hb1.cell (p := ⟨w.heap.size, 0, none⟩) (World.block_lt_of_cell? W _ c0)).trans c0
  have d1 := (hb1.cell (p := ⟨w.heap.size, 1, none⟩) (World.block_lt_of_cell? W _ c1)).trans c1
  have HQ := hideIt hq
  have HB1 := hideIt (belJ HB.out hb1)
  clear hq hb1 HSy c0 c1
  cases okb
  · go_wp2
    go_ret
    exact ⟨rfl, belA HB1.out _⟩
  by_cases hn0 : s.txs.length = 0
  · have e0 : ((s.txs.length : Int) == 0) = true := by rw [hn0]; rfl
    have d0a := cellA (o := .cells #[.slice a' s.txs.length ca', .slice b' s.ord.length cb'] 28) d0
    clear hn0
    go_wp2
    go_ret
    exact ⟨rfl, belA HB1.out _⟩
  have e0 : ((s.txs.length : Int) == 0) = false := by rw [beq_eq_false_iff_ne]; omega
  have d0a := cellA (o := .cells #[.slice a' s.txs.length ca', .slice b' s.ord.length cb'] 28) d0
  · have HBk : Hid (∀ Z, Below w1.heap.size w1 Z → Below w.heap.size w Z) := fun Z hZ => belJ HB1.out hZ
    have HBox : Hid (∀ Z, Below w1.heap.size w1 Z → Z.cell? ⟨w.heap.size, 0, none⟩ = some (.slice a s.txs.length ca) ∧ Z.cell? ⟨w.heap.size, 1, none⟩ = some (.slice b s.ord.length cb)) := fun Z hZ => ⟨(hZ.cell (p := ⟨w.heap.size, 0, none⟩) (World.block_lt_of_cell? w1 _ d0)).trans d0, (hZ.cell (p := ⟨w.heap.size, 1, none⟩) (World.block_lt_of_cell? w1 _ d1)).trans d1⟩
    obtain ⟨m0, m1⟩ := box2 w1 (.slice a' s.txs.length ca') (.slice b' s.ord.length cb') 28
    have hbA : Below w1.heap.size w1 (w1.alloc (.cells #[.slice a' s.txs.length ca', .slice b' s.ord.length cb'] 28)) := belA (Below.refl _ _) _
    have HCk := hideIt (dCheck_any s a' b' ca' cb' _ (HQ.out.below hbA))
    have HQa := hideIt (HQ.out.below hbA)
    have HBA := hideIt hbA
    clear d0 d1 hbA HQ
    go_wp2_with fail
    generalize w1.alloc _ = Y0 at HCk HQa HBA m0 m1 ⊢
    refine HCk.out.mono ?_
    rintro e Y1 ⟨rfl, hb1⟩
    have n0 := (hb1.cell (p := ⟨w1.heap.size, 0, none⟩) (World.block_lt_of_cell? Y0 _ m0)).trans m0
    have n1 := (hb1.cell (p := ⟨w1.heap.size, 1, none⟩) (World.block_lt_of_cell? Y0 _ m1)).trans m1
    have HBx := hideIt (belJ HBA.out hb1)
    have HQ1 := hideIt (HQa.out.below hb1)
    clear HCk hb1 m0 m1 HQa HBA
    by_cases hf : fltI s = 0
    · have ok := iOk_of hf
      have hDs := hideIt (dSerial_any s ok (by omega) a' b' ca' cb' Y1 HQ1.out)
      unfold DsTold at hDs
      have HLn : Hid (((natI (oL (serR s))).filter (comI s)).length ≤ 60) := by
        refine Nat.le_trans (List.length_filter_le _ _) ?_
        have hck : ckG (serR s) = 0 := matN_ok (by have := ok.few; omega) _
        unfold oL natI
        rw [if_pos hck, List.length_map]
        cases hL : ordG (gB (serR s)) (serR s).length (serR s).length with
        | none => simp
        | some L =>
          have h1 := (ordG_ok hL).1
          have h2 : (serR s).length = s.txs.length := matN_len _ _
          have := ok.few
          show L.length ≤ 60
          omega
      have HSg : Hid (serG s = oG (serR s)) := by unfold serG; rw [if_pos hf]; rfl
      have HSv : Hid (serV s = if serG s = 0 then (natI (oL (serR s))).filter (comI s) else []) := rfl
      rw [hf]
      clear ok
      go_wp2_with fail
      refine hDs.out.mono ?_
      rintro e Y2 ⟨y, okq, rfl, hcase, hb2⟩
      replace HBx := hideIt (belJ HBx.out hb2)
      clear hDs hb2 HQ1 n0 n1
      rcases hcase with ⟨h0, rfl, hy⟩ | ⟨h11, rfl⟩
      · rw [h0] at HSg
        rw [HSg.out, if_pos rfl] at HSv
        obtain ⟨d0, d1⟩ := HBox.out _ HBx.out
        have HSe := hideIt (serial_any s a b ca cb Y2 (HS.out.below (HBk.out _ HBx.out)))
        unfold SerTold at HSe
        rw [HSg.out, HSv.out] at HSe
        go_wp2_with fail
        refine HSe.out.mono ?_
        rintro e Y3 ⟨x, rfl, hx, hb3⟩
        replace hy := hy.below hb3
        clear HSe d0 d1
        replace HBx := hideIt (belJ HBx.out hb3)
        go_wp2_with fail
        refine (bare_any _ _ (HG.out.below (HBk.out _ HBx.out))).mono ?_
        rintro e Y4 ⟨rfl, hb4⟩
        go_wp2_with fail
        refine (sameInts_any _ (HLn.out) _ _ _ (hx.below hb4) (hy.below hb4)).mono ?_
        rintro e Y5 ⟨rfl, hb5⟩
        have HFi := hideIt (HBk.out _ (belJ (belJ HBx.out hb4) hb5))
        clear hb4 hb5
        go_wp2
        go_ret
        exact ⟨rfl, HFi.out⟩
      · rw [h11] at HSg
        rw [HSg.out, if_neg (by decide)] at HSv
        obtain ⟨d0, d1⟩ := HBox.out _ HBx.out
        have HSe := hideIt (serial_any s a b ca cb Y2 (HS.out.below (HBk.out _ HBx.out)))
        unfold SerTold at HSe
        rw [HSg.out, HSv.out] at HSe
        go_wp2_with fail
        refine HSe.out.mono ?_
        rintro e Y3 ⟨x, rfl, hx, hb3⟩
        have hy := hasI_nil Y3
        clear HSe d0 d1
        replace HBx := hideIt (belJ HBx.out hb3)
        go_wp2_with fail
        refine (bare_any _ _ (HG.out.below (HBk.out _ HBx.out))).mono ?_
        rintro e Y4 ⟨rfl, hb4⟩
        go_wp2_with fail
        refine (sameInts_any _ (by simp) _ _ _ (hx.below hb4) (hy.below hb4)).mono ?_
        rintro e Y5 ⟨rfl, hb5⟩
        have HFi := hideIt (HBk.out _ (belJ (belJ HBx.out hb4) hb5))
        clear hb4 hb5
        go_wp2
        go_ret
        exact ⟨rfl, HFi.out⟩
    · have hfb : (fltI s == 0) = false := by simp [hf]
      have HSg : Hid (serG s = fltI s) := by unfold serG; rw [if_neg hf]; rfl
      have HSv : Hid (serV s = []) := by unfold serV; rw [HSg.out, if_neg hf]; rfl
      clear hf
      obtain ⟨d0, d1⟩ := HBox.out _ HBx.out
      have HSe := hideIt (serial_any s a b ca cb Y1 (HS.out.below (HBk.out _ HBx.out)))
      unfold SerTold at HSe
      rw [HSg.out, HSv.out] at HSe
      go_wp2_with fail
      refine HSe.out.mono ?_
      rintro e Y3 ⟨x, rfl, hx, hb3⟩
      have hy := hasI_nil Y3
      clear HSe d0 d1 HQ1 n0 n1
      replace HBx := hideIt (belJ HBx.out hb3)
      go_wp2_with fail
      refine (bare_any _ _ (HG.out.below (HBk.out _ HBx.out))).mono ?_
      rintro e Y4 ⟨rfl, hb4⟩
      go_wp2_with fail
      refine (sameInts_any _ (by simp) _ _ _ (hx.below hb4) (hy.below hb4)).mono ?_
      rintro e Y5 ⟨rfl, hb5⟩
      have HFi := hideIt (HBk.out _ (belJ (belJ HBx.out hb4) hb5))
      clear hb4 hb5
      go_wp2
      go_ret
      exact ⟨rfl, HFi.out⟩
end Go.Proofs.YtodanhjookgbeaaDoor
