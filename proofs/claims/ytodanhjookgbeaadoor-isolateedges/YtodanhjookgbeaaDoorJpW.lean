/-
  The statement IsolateEdges' body, walked.
-/
import Derived.Test.YtodanhjookgbeaaDoorJaWZ
import Derived.Test.YtodanhjookgbeaaDoorJoW
import Derived.Test.YtodanhjookgbeaaDoorJcW
import Derived.Test.YtodanhjookgbeaaDoorJeW
namespace Go.Proofs.YtodanhjookgbeaaDoor
open Go.RowKit

set_option maxRecDepth 100000 in
set_option maxHeartbeats 4000000 in
theorem edges_walk (s : ISt) (hz : StyZ s) (a b : Option Addr) (ca cb : Nat) (w : World) (h : StyQ w a ca b cb s) (hg : GlE w) :
    Calls Tryd.prog 3 #[.agg #[.slice a s.txs.length ca, .slice b s.ord.length cb]] w fun e w' => e = .returned (.bool true) ∧ Below w.heap.size w w' := by
  have HB : Hid (Below w.heap.size w (w.alloc (.cells #[.slice a s.txs.length ca, .slice b s.ord.length cb] 25))) := belA (Below.refl _ _) _
  obtain ⟨c0, c1⟩ := box2 w (.slice a s.txs.length ca) (.slice b s.ord.length cb) 25
  have HSy := hideIt (story_any s hz a b ca cb _ (h.below HB.out))
  unfold StoTold at HSy
  have HS := hideIt h
  have HG := hideIt hg
  clear h hg hz
  go_enter Tryd.func3, Tryd.ntmps3
  go_wp2_with fail
  generalize hW : w.alloc _ = W at HB c0 c1 HSy ⊢
  clear hW
  refine HSy.out.mono ?_
  rintro e w1 ⟨a', ca', b', cb', okb, rfl, hq, hb1⟩
  have d0 := (hb1.cell (p := ⟨w.heap.size, 0, none⟩) (World.block_lt_of_cell? W _ c0)).trans c0
  have d1 := (hb1.cell (p := ⟨w.heap.size, 1, none⟩) (World.block_lt_of_cell? W _ c1)).trans c1
  have HQ := hideIt hq
  have HB1 := hideIt (belJ HB.out hb1)
  clear hq hb1 HSy c0 c1
  cases okb
  · go_wp2
    go_ret
    exact ⟨rfl, belA HB1.out _⟩
  · have HBk : Hid (∀ Z, Below w1.heap.size w1 Z → Below w.heap.size w Z) := fun Z hZ => belJ HB1.out hZ
    have HBox : Hid (∀ Z, Below w1.heap.size w1 Z → Z.cell? ⟨w.heap.size, 0, none⟩ = some (.slice a s.txs.length ca) ∧ Z.cell? ⟨w.heap.size, 1, none⟩ = some (.slice b s.ord.length cb)) := fun Z hZ => ⟨(hZ.cell (p := ⟨w.heap.size, 0, none⟩) (World.block_lt_of_cell? w1 _ d0)).trans d0, (hZ.cell (p := ⟨w.heap.size, 1, none⟩) (World.block_lt_of_cell? w1 _ d1)).trans d1⟩
    obtain ⟨m0, m1⟩ := box2 w1 (.slice a' s.txs.length ca') (.slice b' s.ord.length cb') 28
    have hbA : Below w1.heap.size w1 (w1.alloc (.cells #[.slice a' s.txs.length ca', .slice b' s.ord.length cb'] 28)) := belA (Below.refl _ _) _
    have HCk := hideIt (dCheck_any s a' b' ca' cb' _ (HQ.out.below hbA))
    have HQa := hideIt (HQ.out.below hbA)
    have HBA := hideIt hbA
    clear d0 d1 hbA HQ
    go_wp2_with fail
    generalize w1.alloc _ = Y0 at HCk HQa HBA m0 m1 ⊢
    refine HCk.out.mono ?_
    rintro e Y1 ⟨rfl, hb1⟩
    have n0 := (hb1.cell (p := ⟨w1.heap.size, 0, none⟩) (World.block_lt_of_cell? Y0 _ m0)).trans m0
    have n1 := (hb1.cell (p := ⟨w1.heap.size, 1, none⟩) (World.block_lt_of_cell? Y0 _ m1)).trans m1
    have HBx := hideIt (belJ HBA.out hb1)
    have HQ1 := hideIt (HQa.out.below hb1)
    clear HCk hb1 m0 m1 HQa HBA
    by_cases hf : fltI s = 0
    · have ok := iOk_of hf
      have hN8 := ok.few
      have HEd := hideIt (dEdges_any s ok a' b' ca' cb' Y1 HQ1.out)
      unfold EdgTold at HEd
      rw [hf]
      clear ok
      go_wp2_with fail
      refine HEd.out.mono ?_
      rintro e Y2 ⟨v1, v2, v3, rfl, hy1, hy2, hy3, hb2⟩
      replace HBx := hideIt (belJ HBx.out hb2)
      obtain ⟨d0, d1⟩ := HBox.out _ HBx.out
      have HAl := hideIt (all_any s a b ca cb Y2 (HS.out.below (HBk.out _ HBx.out)))
      unfold AllTold at HAl
      rw [hf] at HAl
      clear HEd hb2 HQ1 n0 n1
      go_wp2_with fail
      refine HAl.out.mono ?_
      rintro e Y3 ⟨x1, x2, x3, rfl, hx, _, hb3⟩
      obtain ⟨hx1, hx2, hx3⟩ := hx trivial
      obtain ⟨a1, p1, rfl, _, _⟩ := id hx1
      obtain ⟨a2, p2, rfl, _, _⟩ := id hx2
      obtain ⟨a3, p3, rfl, _, _⟩ := id hx3
      have hb4 : Below Y2.heap.size Y2 (Y3.alloc (.cells #[.slice a1 s.txs.length p1, .slice a2 s.txs.length p2, .slice a3 s.txs.length p3] 38)) := belA hb3 _
      have h34 : Below Y3.heap.size Y3 (Y3.alloc (.cells #[.slice a1 s.txs.length p1, .slice a2 s.txs.length p2, .slice a3 s.txs.length p3] 38)) := belA (Below.refl _ _) _
      have hh := heap_alloc_new Y3 (.cells #[.slice a1 s.txs.length p1, .slice a2 s.txs.length p2, .slice a3 s.txs.length p3] 38)
      have k0 := cell_of_row _ _ 0 _ 38 _ hh
      have k1 := cell_of_row _ _ 1 _ 38 _ hh
      have k2 := cell_of_row _ _ 2 _ 38 _ hh
      replace HBx := hideIt (belJ HBx.out hb4)
      replace hy1 := hy1.below hb4
      replace hy2 := hy2.below hb4
      replace hy3 := hy3.below hb4
      replace hx1 := hx1.below h34
      replace hx2 := hx2.below h34
      replace hx3 := hx3.below h34
      clear HAl hx hb3 hb4 h34 hh d0 d1
      go_upto_region 9 with fail
      generalize Y3.alloc _ = Z3 at HBx hx1 hx2 hx3 hy1 hy2 hy3 k0 k1 k2 ⊢
      generalize Y3.heap.size = Be at *
      go_wp2_with fail
      refine (bare_any _ _ (HG.out.below (HBk.out _ HBx.out))).mono ?_
      rintro e Y4 ⟨rfl, hb4⟩
      replace HBx := hideIt (belJ HBx.out hb4)
      replace hx1 := hx1.below hb4
      replace hx2 := hx2.below hb4
      replace hx3 := hx3.below hb4
      replace hy1 := hy1.below hb4
      replace hy2 := hy2.below hb4
      replace hy3 := hy3.below hb4
      have k0 := (hb4.cell (p := ⟨Be, 0, none⟩) (World.block_lt_of_cell? _ _ k0)).trans k0
      have k1 := (hb4.cell (p := ⟨Be, 1, none⟩) (World.block_lt_of_cell? _ _ k1)).trans k1
      have k2 := (hb4.cell (p := ⟨Be, 2, none⟩) (World.block_lt_of_cell? _ _ k2)).trans k2
      clear hb4
      go_wp2_with fail
      refine (sameBools_any s.txs.length (by omega) (ovB s) _ _ _ hx1 hy1).mono ?_
      rintro e Y5 ⟨rfl, hb5⟩
      replace HBx := hideIt (belJ HBx.out hb5)
      replace hx1 := hx1.below hb5
      replace hx2 := hx2.below hb5
      replace hx3 := hx3.below hb5
      replace hy1 := hy1.below hb5
      replace hy2 := hy2.below hb5
      replace hy3 := hy3.below hb5
      have k0 := (hb5.cell (p := ⟨Be, 0, none⟩) (World.block_lt_of_cell? _ _ k0)).trans k0
      have k1 := (hb5.cell (p := ⟨Be, 1, none⟩) (World.block_lt_of_cell? _ _ k1)).trans k1
      have k2 := (hb5.cell (p := ⟨Be, 2, none⟩) (World.block_lt_of_cell? _ _ k2)).trans k2
      clear hb5
      go_wp2_with fail
      refine (sameBools_any s.txs.length (by omega) (seB s) _ _ _ hx2 hy2).mono ?_
      rintro e Y6 ⟨rfl, hb6⟩
      replace HBx := hideIt (belJ HBx.out hb6)
      replace hx1 := hx1.below hb6
      replace hx2 := hx2.below hb6
      replace hx3 := hx3.below hb6
      replace hy1 := hy1.below hb6
      replace hy2 := hy2.below hb6
      replace hy3 := hy3.below hb6
      have k0 := (hb6.cell (p := ⟨Be, 0, none⟩) (World.block_lt_of_cell? _ _ k0)).trans k0
      have k1 := (hb6.cell (p := ⟨Be, 1, none⟩) (World.block_lt_of_cell? _ _ k1)).trans k1
      have k2 := (hb6.cell (p := ⟨Be, 2, none⟩) (World.block_lt_of_cell? _ _ k2)).trans k2
      clear hb6
      go_wp2_with fail
      refine (sameBools_any s.txs.length (by omega) (anB s) _ _ _ hx3 hy3).mono ?_
      rintro e Y7 ⟨rfl, hb7⟩
      replace HBx := hideIt (belJ HBx.out hb7)
      obtain ⟨d0, d1⟩ := HBox.out _ HBx.out
      clear k0 k1 k2 hx1 hx2 hx3 hy1 hy2 hy3
      go_wp2_with fail
      refine (pCheck_any s a b ca cb _ (HS.out.below (HBk.out _ HBx.out))).mono ?_
      rintro e Y8 ⟨rfl, hb8⟩
      replace HBx := hideIt (belJ HBx.out hb8)
      clear hb7 hb8
      go_wp2_with fail
      refine (bare_any _ _ (HG.out.below (HBk.out _ HBx.out))).mono ?_
      rintro e Y9 ⟨rfl, hb9⟩
      have HFi := hideIt (HBk.out _ (belJ HBx.out hb9))
      clear hb9
      go_wp2
      go_ret
      exact ⟨rfl, HFi.out⟩
    · have hfb : (fltI s == 0) = false := by simp [hf]
      obtain ⟨d0, d1⟩ := HBox.out _ HBx.out
      have HAl := hideIt (all_any s a b ca cb Y1 (HS.out.below (HBk.out _ HBx.out)))
      unfold AllTold at HAl
      have HNf := hideIt hf
      clear HQ1 n0 n1 hf
      go_wp2_with fail
      refine HAl.out.mono ?_
      rintro e Y3 ⟨x1, x2, x3, rfl, _, hx, hb3⟩
      obtain ⟨rfl, rfl, rfl⟩ := hx HNf.out
      have hb4 : Below Y1.heap.size Y1 (Y3.alloc (.cells #[.slice none 0 0, .slice none 0 0, .slice none 0 0] 38)) := belA hb3 _
      have hh := heap_alloc_new Y3 (.cells #[.slice none 0 0, .slice none 0 0, .slice none 0 0] 38)
      have k0 := cell_of_row _ _ 0 _ 38 _ hh
      have k1 := cell_of_row _ _ 1 _ 38 _ hh
      have k2 := cell_of_row _ _ 2 _ 38 _ hh
      replace HBx := hideIt (belJ HBx.out hb4)
      have hx1 := readM_nil (Y3.alloc (.cells #[.slice none 0 0, .slice none 0 0, .slice none 0 0] 38)) (fun _ _ => false)
      have hx2 := hx1
      have hx3 := hx1
      have hy1 := hx1
      have hy2 := hx1
      have hy3 := hx1
      clear HAl hx hb3 hb4 hh d0 d1
      go_upto_region 9 with fail
      generalize Y3.alloc _ = Z3 at HBx hx1 hx2 hx3 hy1 hy2 hy3 k0 k1 k2 ⊢
      generalize Y3.heap.size = Be at *
      go_wp2_with fail
      refine (bare_any _ _ (HG.out.below (HBk.out _ HBx.out))).mono ?_
      rintro e Y4 ⟨rfl, hb4⟩
      replace HBx := hideIt (belJ HBx.out hb4)
      replace hx1 := hx1.below hb4
      replace hx2 := hx2.below hb4
      replace hx3 := hx3.below hb4
      replace hy1 := hy1.below hb4
      replace hy2 := hy2.below hb4
      replace hy3 := hy3.below hb4
      have k0 := (hb4.cell (p := ⟨Be, 0, none⟩) (World.block_lt_of_cell? _ _ k0)).trans k0
      have k1 := (hb4.cell (p := ⟨Be, 1, none⟩) (World.block_lt_of_cell? _ _ k1)).trans k1
      have k2 := (hb4.cell (p := ⟨Be, 2, none⟩) (World.block_lt_of_cell? _ _ k2)).trans k2
      clear hb4
      go_wp2_with fail
      refine (sameBools_any 0 (by omega) (fun _ _ => false) _ _ _ hx1 hy1).mono ?_
      rintro e Y5 ⟨rfl, hb5⟩
      replace HBx := hideIt (belJ HBx.out hb5)
      replace hx1 := hx1.below hb5
      replace hx2 := hx2.below hb5
      replace hx3 := hx3.below hb5
      replace hy1 := hy1.below hb5
      replace hy2 := hy2.below hb5
      replace hy3 := hy3.below hb5
      have k0 := (hb5.cell (p := ⟨Be, 0, none⟩) (World.block_lt_of_cell? _ _ k0)).trans k0
      have k1 := (hb5.cell (p := ⟨Be, 1, none⟩) (World.block_lt_of_cell? _ _ k1)).trans k1
      have k2 := (hb5.cell (p := ⟨Be, 2, none⟩) (World.block_lt_of_cell? _ _ k2)).trans k2
      clear hb5
      go_wp2_with fail
      refine (sameBools_any 0 (by omega) (fun _ _ => false) _ _ _ hx2 hy2).mono ?_
      rintro e Y6 ⟨rfl, hb6⟩
      replace HBx := hideIt (belJ HBx.out hb6)
      replace hx1 := hx1.below hb6
      replace hx2 := hx2.below hb6
      replace hx3 := hx3.below hb6
      replace hy1 := hy1.below hb6
      replace hy2 := hy2.below hb6
      replace hy3 := hy3.below hb6
      have k0 := (hb6.cell (p := ⟨Be, 0, none⟩) (World.block_lt_of_cell? _ _ k0)).trans k0
      have k1 := (hb6.cell (p := ⟨Be, 1, none⟩) (World.block_lt_of_cell? _ _ k1)).trans k1
      have k2 := (hb6.cell (p := ⟨Be, 2, none⟩) (World.block_lt_of_cell? _ _ k2)).trans k2
      clear hb6
      go_wp2_with fail
      refine (sameBools_any 0 (by omega) (fun _ _ => false) _ _ _ hx3 hy3).mono ?_
      rintro e Y7 ⟨rfl, hb7⟩
      replace HBx := hideIt (belJ HBx.out hb7)
      obtain ⟨d0, d1⟩ := HBox.out _ HBx.out
      clear k0 k1 k2 hx1 hx2 hx3 hy1 hy2 hy3
      go_wp2_with fail
      refine (pCheck_any s a b ca cb _ (HS.out.below (HBk.out _ HBx.out))).mono ?_
      rintro e Y8 ⟨rfl, hb8⟩
      replace HBx := hideIt (belJ HBx.out hb8)
      clear hb7 hb8
      go_wp2_with fail
      refine (bare_any _ _ (HG.out.below (HBk.out _ HBx.out))).mono ?_
      rintro e Y9 ⟨rfl, hb9⟩
      have HFi := hideIt (HBk.out _ (belJ HBx.out hb9))
      clear hb9
      go_wp2
      go_ret
      exact ⟨rfl, HFi.out⟩
end Go.Proofs.YtodanhjookgbeaaDoor
