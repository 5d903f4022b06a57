/-
  The statement ClockBelow, walked.
-/
import Derived.Test.YtmonbkoelehdlaaDoorLsC
namespace Go.Proofs.YtmonbkoelehdlaaDoor
open Go.RowKit

set_option maxRecDepth 100000 in
set_option maxHeartbeats 4000000 in
theorem cb_walk (l : List Stp) (a : Option Addr) (cap : Nat) (c : Nat → Int) (w : World) (h : InC w a cap l) :
    Calls Tryd.prog 7 #[.slice a l.length cap, vecA c] w fun e w' => e = .returned (.bool true) ∧ Below w.heap.size w w' := by
  have hmax := h.max
  have HV0 := hideIt (vecB_new w c 44)
  have HB0 : Hid (Below w.heap.size w (w.alloc (vecO c 44))) := belA (Below.refl _ _) _
  have HI0 := hideIt (h.below HB0.out)
  have HIw := hideIt h
  clear h
  by_cases h60 : l.length ≤ 60
  · have HS := hideIt (steps_any l a cap (w.alloc (vecO c 44)) h60 HI0.out.at_)
    unfold vecO at HV0 HB0 HI0 HS
    unfold vecA
    go_enter Tryd.func7, Tryd.ntmps7
    go_wp2_with fail
    refine HS.out.mono ?_
    rintro e w1 ⟨a', cap', rfl, hc', hq', hb1⟩
    have HI1 := hideIt (HI0.out.below hb1)
    have HV1 := hideIt (HV0.out.below hb1 HV0.out.lt)
    have HB1 := hideIt (belJ HB0.out hb1)
    have HQ1 := hideIt hq'
    have HC := hideIt (rCheck_any l a' cap' w1 hc' h60 hq' HI1.out.fine)
    clear hb1 hq' HS HI0 HV0 HB0
    go_wp2_with fail
    refine HC.out.mono ?_
    rintro e w2 ⟨n0, pl0, rfl, hck, hb2⟩
    have HCk := hideIt hck
    have HV2 := hideIt (((HV1.out.below hb2 HV1.out.lt)).alloc (.cells #[.int .i64 n0, .int .i64 pl0] 27))
    have HB2 := hideIt (belA (belJ HB1.out hb2) (.cells #[.int .i64 n0, .int .i64 pl0] 27))
    have HBq : Hid (Below w1.heap.size w1 (w2.alloc (.cells #[.int .i64 n0, .int .i64 pl0] 27))) := belA hb2 _
    have hw1G : w1.heap.size ≤ w2.heap.size := hb2.size
    have HR2 : Hid (ResC (w2.alloc (.cells #[.int .i64 n0, .int .i64 pl0] 27)) w2.heap.size) := ⟨⟨_, _, heap_alloc_new w2 _⟩, ⟨.int .i64 n0, by simp⟩, ⟨.int .i64 pl0, by simp⟩⟩
    have c0 : (w2.alloc (.cells #[.int .i64 n0, .int .i64 pl0] 27)).cell? ⟨w2.heap.size, 0, none⟩ = some (.int .i64 n0) := by simp
    have c1 : (w2.alloc (.cells #[.int .i64 n0, .int .i64 pl0] 27)).cell? ⟨w2.heap.size, 1, none⟩ = some (.int .i64 pl0) := by simp
    have hGw : w.heap.size < w2.heap.size := Nat.lt_of_lt_of_le HV1.out.lt hb2.size
    clear hck hb2 HC HI1 HV1 HB1
    unfold fltA
    go_upto_region 5 with fail
    generalize w2.alloc (.cells #[.int .i64 n0, .int .i64 pl0] 27) = W at HV2 HB2 HBq HR2 c0 c1 ⊢
    generalize w2.heap.size = G at HR2 c0 c1 hGw hw1G ⊢
    go_upto_if 19 with fail
    go_cut [] (fun wx => ∃ n pl, CkX l c n pl ∧ wx.cell? ⟨G, 0, none⟩ = some (.int .i64 n) ∧ wx.cell? ⟨G, 1, none⟩ = some (.int .i64 pl) ∧ VecB wx w.heap.size c ∧ Below w1.heap.size w1 wx ∧ Below w.heap.size w wx)
    case first =>
      by_cases hn : n0 = 0
      · subst hn
        obtain ⟨hf40, _, rfl⟩ := HCk.out.ok
        have HCc := hideIt (cutCheck_any l HCk.out.clOk a' cap' c W (HQ1.out.below HBq.out))
        obtain ⟨y0, y1, y2, y3, y4, y5, y6, y7⟩ := HV2.out.eight
        unfold vecA at HCc
        go_wp2_with fail
        refine HCc.out.mono ?_
        rintro e w3 ⟨n, rfl, hcc, hb3⟩
        have hR3 := HR2.out.block (hb3.block G HR2.out.lt)
        obtain ⟨q0, hq0⟩ := hR3.c0
        have z0 := hR3.fz 0
        have hc1 : w3.cell? ⟨G, 1, none⟩ = some (.int .i64 (-1)) := (hb3.cell (p := ⟨G, 1, none⟩) HR2.out.lt).trans c1
        have RX : Hid (CkX l c n (-1)) := ⟨0, -1, HCk.out, .inr ⟨rfl, hcc.imp (fun h => ⟨h.1, h.2, rfl⟩) (fun h => ⟨h.1, h.2, rfl⟩)⟩⟩
        have R0 : Hid ((w3.setCell ⟨G, 0, none⟩ (.int .i64 n)).cell? ⟨G, 0, none⟩ = some (.int .i64 n)) := World.cell?_setCell_same _ _ _ hq0
        have R1 : Hid ((w3.setCell ⟨G, 0, none⟩ (.int .i64 n)).cell? ⟨G, 1, none⟩ = some (.int .i64 (-1))) := by show World.cell? _ _ = _; rw [World.cell?_setCell_other _ _ _ _ (offN (by omega))]; exact hc1
        have R2 : Hid (VecB (w3.setCell ⟨G, 0, none⟩ (.int .i64 n)) w.heap.size c) := (HV2.out.below hb3 HV2.out.lt).other (p := ⟨G, 0, none⟩) (by show w.heap.size ≠ G; omega) _
        have R3 : Hid (Below w1.heap.size w1 (w3.setCell ⟨G, 0, none⟩ (.int .i64 n))) := (belJ HBq.out hb3).setCell (p := ⟨G, 0, none⟩) hw1G _
        have R4 : Hid (Below w.heap.size w (w3.setCell ⟨G, 0, none⟩ (.int .i64 n))) := (belJ HB2.out hb3).setCell (p := ⟨G, 0, none⟩) (by show w.heap.size ≤ G; omega) _
        clear hR3 hc1 hb3
        go_wp2
        go_meet
        exact ⟨n, -1, RX.out, R0.out, R1.out, R2.out, R3.out, R4.out⟩
      · have hn' : (n0 == 0) = false := by simp [hn]
        have R : Hid (CkX l c n0 pl0) := ⟨n0, pl0, HCk.out, .inl ⟨hn, rfl, rfl⟩⟩
        go_wp2
        go_meet
        exact ⟨n0, pl0, R.out, c0, c1, HV2.out, HBq.out, HB2.out⟩
    case rest =>
      obtain ⟨n, pl, hx, d0, d1, hv, hbq, hb⟩ := hcut
      have HX := hideIt hx
      have HIc := hideIt (HIw.out.below hb)
      have hGl : G < wc.heap.size := World.block_lt_of_cell? wc _ d0
      have HWant : Hid (VecB (wc.alloc (vecO (fun _ => 0) 44)) wc.heap.size (fun _ => 0)) := vecB_new wc _ 44
      have HB3 : Hid (Below w.heap.size w (wc.alloc (vecO (fun _ => 0) 44))) := belA hb _
      have HBq3 : Hid (Below w1.heap.size w1 (wc.alloc (vecO (fun _ => 0) 44))) := belA hbq _
      have HV3 := hideIt (hv.alloc (vecO (fun _ => 0) 44))
      have d0' : (wc.alloc (vecO (fun _ => 0) 44)).cell? ⟨G, 0, none⟩ = some (.int .i64 n) := cell_alloc d0
      have d1' : (wc.alloc (vecO (fun _ => 0) 44)).cell? ⟨G, 1, none⟩ = some (.int .i64 pl) := cell_alloc d1
      have hGw2 : ¬ G = wc.heap.size := by omega
      have hww : w.heap.size < wc.heap.size := hv.lt
      have hw1c : w1.heap.size ≤ wc.heap.size := hbq.size
      clear hx hv hbq hb c0 c1 HV2 HB2 HBq HR2 d0 d1
      unfold vecO at HWant HB3 HBq3 HV3 d0' d1'
      go_upto_region 8 with fail
      generalize wc.alloc _ = W3 at HWant HB3 HBq3 HV3 d0' d1' ⊢
      generalize wc.heap.size = T at HWant hGw2 hww hw1c ⊢
      clear hGl
      go_upto_if 26 with fail
      go_cut [] (fun wx => wx.cell? ⟨G, 0, none⟩ = some (.int .i64 n) ∧ wx.cell? ⟨G, 1, none⟩ = some (.int .i64 pl) ∧ VecB wx w.heap.size c ∧ VecB wx T (fun p => if n = 0 then belN l c p else 0) ∧ Below w.heap.size w wx)
      case first =>
        by_cases hn : n = 0
        · subst hn
          obtain ⟨hck0, hco, _⟩ := HX.out.ok
          have HRb := hideIt (rBelow_any l hck0.clOk a' cap' c W3 (HQ1.out.below HBq3.out))
          obtain ⟨y0, y1, y2, y3, y4, y5, y6, y7⟩ := HV3.out.eight
          unfold vecA at HRb
          go_wp2_with fail
          refine HRb.out.mono ?_
          rintro e w4 ⟨rfl, hb4⟩
          have hW4 := HWant.out.below hb4 HWant.out.lt
          obtain ⟨z0, z1, z2, z3, z4, z5, z6, z7⟩ := hW4.eight
          have zf := hW4.fz
          have hGl3 : G < W3.heap.size := World.block_lt_of_cell? W3 _ d0'
          have hg := grown_setCells T (vecL (belN l c)) 0 w4
          have hGl4 : G < w4.heap.size := Nat.lt_of_lt_of_le hGl3 hb4.size
          have hblkG := hg.block G hGl4 (by simp; omega)
          have hblkV := hg.block w.heap.size (HV3.out.below hb4 HV3.out.lt).lt (by simp; omega)
          have R0 : Hid ((w4.setCells T 0 (vecL (belN l c))).cell? ⟨G, 0, none⟩ = some (.int .i64 0)) := (World.cell?_of_block (a := ⟨G, 0, none⟩) hblkG).trans ((hb4.cell (p := ⟨G, 0, none⟩) hGl3).trans d0')
          have R1 : Hid ((w4.setCells T 0 (vecL (belN l c))).cell? ⟨G, 1, none⟩ = some (.int .i64 pl)) := (World.cell?_of_block (a := ⟨G, 1, none⟩) hblkG).trans ((hb4.cell (p := ⟨G, 1, none⟩) hGl3).trans d1')
          have R2 : Hid (VecB (w4.setCells T 0 (vecL (belN l c))) w.heap.size c) := (HV3.out.below hb4 HV3.out.lt).block hblkV
          have R3 : Hid (VecB (w4.setCells T 0 (vecL (belN l c))) T (fun p => if (0 : Int) = 0 then belN l c p else 0)) := (hW4.store (belN l c)).same fun q _ => by simp
          have hbb := belJ HB3.out hb4
          have R4 : Hid (Below w.heap.size w (w4.setCells T 0 (vecL (belN l c)))) := hbb.grown hg hbb.size (fun b' hb' => by cases hb'; omega)
          clear hW4 hg hblkG hblkV hbb hb4 y0 y1 y2 y3 y4 y5 y6 y7
          go_wp2
          go_meet
          exact ⟨R0.out, R1.out, R2.out, R3.out, R4.out⟩
        · have hn' : (n == 0) = false := by simp [hn]
          have R3 : Hid (VecB W3 T (fun p => if n = 0 then belN l c p else 0)) := HWant.out.same fun q _ => by simp [hn]
          go_wp2
          go_meet
          exact ⟨d0', d1', HV3.out, R3.out, HB3.out⟩
      case rest =>
        rename World => wd
        obtain ⟨f0, f1, hv, hwt, hb⟩ := hcut
        have HBd := hideIt hb
        have HWd := hideIt hwt
        have HBl := hideIt (below_any l a cap c wd hmax (HIw.out.below hb).at_)
        obtain ⟨y0, y1, y2, y3, y4, y5, y6, y7⟩ := hv.eight
        unfold vecA at HBl
        have hGl := World.block_lt_of_cell? wd _ f0
        clear hv hwt hb d0' d1' HV3 HWant HB3 HBq3
        go_wp2_with fail
        refine HBl.out.mono ?_
        rintro e w4 ⟨d, err, n4, pl4, rfl, hx4, her, hd, hb4⟩
        obtain ⟨rfl, rfl⟩ := hx4.one HX.out
        have HB4 := hideIt (belA (belJ HBd.out hb4) (vecO d 45))
        have hbz := (Below.refl w4.heap.size w4).alloc (Nat.le_refl _) (vecO d 45)
        have HW4 := hideIt ((HWd.out.below hb4 HWd.out.lt).below hbz (HWd.out.below hb4 HWd.out.lt).lt)
        have HD4 := hideIt (vecB_new w4 d 45)
        have e0 : (w4.alloc (vecO d 45)).cell? ⟨G, 0, none⟩ = some (.int .i64 n4) := cell_alloc ((hb4.cell (p := ⟨G, 0, none⟩) hGl).trans f0)
        have e1 : (w4.alloc (vecO d 45)).cell? ⟨G, 1, none⟩ = some (.int .i64 pl4) := cell_alloc ((hb4.cell (p := ⟨G, 1, none⟩) hGl).trans f1)
        have HAt := hideIt (at_told err n4 pl4 (w4.alloc (vecO d 45)) (her.below hbz) (HIw.out.below HB4.out).typ)
        have HEq : Hid (∀ W', (Op.equalIn 10000 44 (vecA d) (vecA fun p => if n4 = 0 then belN l c p else 0)).run Tryd.prog W' = .ok true W') := fun W' => by
          rw [eq45 W' _ _ 44 (.inl rfl), eqB_iff.2 hd]
        unfold fltA at HAt
        unfold vecO at HB4 HW4 HD4 e0 e1 HAt
        unfold vecA at HEq ⊢
        clear f0 f1 y0 y1 y2 y3 y4 y5 y6 y7 hx4 hb4 HBl hbz
        obtain ⟨wnt, HWn⟩ : ∃ wnt : Nat → Int, Hid ((fun p => if n4 = 0 then belN l c p else 0) = wnt) := ⟨_, hideIt rfl⟩
        have HEq2 : Hid (∀ W', (Op.equalIn 10000 44 (vecA d) (vecA wnt)).run Tryd.prog W' = .ok true W') := fun W' => by rw [← HWn.out]; exact HEq.out W'
        rw [HWn.out] at HW4
        unfold vecA at HEq2
        have heq := HEq2.out
        clear HEq HEq2 hd her
        go_upto_region 11 with fail
        generalize w4.alloc _ = W4 at HB4 HW4 HD4 e0 e1 HAt ⊢
        generalize w4.heap.size = D at HD4 ⊢
        go_wp2_with fail
        refine HAt.out.mono ?_
        rintro e w5 ⟨rfl, hb5⟩
        obtain ⟨y0, y1, y2, y3, y4, y5, y6, y7⟩ := (HD4.out.below hb5 HD4.out.lt).eight
        obtain ⟨x0, x1, x2, x3, x4, x5, x6, x7⟩ := (HW4.out.below hb5 HW4.out.lt).eight
        have HB5 := hideIt (belJ HB4.out hb5)
        clear hb5 e0 e1
        go_wp2
        go_ret
        exact ⟨rfl, HB5.out⟩
  · unfold vecO at HB0
    unfold vecA
    go_enter Tryd.func7, Tryd.ntmps7
    go_wp2
    go_ret
    exact ⟨rfl, HB0.out⟩
end Go.Proofs.YtmonbkoelehdlaaDoor
