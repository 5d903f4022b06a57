/-
  The statements ClockSteady and ClockBelow, walked.
-/
import Derived.Test.YtmonbkoelehdlaaDoorLcW
import Derived.Test.YtmonbkoelehdlaaDoorSbC
import Derived.Test.YtmonbkoelehdlaaDoorRsW
import Derived.Test.YtmonbkoelehdlaaDoorRlW
import Derived.Test.YtmonbkoelehdlaaDoorEqV
namespace Go.Proofs.YtmonbkoelehdlaaDoor
open Go.RowKit

theorem InC.below {w w' : World} {a : Option Addr} {cap : Nat} {l : List Stp} (h : InC w a cap l) (hb : Below w.heap.size w w') : InC w' a cap l := ⟨h.max, h.cap, h.at_.below hb, h.fine.below hb, h.typ.below hb⟩

set_option maxRecDepth 100000 in
set_option maxHeartbeats 4000000 in
theorem cs_walk (l : List Stp) (a : Option Addr) (cap : Nat) (c : Nat → Int) (w : World) (h : InC w a cap l) :
    Calls Tryd.prog 6 #[.slice a l.length cap, vecA c] w fun e w' => e = .returned (.bool true) ∧ Below w.heap.size w w' := by
  have hmax := h.max
  have HV0 := hideIt (vecB_new w c 44)
  have HB0 : Hid (Below w.heap.size w (w.alloc (vecO c 44))) := belA (Below.refl _ _) _
  have HI0 := hideIt (h.below HB0.out)
  have HIw := hideIt h
  clear h
  by_cases h60 : l.length ≤ 60
  · have HS := hideIt (steps_any l a cap (w.alloc (vecO c 44)) h60 HI0.out.at_)
    unfold vecO at HV0 HB0 HI0 HS
    unfold vecA
    go_enter Tryd.func6, Tryd.ntmps6
    go_wp2_with fail
    refine HS.out.mono ?_
    rintro e w1 ⟨a', cap', rfl, hc', hq', hb1⟩
    have HI1 := hideIt (HI0.out.below hb1)
    have HV1 := hideIt (HV0.out.below hb1 HV0.out.lt)
    have HB1 := hideIt (belJ HB0.out hb1)
    have HQ1 := hideIt hq'
    have HC := hideIt (rCheck_any l a' cap' w1 hc' h60 hq' HI1.out.fine)
    clear hb1 hq' HS HI0 HV0 HB0
    go_wp2_with fail
    refine HC.out.mono ?_
    rintro e w2 ⟨n0, pl0, rfl, hck, hb2⟩
    have HCk := hideIt hck
    have HV2 := hideIt (((HV1.out.below hb2 HV1.out.lt)).alloc (.cells #[.int .i64 n0, .int .i64 pl0] 27))
    have HB2 := hideIt (belA (belJ HB1.out hb2) (.cells #[.int .i64 n0, .int .i64 pl0] 27))
    have HBq : Hid (Below w1.heap.size w1 (w2.alloc (.cells #[.int .i64 n0, .int .i64 pl0] 27))) := belA hb2 _
    have hw1G : w1.heap.size ≤ w2.heap.size := hb2.size
    have HR2 : Hid (ResC (w2.alloc (.cells #[.int .i64 n0, .int .i64 pl0] 27)) w2.heap.size) := ⟨⟨_, _, heap_alloc_new w2 _⟩, ⟨.int .i64 n0, by simp⟩, ⟨.int .i64 pl0, by simp⟩⟩
    have c0 : (w2.alloc (.cells #[.int .i64 n0, .int .i64 pl0] 27)).cell? ⟨w2.heap.size, 0, none⟩ = some (.int .i64 n0) := by simp
    have c1 : (w2.alloc (.cells #[.int .i64 n0, .int .i64 pl0] 27)).cell? ⟨w2.heap.size, 1, none⟩ = some (.int .i64 pl0) := by simp
    have hGw : w.heap.size < w2.heap.size := Nat.lt_of_lt_of_le HV1.out.lt hb2.size
    clear hck hb2 HC HI1 HV1 HB1
    unfold fltA
    go_upto_region 5 with fail
    generalize w2.alloc (.cells #[.int .i64 n0, .int .i64 pl0] 27) = W at HV2 HB2 HBq HR2 c0 c1 ⊢
    generalize w2.heap.size = G at HR2 c0 c1 hGw hw1G ⊢
    go_upto_if 18 with fail
    go_cut [] (fun wx => ∃ n pl, CkX l c n pl ∧ wx.cell? ⟨G, 0, none⟩ = some (.int .i64 n) ∧ wx.cell? ⟨G, 1, none⟩ = some (.int .i64 pl) ∧ VecB wx w.heap.size c ∧ Below w1.heap.size w1 wx ∧ Below w.heap.size w wx)
    case first =>
      by_cases hn : n0 = 0
      · subst hn
        obtain ⟨hf40, _, rfl⟩ := HCk.out.ok
        have HCc := hideIt (cutCheck_any l HCk.out.clOk a' cap' c W (HQ1.out.below HBq.out))
        obtain ⟨y0, y1, y2, y3, y4, y5, y6, y7⟩ := HV2.out.eight
        unfold vecA at HCc
        go_wp2_with fail
        refine HCc.out.mono ?_
        rintro e w3 ⟨n, rfl, hcc, hb3⟩
        have hR3 := HR2.out.block (hb3.block G HR2.out.lt)
        obtain ⟨q0, hq0⟩ := hR3.c0
        have z0 := hR3.fz 0
        have hc1 : w3.cell? ⟨G, 1, none⟩ = some (.int .i64 (-1)) := (hb3.cell (p := ⟨G, 1, none⟩) HR2.out.lt).trans c1
        have RX : Hid (CkX l c n (-1)) := ⟨0, -1, HCk.out, .inr ⟨rfl, hcc.imp (fun h => ⟨h.1, h.2, rfl⟩) (fun h => ⟨h.1, h.2, rfl⟩)⟩⟩
        have R0 : Hid ((w3.setCell ⟨G, 0, none⟩ (.int .i64 n)).cell? ⟨G, 0, none⟩ = some (.int .i64 n)) := World.cell?_setCell_same _ _ _ hq0
        have R1 : Hid ((w3.setCell ⟨G, 0, none⟩ (.int .i64 n)).cell? ⟨G, 1, none⟩ = some (.int .i64 (-1))) := by show World.cell? _ _ = _; rw [World.cell?_setCell_other _ _ _ _ (offN (by omega))]; exact hc1
        have R2 : Hid (VecB (w3.setCell ⟨G, 0, none⟩ (.int .i64 n)) w.heap.size c) := (HV2.out.below hb3 HV2.out.lt).other (p := ⟨G, 0, none⟩) (by show w.heap.size ≠ G; omega) _
        have R3 : Hid (Below w1.heap.size w1 (w3.setCell ⟨G, 0, none⟩ (.int .i64 n))) := (belJ HBq.out hb3).setCell (p := ⟨G, 0, none⟩) hw1G _
        have R4 : Hid (Below w.heap.size w (w3.setCell ⟨G, 0, none⟩ (.int .i64 n))) := (belJ HB2.out hb3).setCell (p := ⟨G, 0, none⟩) (by show w.heap.size ≤ G; omega) _
        clear hR3 hc1 hb3
        go_wp2
        go_meet
        exact ⟨n, -1, RX.out, R0.out, R1.out, R2.out, R3.out, R4.out⟩
      · have hn' : (n0 == 0) = false := by simp [hn]
        have R : Hid (CkX l c n0 pl0) := ⟨n0, pl0, HCk.out, .inl ⟨hn, rfl, rfl⟩⟩
        go_wp2
        go_meet
        exact ⟨n0, pl0, R.out, c0, c1, HV2.out, HBq.out, HB2.out⟩
    case rest =>
      obtain ⟨n, pl, hx, d0, d1, hv, hbq, hb⟩ := hcut
      have HX := hideIt hx
      have HB3 := hideIt hb
      have HBq3 := hideIt hbq
      have HV3 := hideIt hv
      have HSd := hideIt (steady_any l a cap c wc hmax (HIw.out.below hb).at_)
      obtain ⟨y0, y1, y2, y3, y4, y5, y6, y7⟩ := hv.eight
      unfold vecA at HSd
      clear hx hv hbq hb c0 c1 HV2 HB2 HBq HR2
      go_wp2_with fail
      refine HSd.out.mono ?_
      rintro e w4 ⟨b, err, n4, pl4, rfl, hx4, her, rfl, hb4⟩
      obtain ⟨rfl, rfl⟩ := hx4.one HX.out
      have hGl := World.block_lt_of_cell? wc _ d0
      have HB4 := hideIt (belJ HB3.out hb4)
      have HV4 := hideIt (HV3.out.below hb4 HV3.out.lt)
      have HQ4 := hideIt (HQ1.out.below (belJ HBq3.out hb4))
      have e0 : w4.cell? ⟨G, 0, none⟩ = some (.int .i64 n4) := (hb4.cell (p := ⟨G, 0, none⟩) hGl).trans d0
      have e1 : w4.cell? ⟨G, 1, none⟩ = some (.int .i64 pl4) := (hb4.cell (p := ⟨G, 1, none⟩) hGl).trans d1
      have HAt := hideIt (at_told err n4 pl4 w4 her (HIw.out.below HB4.out).typ)
      unfold fltA at HAt
      clear d0 d1 y0 y1 y2 y3 y4 y5 y6 y7 hx4 hb4 HSd
      by_cases hn : n4 = 0
      · subst hn
        obtain ⟨rfl, rfl⟩ := her.nil
        obtain ⟨hck0, hco, _⟩ := HX.out.ok
        have HSt : Hid (∀ W', Below w4.heap.size w4 W' → Calls Tryd.prog 23 #[.slice a' l.length cap', vecA c] W' fun e w' => e = .returned (.bool (stdB l c)) ∧ Below W'.heap.size W' w') := fun W' hW => (rSteady_any l hck0.clOk a' cap' c W' (HQ4.out.below hW)).mono fun e w' ⟨b, he, hiff, hb'⟩ => by
          refine ⟨?_, hb'⟩
          rw [he]
          refine ret_bool ?_
          rw [Bool.eq_iff_iff, hiff, steady_cut hck0.clOk.proc hco, stdB_iff]
        unfold vecA at HSt
        have hbt : (decide ((0 : Int) = 0) && stdB l c) = stdB l c := by simp
        rw [hbt]
        clear hbt her
        generalize stdB l c = sb at HSt ⊢
        go_wp2_with fail
        refine HAt.out.mono ?_
        rintro e w5 ⟨rfl, hb5⟩
        have hGl5 := World.block_lt_of_cell? w4 _ e0
        have f0 : w5.cell? ⟨G, 0, none⟩ = some (.int .i64 0) := (hb5.cell (p := ⟨G, 0, none⟩) hGl5).trans e0
        obtain ⟨y0, y1, y2, y3, y4, y5, y6, y7⟩ := (HV4.out.below hb5 HV4.out.lt).eight
        have HS5 := hideIt (HSt.out w5 hb5)
        have HB5 := hideIt (belJ HB4.out hb5)
        clear hb5 e0 e1
        have hbb : (sb == sb) = true := by simp
        go_wp2_with fail
        refine HS5.out.mono ?_
        rintro e w6 ⟨rfl, hb6⟩
        cases sb
        all_goals
          go_wp2
          go_ret
          exact ⟨rfl, belJ HB5.out hb6⟩
      · obtain ⟨tt, uu, rfl⟩ := her.ne hn
        have hbf : (decide (n4 = 0) && stdB l c) = false := by simp [hn]
        rw [hbf]
        have hn' : (n4 == 0) = false := by simp [hn]
        clear her hbf
        go_wp2_with fail
        refine HAt.out.mono ?_
        rintro e w5 ⟨rfl, hb5⟩
        have hGl5 := World.block_lt_of_cell? w4 _ e0
        have f0 : w5.cell? ⟨G, 0, none⟩ = some (.int .i64 n4) := (hb5.cell (p := ⟨G, 0, none⟩) hGl5).trans e0
        have HB5 := hideIt (belJ HB4.out hb5)
        clear hb5 e0 e1
        go_wp2
        go_ret
        exact ⟨rfl, HB5.out⟩
  · unfold vecO at HB0
    unfold vecA
    go_enter Tryd.func6, Tryd.ntmps6
    go_wp2
    go_ret
    exact ⟨rfl, HB0.out⟩
end Go.Proofs.YtmonbkoelehdlaaDoor
