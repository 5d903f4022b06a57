/-
  The statement SerialClashes, walked.
-/
import Derived.Test.YtibdchahallbjabDoorRhW
import Derived.Test.YtibdchahallbjabDoorInS
namespace Go.Proofs.YtibdchahallbjabDoor
open Go.RowKit

theorem hasI_apart {w : World} {v : Value} {c : List Nat} {F : Nat} (h0 : ∀ o, w.cell? ⟨F, o + 1, none⟩ = none ∨ w.cell? ⟨F, o + 1, none⟩ = some (.int .i64 (-1))) (hI : HasI w v (natI c)) (hc : 2 ≤ c.length) (o : Nat) (u : Value) : HasI (w.setCell ⟨F, o, none⟩ u) v (natI c) := by
  obtain ⟨a, cap, rfl, hcap, hr⟩ := hI
  refine ⟨a, cap, rfl, hcap, fun i hi => ?_⟩
  obtain ⟨g, off, rfl, h1⟩ := hr i hi
  obtain ⟨g', off', e, h2⟩ := hr 1 (by rw [natI_len]; omega)
  injection e with e
  injection e with e1 e2
  subst e1 e2
  refine ⟨g, off, rfl, (World.cell?_setCell_other _ _ _ _ (blkNe fun e => ?_)).trans h1⟩
  subst e
  have hx : (natI c)[1]'(by rw [natI_len]; omega) = ((c[1] : Nat) : Int) := by simp [natI]
  rw [hx] at h2
  rcases h0 off with h | h
  · rw [h] at h2; cases h2
  · rw [h] at h2
    have := Option.some.inj h2
    injection this with _ h3
    omega
theorem sg_two {l : List Stp} (h : sgO l = none) : 2 ≤ (cyL (sgR l)).length := by
  obtain ⟨c, h1, h2, h3⟩ := sg_round h
  rw [h2]
  refine Classical.byContradiction fun hlt => ?_
  rcases cycD_spec (gB (sgR l)) 8 with ⟨d, e, hd⟩ | ⟨e, _⟩
  · rw [h1] at e
    obtain rfl := Option.some.inj e
    match c, h3, hlt, hd with
    | [x], _, _, hd =>
      have hx := hd.cyc.1.1 x (by simp)
      have he := hd.cyc.2.2
      simp at he
      obtain ⟨p, q, _, _, _, g1, g2, g3⟩ := (sgR_gB l hx hx).1 he
      unfold clB at g3
      rw [g1, g2] at g3
      simp at g3
    | x :: y :: r, _, hlt, _ => simp at hlt
  · rw [h1] at e; cases e
theorem comL_len (l : List Stp) {L : List Nat} (h : sgO l = some L) : (comL l L).length ≤ 60 := Nat.le_trans (List.length_filter_le _ _) (by rw [(sgO_lt h).1]; decide)
theorem cyL_len (l : List Stp) : (cyL (sgR l)).length ≤ 60 := by
  unfold cyL
  rw [if_pos (sgR_ok l), sgR_len]
  rcases cycD_spec (gB (sgR l)) 8 with ⟨d, e, hd⟩ | ⟨e, _⟩
  · rw [e]
    exact Nat.le_trans (cyc_few hd.cyc (cyc_simple hd.cyc hd.short)) (by decide)
  · rw [e]; exact Nat.zero_le _

set_option maxRecDepth 100000 in
set_option maxHeartbeats 8000000 in
theorem sh_walk (l : List Stp) (a : Option Addr) (cap : Nat) (w : World) (h : InC w a cap l) :
    Calls Tryd.prog 3 #[.slice a l.length cap] w fun e w' => e = .returned (.bool true) ∧ Below w.heap.size w w' := by
  have HI := hideIt h
  have hm2 : l.length ≤ 9223372036854775807 := h.max
  clear h
  by_cases h100 : l.length ≤ 100
  · have HC := hideIt (mixed_any l a cap w h100 HI.out.at_)
    go_enter Tryd.func3, Tryd.ntmps3
    go_wp2_with fail
    refine HC.out.mono ?_
    clear HC
    rintro e w2 ⟨a2, c2, rfl, hc2, hq2, hb2⟩
    have HB2 := hideIt hb2
    have HQ2 := hideIt hq2
    have HC := hideIt (rSCheck_any l a2 c2 w2 hc2 h100 hq2 (HI.out.below hb2).fine)
    clear hq2 hb2
    go_wp2_with fail
    refine HC.out.mono ?_
    clear HC
    rintro e w3 ⟨n, pl, rfl, hck, hb3⟩
    have HK := hideIt hck
    have HB3 := hideIt (belJ HB2.out hb3)
    have HQ3 := hideIt (HQ2.out.below hb3)
    clear hck hb3 HQ2
    unfold fltA
    have HBx : Hid (Below w.heap.size w (w3.alloc (.cells #[.int .i64 n, .int .i64 pl] 27))) := belA HB3.out _
    have HQx := hideIt (HQ3.out.below ((Below.refl _ _).alloc (Nat.le_refl _) (.cells #[.int .i64 n, .int .i64 pl] 27)))
    have c0 : (w3.alloc (.cells #[.int .i64 n, .int .i64 pl] 27)).cell? ⟨w3.heap.size, 0, none⟩ = some (.int .i64 n) := by simp
    have c1 : (w3.alloc (.cells #[.int .i64 n, .int .i64 pl] 27)).cell? ⟨w3.heap.size, 1, none⟩ = some (.int .i64 pl) := by simp
    have HFz : Hid (∀ o, (w3.alloc (.cells #[.int .i64 n, .int .i64 pl] 27)).frozen? ⟨w3.heap.size, o, none⟩ = false) := fun o => frozen_of_row _ _ o _ 27 (heap_alloc_new w3 _)
    have HFo : Hid (∀ o, (w3.alloc (.cells #[.int .i64 n, .int .i64 pl] 27)).cell? ⟨w3.heap.size, o + 1, none⟩ = none ∨ (w3.alloc (.cells #[.int .i64 n, .int .i64 pl] 27)).cell? ⟨w3.heap.size, o + 1, none⟩ = some (.int .i64 pl)) := fun o => by
      rw [cell_of_row _ _ (o + 1) _ 27 _ (heap_alloc_new w3 _)]
      cases o with
      | zero => right; rfl
      | succ o => left; simp
    have hFw : w.heap.size ≤ w3.heap.size := HB3.out.size
    go_upto_region 6 with fail
    generalize w3.alloc (.cells #[.int .i64 n, .int .i64 pl] 27) = W3 at HBx HQx c0 c1 HFz HFo ⊢
    generalize w3.heap.size = F at c0 c1 HFz HFo hFw ⊢
    clear HB2 HB3 HQ3
    have hFl3 := World.block_lt_of_cell? W3 _ c0
    by_cases hn : n = 0
    · subst hn
      obtain ⟨h60, hok, rfl⟩ := HK.out.ok
      have HC := hideIt (rClashes_any l (fun s hs => by
        obtain ⟨i, hi, rfl⟩ := List.getElem_of_mem hs
        have := (fltQ_zero (hok i hi)).1
        rwa [stZ_at hi] at this) a2 c2 W3 h100 HQx.out)
      unfold RhTold at HC
      clear hok
      go_wp2_with fail
      refine HC.out.mono ?_
      clear HC
      rintro e W4 ⟨v1, v2, rfl, hb4, hcs⟩
      have HB4 := hideIt (belJ HBx.out hb4)
      have y0 := (hb4.cell (p := ⟨F, 0, none⟩) hFl3).trans c0
      have y1 := (hb4.cell (p := ⟨F, 1, none⟩) hFl3).trans c1
      have yz := (hb4.frozen (p := ⟨F, 0, none⟩) hFl3).trans (HFz.out 0)
      have HFo4 : Hid (∀ o, W4.cell? ⟨F, o + 1, none⟩ = none ∨ W4.cell? ⟨F, o + 1, none⟩ = some (.int .i64 (-1))) := fun o => by
        have e := hb4.cell (p := ⟨F, o + 1, none⟩) hFl3
        rw [e]; exact HFo.out o
      have hFl4 : F < W4.heap.size := Nat.lt_of_lt_of_le hFl3 hb4.size
      clear hb4 c0 c1 HFo HFz
      rcases hcs with ⟨L, hO, hr1, rfl⟩ | ⟨hO, rfl, hI2, hlen⟩
      · have HO := hideIt hO
        have HH1 := hr1.hasI
        have HH2 := hasI_nil W4
        have HBW := HB4
        have hFl := hFl4
        have f0 := y0
        have f1 := y1
        clear hO hr1 y0 y1 yz HFo4
        have HC := hideIt (clashes_any l a cap W4 HI.out.max (HI.out.below HBW.out).at_)
        unfold ChTold at HC
        go_wp2_with fail
        refine HC.out.mono ?_
        clear HC
        rintro e w5 ⟨x1, x2, er5, n5, pl5, rfl, hck5, hb5, hcase⟩
        obtain ⟨hn5, hp5⟩ := hck5.one HK.out
        subst hn5 hp5
        have HB5 := hideIt (belJ HBW.out hb5)
        have d0 := (hb5.cell (p := ⟨F, 0, none⟩) hFl).trans f0
        have d1 := (hb5.cell (p := ⟨F, 1, none⟩) hFl).trans f1
        have HG : Hid (ErrAt w5 er5 0 (-1) ∧ HasI w5 x1 (natI (comL l L)) ∧ HasI w5 x2 (natI [])) := by
          rcases hcase with ⟨h, _⟩ | ⟨_, L', hL', hr5, rfl, rfl⟩ | ⟨_, hL', _⟩
          · exact absurd rfl h
          · have e := HO.out.symm.trans hL'
            obtain rfl := Option.some.inj e
            exact ⟨.inl ⟨rfl, rfl, rfl⟩, hr5.hasI, hasI_nil _⟩
          · have e := HO.out.symm.trans hL'
            cases e
        have HV1 := hideIt (HH1.below hb5)
        have HV2 := hideIt (HH2.below hb5)
        clear hck5 hcase
        have HC := hideIt (at_told er5 0 (-1) w5 HG.out.1 (HI.out.below HB5.out).typ)
        clear hb5 f0 f1
        unfold fltA at HC
        go_wp2_with fail
        refine HC.out.mono ?_
        clear HC
        rintro e w6 ⟨rfl, hb6⟩
        have HB6 := hideIt (belJ HB5.out hb6)
        have HC := hideIt (sameInts_any (natI (comL l L)) (by rw [natI_len]; exact comL_len l HO.out) x1 v1 w6 (HG.out.2.1.below hb6) (HV1.out.below hb6))
        have HGx := hideIt (HG.out.2.2.below hb6)
        have HVx := hideIt (HV2.out.below hb6)
        clear hb6
        go_wp2_with fail
        refine HC.out.mono ?_
        clear HC
        rintro e w7 ⟨rfl, hb7⟩
        have HB7 := hideIt (belJ HB6.out hb7)
        have HC := hideIt (sameInts_any (natI []) (by rw [natI_len]; exact Nat.zero_le _) x2 (.slice none 0 0) w7 (HGx.out.below hb7) (HVx.out.below hb7))
        clear hb7
        go_wp2_with fail
        refine HC.out.mono ?_
        clear HC
        rintro e w8 ⟨rfl, hb8⟩
        go_wp2
        go_ret
        exact ⟨rfl, belJ HB7.out hb8⟩
      · have HO := hideIt hO
        have HI5 := hideIt (hasI_apart HFo4.out hI2 (sg_two hO) 0 (.int .i64 11))
        obtain ⟨av, cv, rfl, hcv, hrv⟩ := hI2
        obtain ⟨gv, ov, rfl, _⟩ := hrv 0 (by rw [natI_len]; exact hlen)
        clear hrv hO hcv
        have f0 : (W4.setCell ⟨F, 0, none⟩ (.int .i64 11)).cell? ⟨F, 0, none⟩ = some (.int .i64 11) := World.cell?_setCell_same _ _ _ y0
        have f1 : (W4.setCell ⟨F, 0, none⟩ (.int .i64 11)).cell? ⟨F, 1, none⟩ = some (.int .i64 (-1)) := (World.cell?_setCell_other _ _ _ _ (offN (by decide))).trans y1
        have HBW : Hid (Below w.heap.size w (W4.setCell ⟨F, 0, none⟩ (.int .i64 11))) := HB4.out.setCell (p := ⟨F, 0, none⟩) hFw _
        have hFl : F < (W4.setCell ⟨F, 0, none⟩ (.int .i64 11)).heap.size := by simpa using hFl4
        go_upto_region 10 with fail
        generalize W4.setCell ⟨F, 0, none⟩ (.int .i64 11) = W5 at f0 f1 HBW hFl HI5 ⊢
        have HH1 := hasI_nil W5
        have HH2 := HI5.out
        clear y0 y1 yz HFo4
        have HC := hideIt (clashes_any l a cap W5 HI.out.max (HI.out.below HBW.out).at_)
        unfold ChTold at HC
        go_wp2_with fail
        refine HC.out.mono ?_
        clear HC
        rintro e w5 ⟨x1, x2, er5, n5, pl5, rfl, hck5, hb5, hcase⟩
        obtain ⟨hn5, hp5⟩ := hck5.one HK.out
        subst hn5 hp5
        have HB5 := hideIt (belJ HBW.out hb5)
        have d0 := (hb5.cell (p := ⟨F, 0, none⟩) hFl).trans f0
        have d1 := (hb5.cell (p := ⟨F, 1, none⟩) hFl).trans f1
        have HG : Hid (ErrAt w5 er5 11 (-1) ∧ HasI w5 x1 (natI []) ∧ HasI w5 x2 (natI (cyL (sgR l)))) := by
          rcases hcase with ⟨h, _⟩ | ⟨_, L', hL', _⟩ | ⟨_, hL', rfl, hr5, rfl⟩
          · exact absurd rfl h
          · have e := HO.out.symm.trans hL'
            cases e
          · exact ⟨.inr (.inl ⟨by decide, rfl, rfl⟩), hasI_nil _, hr5.hasI⟩
        have HV1 := hideIt (HH1.below hb5)
        have HV2 := hideIt (HH2.below hb5)
        clear hck5 hcase
        have HC := hideIt (at_told er5 11 (-1) w5 HG.out.1 (HI.out.below HB5.out).typ)
        clear hb5 f0 f1
        unfold fltA at HC
        go_wp2_with fail
        refine HC.out.mono ?_
        clear HC
        rintro e w6 ⟨rfl, hb6⟩
        have HB6 := hideIt (belJ HB5.out hb6)
        have HC := hideIt (sameInts_any (natI []) (by rw [natI_len]; exact Nat.zero_le _) x1 (.slice none 0 0) w6 (HG.out.2.1.below hb6) (HV1.out.below hb6))
        have HGx := hideIt (HG.out.2.2.below hb6)
        have HVx := hideIt (HV2.out.below hb6)
        clear hb6
        go_wp2_with fail
        refine HC.out.mono ?_
        clear HC
        rintro e w7 ⟨rfl, hb7⟩
        have HB7 := hideIt (belJ HB6.out hb7)
        have HC := hideIt (sameInts_any (natI (cyL (sgR l))) (by rw [natI_len]; exact cyL_len l) x2 (.slice (some ⟨gv, ov, none⟩) (natI (cyL (sgR l))).length cv) w7 (HGx.out.below hb7) (HVx.out.below hb7))
        clear hb7
        go_wp2_with fail
        refine HC.out.mono ?_
        clear HC
        rintro e w8 ⟨rfl, hb8⟩
        go_wp2
        go_ret
        exact ⟨rfl, belJ HB7.out hb8⟩
    · have HBW := HBx
      have hFl := hFl3
      have f0 := c0
      have f1 := c1
      have hn' : (n == 0) = false := by simp [hn]
      have HH1 := hasI_nil W3
      have HH2 := hasI_nil W3
      clear c0 c1 HFo HFz
      have HC := hideIt (clashes_any l a cap W3 HI.out.max (HI.out.below HBW.out).at_)
      unfold ChTold at HC
      go_wp2_with fail
      refine HC.out.mono ?_
      clear HC
      rintro e w5 ⟨x1, x2, er5, n5, pl5, rfl, hck5, hb5, hcase⟩
      obtain ⟨hn5, hp5⟩ := hck5.one HK.out
      subst hn5 hp5
      have HB5 := hideIt (belJ HBW.out hb5)
      have d0 := (hb5.cell (p := ⟨F, 0, none⟩) hFl).trans f0
      have d1 := (hb5.cell (p := ⟨F, 1, none⟩) hFl).trans f1
      have HG : Hid (ErrAt w5 er5 n5 pl5 ∧ HasI w5 x1 (natI []) ∧ HasI w5 x2 (natI [])) := by
        rcases hcase with ⟨_, rfl, rfl, h⟩ | ⟨h, _⟩ | ⟨h, _⟩
        · exact ⟨h, hasI_nil _, hasI_nil _⟩
        · exact absurd h hn
        · exact absurd h hn
      have HV1 := hideIt (HH1.below hb5)
      have HV2 := hideIt (HH2.below hb5)
      clear hck5 hcase
      have HC := hideIt (at_told er5 n5 pl5 w5 HG.out.1 (HI.out.below HB5.out).typ)
      clear hb5 f0 f1
      unfold fltA at HC
      go_wp2_with fail
      refine HC.out.mono ?_
      clear HC
      rintro e w6 ⟨rfl, hb6⟩
      have HB6 := hideIt (belJ HB5.out hb6)
      have HC := hideIt (sameInts_any (natI []) (by rw [natI_len]; exact Nat.zero_le _) x1 (.slice none 0 0) w6 (HG.out.2.1.below hb6) (HV1.out.below hb6))
      have HGx := hideIt (HG.out.2.2.below hb6)
      have HVx := hideIt (HV2.out.below hb6)
      clear hb6
      go_wp2_with fail
      refine HC.out.mono ?_
      clear HC
      rintro e w7 ⟨rfl, hb7⟩
      have HB7 := hideIt (belJ HB6.out hb7)
      have HC := hideIt (sameInts_any (natI []) (by rw [natI_len]; exact Nat.zero_le _) x2 (.slice none 0 0) w7 (HGx.out.below hb7) (HVx.out.below hb7))
      clear hb7
      go_wp2_with fail
      refine HC.out.mono ?_
      clear HC
      rintro e w8 ⟨rfl, hb8⟩
      go_wp2
      go_ret
      exact ⟨rfl, belJ HB7.out hb8⟩
  · have h100' : (100 : Int) < l.length := by omega
    go_enter Tryd.func3, Tryd.ntmps3
    go_wp2
    go_ret
    exact ⟨rfl, Below.refl _ _⟩
end Go.Proofs.YtibdchahallbjabDoor
