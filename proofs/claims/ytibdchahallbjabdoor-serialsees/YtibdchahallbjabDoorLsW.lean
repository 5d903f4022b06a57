/-
  Statement 4, walked: what Sees tells.
-/
import Derived.Test.YtibdchahallbjabDoorSyPZ
import Derived.Test.YtibdchahallbjabDoorLhW
import Derived.Test.YtibdchahallbjabDoorBhPZ
namespace Go.Proofs.YtibdchahallbjabDoor
open Go.RowKit

theorem nilEq (w : World) : (binOp BinOp.eql 29 (.slice none 0 0) (.slice none 0 0)).run Tryd.prog w = .ok (.bool true) w := by kernel_rfl
theorem nilNe (w : World) (g off n c : Nat) : (binOp BinOp.eql 29 (.slice (some ⟨g, off, none⟩) n c) (.slice none 0 0)).run Tryd.prog w = .ok (.bool false) w := by kernel_rfl
theorem sees_len {l : List Stp} {c : List Nat} (h : seesL l = some c) (h6 : (cmL l).length ≤ 6) : c.length ≤ 60 := by
  have H : ∀ (f : Nat) (row c : List Nat), tryL (fitB (doneL l)) (cmL l) f row = some c → c.length = row.length + f := by
    intro f
    induction f with
    | zero =>
      intro row c h
      unfold tryL at h
      split at h
      · obtain rfl := Option.some.inj h; rfl
      · cases h
    | succ f ih =>
      intro row c h
      unfold tryL at h
      obtain ⟨k, _, hk⟩ := List.exists_of_findSome?_eq_some h
      split at hk
      · cases hk
      · have := ih _ _ hk
        rw [List.length_append, List.length_singleton] at this
        omega
  have := H _ _ _ h
  simp at this
  omega

set_option maxRecDepth 100000 in
set_option maxHeartbeats 8000000 in
theorem ss_walk (l : List Stp) (a : Option Addr) (cap : Nat) (w : World) (h : InC w a cap l) :
    Calls Tryd.prog 4 #[.slice a l.length cap] w fun e w' => e = .returned (.bool true) ∧ Below w.heap.size w w' := by
  have HI := hideIt h
  have hm2 : l.length ≤ 9223372036854775807 := h.max
  clear h
  by_cases h100 : l.length ≤ 100
  · have HC := hideIt (mixed_any l a cap w h100 HI.out.at_)
    go_enter Tryd.func4, Tryd.ntmps4
    go_wp2_with fail
    refine HC.out.mono ?_
    clear HC
    rintro e w2 ⟨a2, c2, rfl, hc2, hq2, hb2⟩
    have HB2 := hideIt hb2
    have HQ2 := hideIt hq2
    have HC := hideIt (rSCheck_any l a2 c2 w2 hc2 h100 hq2 (HI.out.below hb2).fine)
    clear hq2 hb2
    go_wp2_with fail
    refine HC.out.mono ?_
    clear HC
    rintro e w3 ⟨n, pl, rfl, hck, hb3⟩
    have HK := hideIt hck
    have HB3 := hideIt (belJ HB2.out hb3)
    have HQ3 := hideIt (HQ2.out.below hb3)
    clear hck hb3 HQ2
    unfold fltA
    have HBx : Hid (Below w.heap.size w (w3.alloc (.cells #[.int .i64 n, .int .i64 pl] 27))) := belA HB3.out _
    have HQx := hideIt (HQ3.out.below ((Below.refl _ _).alloc (Nat.le_refl _) (.cells #[.int .i64 n, .int .i64 pl] 27)))
    have c0 : (w3.alloc (.cells #[.int .i64 n, .int .i64 pl] 27)).cell? ⟨w3.heap.size, 0, none⟩ = some (.int .i64 n) := by simp
    have c1 : (w3.alloc (.cells #[.int .i64 n, .int .i64 pl] 27)).cell? ⟨w3.heap.size, 1, none⟩ = some (.int .i64 pl) := by simp
    have HFz : Hid (∀ o, (w3.alloc (.cells #[.int .i64 n, .int .i64 pl] 27)).frozen? ⟨w3.heap.size, o, none⟩ = false) := fun o => frozen_of_row _ _ o _ 27 (heap_alloc_new w3 _)
    have hFw : w.heap.size ≤ w3.heap.size := HB3.out.size
    go_upto_region 5 with fail
    generalize w3.alloc (.cells #[.int .i64 n, .int .i64 pl] 27) = W3 at HBx HQx c0 c1 HFz ⊢
    generalize w3.heap.size = F at c0 c1 HFz hFw ⊢
    clear HB2 HB3 HQ3
    have hFl3 := World.block_lt_of_cell? W3 _ c0
    have HC0 := hideIt c0
    have HC1 := hideIt c1
    have HLs := hideIt (HI.out.below HBx.out).at_
    clear c0 c1
    go_wp2
    go_loop [5, 6] (fun m i => ∃ k j : Nat, k ≤ l.length ∧ i = .int .i64 k ∧ m = .int .i64 j ∧ j ≤ k) (fun _ i => l.length - (intOf i).toNat)
    case atStart => exact ⟨0, 0, Nat.zero_le _, rfl, rfl, Nat.le_refl _⟩
    case round =>
      obtain ⟨k, j, hk, rfl, rfl, hj⟩ := hrel
      by_cases hkl : k < l.length
      · obtain ⟨b, off, rfl, hlt, hst⟩ : ∃ b off, a = some ⟨b, off, none⟩ ∧ b < W3.heap.size ∧ StpsAt W3 b off l := by
          rcases HLs.out with h | h
          · subst h; simp at hkl
          · exact h
        obtain ⟨c0, c1, c2⟩ := hst k hkl
        generalize l[k] = x at c0 c1 c2
        have hkl' : (k : Int) < l.length := by omega
        clear hst
        by_cases h3 : x.k = 3
        · rw [h3] at c1
          go_wp2
          go_round
          case rel => exact ⟨k + 1, j + 1, by omega, by go_num, by go_num, by omega⟩
          case measure => simp [intOf]; omega
        · have h3' : (x.k == 3) = false := by simp [h3]
          go_wp2
          go_round
          case rel => exact ⟨k + 1, j, by omega, by go_num, by rfl, by omega⟩
          case measure => simp [intOf]; omega
      · obtain rfl : k = l.length := by omega
        have c0 := HC0.out
        have c1 := HC1.out
        by_cases h6 : j = 6
        · subst h6
          go_wp2
          go_ret
          exact ⟨rfl, HBx.out⟩
        · have h6' : ((j : Int) == 6) = false := by simp; omega
          go_upto_region 13 with fail
          clear h6 h6' hj HLs HC0 HC1 hk
          by_cases hn : n = 0
          · subst hn
            obtain ⟨h60, hok, rfl⟩ := HK.out.ok
            have HC := hideIt (rSees_any l a2 c2 W3 h60 hok HQx.out)
            unfold RsTold at HC
            clear hok
            go_wp2_with fail
            refine HC.out.mono ?_
            clear HC
            rintro e W4 ⟨v1, tb, rfl, hb4, hcs⟩
            have HB4 := hideIt (belJ HBx.out hb4)
            have y0 := (hb4.cell (p := ⟨F, 0, none⟩) hFl3).trans c0
            have y1 := (hb4.cell (p := ⟨F, 1, none⟩) hFl3).trans c1
            have yz := (hb4.frozen (p := ⟨F, 0, none⟩) hFl3).trans (HFz.out 0)
            have hFl4 : F < W4.heap.size := Nat.lt_of_lt_of_le hFl3 hb4.size
            clear hb4 c0 c1 HFz
            rcases hcs with ⟨hL, rfl, rfl⟩ | ⟨hL, rfl, hO, rfl⟩ | ⟨hL, rfl, c, g, off, cc, hO, rfl, hi⟩
            · have HL := hideIt hL
              clear hL
              have f0 : (W4.setCell ⟨F, 0, none⟩ (.int .i64 4)).cell? ⟨F, 0, none⟩ = some (.int .i64 4) := World.cell?_setCell_same _ _ _ y0
              have f1 : (W4.setCell ⟨F, 0, none⟩ (.int .i64 4)).cell? ⟨F, 1, none⟩ = some (.int .i64 (-1)) := (World.cell?_setCell_other _ _ _ _ (offN (by decide))).trans y1
              have HBW : Hid (Below w.heap.size w (W4.setCell ⟨F, 0, none⟩ (.int .i64 4))) := HB4.out.setCell (p := ⟨F, 0, none⟩) hFw _
              have hFl : F < (W4.setCell ⟨F, 0, none⟩ (.int .i64 4)).heap.size := by simpa using hFl4
              go_upto_region 21 with fail
              generalize W4.setCell ⟨F, 0, none⟩ (.int .i64 4) = W5 at f0 f1 HBW hFl ⊢
              have HH1 := hasI_nil W5
              clear y0 y1 yz
              have HC := hideIt (sees_any l a cap W5 HI.out.max (HI.out.below HBW.out).at_)
              unfold SeTold at HC
              go_wp2_with fail
              refine HC.out.mono ?_
              clear HC
              rintro e w5 ⟨x1, er5, n5, pl5, rfl, hck5, hb5, hcase⟩
              obtain ⟨hn5, hp5⟩ := hck5.one HK.out
              subst hn5 hp5
              have HB5 := hideIt (belJ HBW.out hb5)
              have d0 := (hb5.cell (p := ⟨F, 0, none⟩) hFl).trans f0
              have d1 := (hb5.cell (p := ⟨F, 1, none⟩) hFl).trans f1
              have HG : Hid (ErrAt w5 er5 4 (-1) ∧ HasI w5 x1 (natI [])) := by
                rcases hcase with ⟨h, _⟩ | ⟨_, _, rfl, rfl⟩ | ⟨_, h, _⟩ | ⟨_, h, _⟩
                · exact absurd rfl h
                · exact ⟨.inr (.inl ⟨by decide, rfl, rfl⟩), hasI_nil _⟩
                · exact absurd HL.out (by omega)
                · exact absurd HL.out (by omega)
              have HV1 := hideIt (HH1.below hb5)
              clear hck5 hcase HH1
              have HC := hideIt (at_told er5 4 (-1) w5 HG.out.1 (HI.out.below HB5.out).typ)
              clear hb5 f0 f1
              unfold fltA at HC
              go_wp2_with fail
              refine HC.out.mono ?_
              clear HC
              rintro e w6 ⟨rfl, hb6⟩
              have HB6 := hideIt (belJ HB5.out hb6)
              have HC := hideIt (sameInts_any (natI []) (by rw [natI_len]; exact Nat.zero_le _) x1 (.slice none 0 0) w6 (HG.out.2.below hb6) (HV1.out.below hb6))
              clear hb6
              go_wp2_with fail
              refine HC.out.mono ?_
              clear HC
              rintro e w7 ⟨rfl, hb7⟩
              go_wp2
              go_ret
              exact ⟨rfl, belJ HB6.out hb7⟩
            · have HL := hideIt hL
              have HO := hideIt hO
              have hq := nilEq W4
              clear hL hO
              have f0 : (W4.setCell ⟨F, 0, none⟩ (.int .i64 8)).cell? ⟨F, 0, none⟩ = some (.int .i64 8) := World.cell?_setCell_same _ _ _ y0
              have f1 : (W4.setCell ⟨F, 0, none⟩ (.int .i64 8)).cell? ⟨F, 1, none⟩ = some (.int .i64 (-1)) := (World.cell?_setCell_other _ _ _ _ (offN (by decide))).trans y1
              have HBW : Hid (Below w.heap.size w (W4.setCell ⟨F, 0, none⟩ (.int .i64 8))) := HB4.out.setCell (p := ⟨F, 0, none⟩) hFw _
              have hFl : F < (W4.setCell ⟨F, 0, none⟩ (.int .i64 8)).heap.size := by simpa using hFl4
              go_upto_region 21 with fail
              generalize W4.setCell ⟨F, 0, none⟩ (.int .i64 8) = W5 at f0 f1 HBW hFl ⊢
              have HH1 := hasI_nil W5
              clear y0 y1 yz
              have HC := hideIt (sees_any l a cap W5 HI.out.max (HI.out.below HBW.out).at_)
              unfold SeTold at HC
              go_wp2_with fail
              refine HC.out.mono ?_
              clear HC
              rintro e w5 ⟨x1, er5, n5, pl5, rfl, hck5, hb5, hcase⟩
              obtain ⟨hn5, hp5⟩ := hck5.one HK.out
              subst hn5 hp5
              have HB5 := hideIt (belJ HBW.out hb5)
              have d0 := (hb5.cell (p := ⟨F, 0, none⟩) hFl).trans f0
              have d1 := (hb5.cell (p := ⟨F, 1, none⟩) hFl).trans f1
              have HG : Hid (ErrAt w5 er5 8 (-1) ∧ HasI w5 x1 (natI [])) := by
                rcases hcase with ⟨h, _⟩ | ⟨_, h, _⟩ | ⟨_, _, _, rfl, rfl⟩ | ⟨_, _, c', h, _⟩
                · exact absurd rfl h
                · exact absurd HL.out (by omega)
                · exact ⟨.inr (.inl ⟨by decide, rfl, rfl⟩), hasI_nil _⟩
                · have e := HO.out.symm.trans h
                  cases e
              have HV1 := hideIt (HH1.below hb5)
              clear hck5 hcase HH1
              have HC := hideIt (at_told er5 8 (-1) w5 HG.out.1 (HI.out.below HB5.out).typ)
              clear hb5 f0 f1
              unfold fltA at HC
              go_wp2_with fail
              refine HC.out.mono ?_
              clear HC
              rintro e w6 ⟨rfl, hb6⟩
              have HB6 := hideIt (belJ HB5.out hb6)
              have HC := hideIt (sameInts_any (natI []) (by rw [natI_len]; exact Nat.zero_le _) x1 (.slice none 0 0) w6 (HG.out.2.below hb6) (HV1.out.below hb6))
              clear hb6
              go_wp2_with fail
              refine HC.out.mono ?_
              clear HC
              rintro e w7 ⟨rfl, hb7⟩
              go_wp2
              go_ret
              exact ⟨rfl, belJ HB6.out hb7⟩
            · have HL := hideIt hL
              have HO := hideIt hO
              have HH1 := hi
              have HBW := HB4
              have hFl := hFl4
              have f0 := y0
              have f1 := y1
              have hq := nilNe W4 g off c.length cc
              clear hL hO hi y0 y1 yz
              have HC := hideIt (sees_any l a cap W4 HI.out.max (HI.out.below HBW.out).at_)
              unfold SeTold at HC
              go_wp2_with fail
              refine HC.out.mono ?_
              clear HC
              rintro e w5 ⟨x1, er5, n5, pl5, rfl, hck5, hb5, hcase⟩
              obtain ⟨hn5, hp5⟩ := hck5.one HK.out
              subst hn5 hp5
              have HB5 := hideIt (belJ HBW.out hb5)
              have d0 := (hb5.cell (p := ⟨F, 0, none⟩) hFl).trans f0
              have d1 := (hb5.cell (p := ⟨F, 1, none⟩) hFl).trans f1
              have HG : Hid (ErrAt w5 er5 0 (-1) ∧ HasI w5 x1 (natI c)) := by
                rcases hcase with ⟨h, _⟩ | ⟨_, h, _⟩ | ⟨_, _, h, _⟩ | ⟨_, _, c', h, hr, rfl⟩
                · exact absurd rfl h
                · exact absurd HL.out (by omega)
                · have e := HO.out.symm.trans h
                  cases e
                · have e := HO.out.symm.trans h
                  obtain rfl := Option.some.inj e
                  exact ⟨.inl ⟨rfl, rfl, rfl⟩, hr.hasI⟩
              have HV1 := hideIt (HH1.below hb5)
              clear hck5 hcase HH1
              have HC := hideIt (at_told er5 0 (-1) w5 HG.out.1 (HI.out.below HB5.out).typ)
              clear hb5 f0 f1
              unfold fltA at HC
              go_wp2_with fail
              refine HC.out.mono ?_
              clear HC
              rintro e w6 ⟨rfl, hb6⟩
              have HB6 := hideIt (belJ HB5.out hb6)
              have HC := hideIt (sameInts_any (natI c) (by rw [natI_len]; exact sees_len HO.out HL.out) x1 (.slice (some ⟨g, off, none⟩) c.length cc) w6 (HG.out.2.below hb6) (HV1.out.below hb6))
              clear hb6
              go_wp2_with fail
              refine HC.out.mono ?_
              clear HC
              rintro e w7 ⟨rfl, hb7⟩
              go_wp2
              go_ret
              exact ⟨rfl, belJ HB6.out hb7⟩
          · have HBW := HBx
            have hFl := hFl3
            have f0 := c0
            have f1 := c1
            have hn' : (n == 0) = false := by simp [hn]
            have HH1 := hasI_nil W3
            clear c0 c1 HFz
            have HC := hideIt (sees_any l a cap W3 HI.out.max (HI.out.below HBW.out).at_)
            unfold SeTold at HC
            go_wp2_with fail
            refine HC.out.mono ?_
            clear HC
            rintro e w5 ⟨x1, er5, n5, pl5, rfl, hck5, hb5, hcase⟩
            obtain ⟨hn5, hp5⟩ := hck5.one HK.out
            subst hn5 hp5
            have HB5 := hideIt (belJ HBW.out hb5)
            have d0 := (hb5.cell (p := ⟨F, 0, none⟩) hFl).trans f0
            have d1 := (hb5.cell (p := ⟨F, 1, none⟩) hFl).trans f1
            have HG : Hid (ErrAt w5 er5 n5 pl5 ∧ HasI w5 x1 (natI [])) := by
              rcases hcase with ⟨_, rfl, h⟩ | ⟨h, _⟩ | ⟨h, _⟩ | ⟨h, _⟩
              · exact ⟨h, hasI_nil _⟩
              · exact absurd h hn
              · exact absurd h hn
              · exact absurd h hn
            have HV1 := hideIt (HH1.below hb5)
            clear hck5 hcase HH1
            have HC := hideIt (at_told er5 n5 pl5 w5 HG.out.1 (HI.out.below HB5.out).typ)
            clear hb5 f0 f1
            unfold fltA at HC
            go_wp2_with fail
            refine HC.out.mono ?_
            clear HC
            rintro e w6 ⟨rfl, hb6⟩
            have HB6 := hideIt (belJ HB5.out hb6)
            have HC := hideIt (sameInts_any (natI []) (by rw [natI_len]; exact Nat.zero_le _) x1 (.slice none 0 0) w6 (HG.out.2.below hb6) (HV1.out.below hb6))
            clear hb6
            go_wp2_with fail
            refine HC.out.mono ?_
            clear HC
            rintro e w7 ⟨rfl, hb7⟩
            go_wp2
            go_ret
            exact ⟨rfl, belJ HB6.out hb7⟩
  · have h100' : (100 : Int) < l.length := by omega
    go_enter Tryd.func4, Tryd.ntmps4
    go_wp2
    go_ret
    exact ⟨rfl, Below.refl _ _⟩
end Go.Proofs.YtibdchahallbjabDoor
