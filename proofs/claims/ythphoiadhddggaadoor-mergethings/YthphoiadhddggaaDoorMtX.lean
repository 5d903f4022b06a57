/-
  MergeThings, walked.
-/
import Derived.Test.YthphoiadhddggaaDoorMtQ
import Derived.Test.YthphoiadhddggaaDoorRgL
import Derived.Deep.CutBlock
namespace Go.Proofs.YthphoiadhddggaaDoor
open Go.RowKit

theorem run_make40 (w : World) : (Instr.makeMap 40 none).run Tryd.prog w = .ok (.map (some w.heap.size)) (w.alloc (.map #[] 0)) := by
  simp [Instr.makeMap, Result.andThen]
theorem run_make42 (w : World) : (Instr.makeMap 42 none).run Tryd.prog w = .ok (.map (some w.heap.size)) (w.alloc (.map #[] 0)) := by
  simp [Instr.makeMap, Result.andThen]

set_option maxRecDepth 100000 in
set_option maxHeartbeats 8000000 in
theorem mthings_walk (G : World → Prop) (hG : ∀ w w', G w → Below w.heap.size w w' → G w')
    (hBare : ∀ w, G w → Calls Tryd.prog 6 #[.iface 31 (.int .i64 2), .int .i64 2] w fun e w' => e = .returned (.bool true) ∧ Below w.heap.size w w')
    (lw lp lt : List Int) (a b c : Option Addr) (ca cb cc : Nat) (w : World) (hg : G w) (ha : IntsQ w a lw) (hb : IntsQ w b lp) (hc : IntsQ w c lt) :
    Calls Tryd.prog 4 #[.slice a lw.length ca, .slice b lp.length cb, .slice c lt.length cc] w fun e w' => e = .returned (.bool true) ∧ Below w.heap.size w w' := by
  have HA := hideIt ha
  have HB := hideIt hb
  have HC := hideIt hc
  have HG := hideIt hg
  have HGs := hideIt hG
  have HBa := hideIt hBare
  clear ha hb hc hg hG hBare
  by_cases h1 : (lw.length : Int) > 40
  · go_enter Tryd.func4, Tryd.ntmps4
    go_wp2
    go_ret
    exact ⟨rfl, Below.refl _ _⟩
  by_cases h2 : (lp.length : Int) < lw.length
  · go_enter Tryd.func4, Tryd.ntmps4
    go_wp2
    go_ret
    exact ⟨rfl, Below.refl _ _⟩
  by_cases h3 : (lt.length : Int) < lw.length
  · go_enter Tryd.func4, Tryd.ntmps4
    go_wp2
    go_ret
    exact ⟨rfl, Below.refl _ _⟩
  go_enter Tryd.func4, Tryd.ntmps4
  go_upto_region 6 with fail
  have HM0 := hideIt (mt0_new w)
  generalize ((w.alloc _).alloc _).alloc _ = W at HM0 ⊢
  go_wp2
  go_loopw [10] (fun v wr => ∃ (n : Nat) (mi mg : Nat → Nat), n ≤ 3 ∧ v = .int .i64 n ∧ Mt0 w wr n mi mg) (fun v _ => 3 - (intOf v).toNat)
  case atStart => exact ⟨0, _, _, Nat.zero_le _, rfl, HM0.out⟩
  case round =>
    clear HM0
    obtain ⟨n, mi, mg, hn, rfl, hm⟩ := hrel
    have HM := hideIt hm
    by_cases hlt : n < 3
    · have hlt' : (n : Int) < 3 := by omega
      have s8 := ((hm.a8.alloc (.map #[] 0)).alloc (.map #[] 0)).cell hlt
      have f8 := ((hm.a8.alloc (.map #[] 0)).alloc (.map #[] 0)).frozen n
      have A9 := (((hm.a9.alloc (.map #[] 0)).alloc (.map #[] 0)).other (p := ⟨w.heap.size + 1, n, none⟩) (by simp only; omega) (.map (some wr.heap.size)))
      have s9 := A9.cell hlt
      have f9 := A9.frozen n
      have HS := hideIt (hm.step hlt)
      clear hm A9
      have m40 := run_make40 wr
      have m42 := run_make42 (wr.alloc (.map #[] 0))
      go_wp2
      go_roundw
      case rel => exact ⟨n + 1, _, _, by omega, by go_num, HS.out⟩
      case measure => simp [intOf]; omega
    · obtain rfl : n = 3 := by omega
      rw [show ((3 : Nat) : Int) = 3 from rfl]
      have HI0 := hideIt hm.done
      clear hm HM hn
      go_wp2
      go_loopw [11] (fun v wr => ∃ (k : Nat) (p : Nat → Option Nat) (f : Nat → Th) (i : Nat → In1) (g : Nat → Go1), k ≤ lw.length ∧ v = .int .i64 k ∧ MtI w wr k mi mg p f i g) (fun v _ => lw.length - (intOf v).toNat)
      case atStart => exact ⟨0, _, _, _, _, Nat.zero_le _, rfl, HI0.out⟩
      case round =>
        clear HI0
        obtain ⟨k, p, f, i, g, hk, rfl, hm⟩ := hrel
        have HM := hideIt hm
        clear hm
        by_cases hkn : k < lw.length
        · have hkn' : (k : Int) < lw.length := by omega
          have hkp : (k : Int) < lp.length := by omega
          have hkt : (k : Int) < lt.length := by omega
          obtain ⟨g0, f0, rfl, hg0, c0⟩ := (HA.out.below HM.out.bel).at hkn
          obtain ⟨g1, f1, rfl, hg1, c1⟩ := (HB.out.below HM.out.bel).at (i := k) (by omega)
          obtain ⟨g2, f2, rfl, hg2, c2⟩ := (HC.out.below HM.out.bel).at (i := k) (by omega)
          generalize lw[k] = y at c0
          generalize lp[k] = pl at c1
          generalize lt[k] = x at c2
          go_upto_region 13 with fail
          go_region
          obtain ⟨s, hs3, es⟩ := mod3 pl
          rw [es, wrap3 hs3]
          have HM1 := hideIt HM.out.drew
          have HG1 : Hid (G wr.drew) := HGs.out _ _ HG.out HM1.out.bel
          have c0' : wr.drew.cell? ⟨g0, f0 + k, none⟩ = some (.int .i64 y) := c0
          clear es c0 c1 c2 HM
          generalize wr.drew = W1 at HM1 HG1 c0' ⊢
          obtain ⟨q, hq3, eq⟩ := mod3 y
          by_cases hbad : q = 0 ∧ ¬ (-1000000 ≤ x ∧ x ≤ 1000000)
          · as_aux_lemma =>
              obtain ⟨rfl, hx⟩ := hbad
              have cS := HM1.out.a7.cell hs3
              have fS := HM1.out.a7.frozen s
              have HX := hideIt hx
              clear hx
              go_wp2_with fail
              refine (put_bad s x (p s) (fun h => HX.out h.2) W1).mono ?_
              rintro e w2 ⟨rfl, hb2⟩
              have HJ2 := hideIt ((HM1.out.j.on hb2).alloc (.cells #[.map (p s)] 38)).drew
              have HG2 : Hid (G (w2.alloc (.cells #[.map (p s)] 38)).drew) := HGs.out _ _ HG1.out (belA hb2 _).drew
              have HC2 : Hid ((w2.alloc (.cells #[.map (p s)] 38)).drew.cell? ⟨w2.heap.size, 0, none⟩ = some (.map (p s)) ∧ (w2.alloc (.cells #[.map (p s)] 38)).drew.cell? ⟨w.heap.size, s, none⟩ = some (.map (p s))) := ⟨(blk1 (heap_alloc_new w2 _)).1, HJ2.out.a7.cell hs3⟩
              have hlt2 : w2.heap.size < (w2.alloc (.cells #[.map (p s)] 38)).drew.heap.size := by simp
              clear hb2 cS fS
              have hs3' : (s : Int) < 3 := by omega
              go_upto_region 27 with fail
              go_cut [133] from 128 to 132 (fun v wx => v = .bool true ∧ wx = w2.alloc (.cells #[.map (p s)] 38))
              case first =>
                by_cases hlo : x < -1000000
                · have hx1 : decide (x < -1000000) = true := decide_eq_true hlo
                  clear hlo
                  go_wp2
                  go_meet
                  case rel => exact ⟨rfl, rfl⟩
                · have hx1 : decide (x < -1000000) = false := decide_eq_false hlo
                  have hx2 : decide (x > 1000000) = true := decide_eq_true (by have := HX.out; omega)
                  clear hlo
                  go_wp2
                  go_meet
                  case rel => exact ⟨rfl, rfl⟩
              obtain ⟨rfl, rfl⟩ := hcut
              go_upto_region 28 with fail
              refine wp_region_held_drew (S := (fun Z => Z.cell? ⟨w2.heap.size, 0, none⟩ = some (.map (p s)) ∧ Z.cell? ⟨w.heap.size, s, none⟩ = some (.map (p s)))) (by kernel_rfl) HC2.out (fun hHeld => ?_)
              refine wpAnyH_take (i := 0) (v := ?_) rfl (by kernel_rfl) (by kernel_rfl) (by kernel_rfl) (fun _ _ _ h => h) (Or.inl ⟨by rfl, ?_⟩) (by assumption) ?_
              rotate_left 1
              · intro wz ⟨y0, y1⟩
                go_simp
                all_goals with_reducible rfl
              simp only [Act.put, List.setIfInBounds_toArray, List.set_cons_zero, List.set_cons_succ, List.getElem_toArray, List.getElem_cons_zero]
              generalize (w2.alloc (.cells #[.map (p s)] 38)).drew = Y0 at hHeld HJ2 HG2 hlt2 ⊢
              clear HC2
              refine wpAnyH_ready (rs := [1]) (by kernel_rfl) (by simp) (AllReadyH.cons rfl (fun K hK => ?_) AllReadyH.nil)
              go_simp
              refine (HBa.out Y0 HG2.out).mono fun e w3 ⟨he, hb3⟩ => ?_
              subst he
              have hH3 : w3.cell? ⟨w2.heap.size, 0, none⟩ = some (.map (p s)) ∧ w3.cell? ⟨w.heap.size, s, none⟩ = some (.map (p s)) := ⟨(hb3.cell (p := ⟨w2.heap.size, 0, none⟩) (by simp only; omega)).trans hHeld.1, (hb3.cell (p := ⟨w.heap.size, s, none⟩) HJ2.out.a7.lt).trans hHeld.2⟩
              have HJ3 := hideIt (HJ2.out.on hb3)
              clear hb3
              go_simp
              refine hK.out _ _ hH3 (fun hHeld => ?_)
              clear hK K hH3 HJ2 HG2 hlt2
              refine wpAnyH_take (i := 2) (v := ?_) rfl (by kernel_rfl) (by kernel_rfl) (by kernel_rfl) (fun _ _ _ h => h) (Or.inl ⟨by rfl, ?_⟩) (by assumption) ?_
              rotate_left 1
              · intro wz ⟨y0, y1⟩
                go_simp
                all_goals with_reducible rfl
              simp only [Act.put, List.setIfInBounds_toArray, List.set_cons_zero, List.set_cons_succ, List.getElem_toArray, List.getElem_cons_zero, List.getElem_cons_succ]
              refine wpAnyH_take (i := 3) (v := ?_) rfl (by kernel_rfl) (by kernel_rfl) (by kernel_rfl) (fun _ _ _ h => h) (Or.inl ⟨by rfl, ?_⟩) (by assumption) ?_
              rotate_left 1
              · intro wz ⟨y0, y1⟩
                go_simp
                all_goals with_reducible rfl
              simp only [Act.put, List.setIfInBounds_toArray, List.set_cons_zero, List.set_cons_succ, List.getElem_toArray, List.getElem_cons_zero, List.getElem_cons_succ]
              refine wpAnyH_take (i := 4) (v := ?_) rfl (by kernel_rfl) (by kernel_rfl) (by kernel_rfl) (fun _ _ _ h => h) (Or.inl ⟨by rfl, ?_⟩) (by assumption) ?_
              rotate_left 1
              · intro wz ⟨y0, y1⟩
                go_simp
                all_goals with_reducible rfl
              simp only [Act.put, List.setIfInBounds_toArray, List.set_cons_zero, List.set_cons_succ, List.getElem_toArray, List.getElem_cons_zero, List.getElem_cons_succ]
              refine wpAnyH_take (i := 5) (v := ?_) rfl (by kernel_rfl) (by kernel_rfl) (by kernel_rfl) (fun _ _ _ h => h) (Or.inl ⟨by rfl, ?_⟩) (by assumption) ?_
              rotate_left 1
              · intro wz ⟨y0, y1⟩
                go_simp
                all_goals with_reducible rfl
              simp only [Act.put, List.setIfInBounds_toArray, List.set_cons_zero, List.set_cons_succ, List.getElem_toArray, List.getElem_cons_zero, List.getElem_cons_succ]
              refine wpAnyH_take (i := 6) (v := ?_) rfl (by kernel_rfl) (by kernel_rfl) (by kernel_rfl) (fun _ _ _ h => h) (Or.inl ⟨by rfl, ?_⟩) (by assumption) ?_
              rotate_left 1
              · intro wz ⟨y0, y1⟩
                go_simp
                all_goals with_reducible rfl
              simp only [Act.put, List.setIfInBounds_toArray, List.set_cons_zero, List.set_cons_succ, List.getElem_toArray, List.getElem_cons_zero, List.getElem_cons_succ]
              refine wpAnyH_take (i := 7) (v := ?_) rfl (by kernel_rfl) (by kernel_rfl) (by kernel_rfl) (fun _ _ _ h => h) (Or.inl ⟨by rfl, ?_⟩) (by assumption) ?_
              rotate_left 1
              · intro wz ⟨y0, y1⟩
                go_simp
                all_goals with_reducible rfl
              simp only [Act.put, List.setIfInBounds_toArray, List.set_cons_zero, List.set_cons_succ, List.getElem_toArray, List.getElem_cons_zero, List.getElem_cons_succ]
              refine wpAnyH_ready (rs := [8]) (by kernel_rfl) (by simp) (AllReadyH.cons rfl (fun K hK => ?_) AllReadyH.nil)
              go_simp
              refine (same_any (f s) (f s) (p s) (p s) w3 (HJ3.out.hf s hs3) (HJ3.out.hf s hs3)).mono fun e w4 ⟨b, he, hbe, hb4⟩ => ?_
              subst he
              obtain rfl : b = true := hbe.2 rfl
              have HJ4 := hideIt (HJ3.out.on hb4)
              have hH4 : w4.cell? ⟨w2.heap.size, 0, none⟩ = some (.map (p s)) ∧ w4.cell? ⟨w.heap.size, s, none⟩ = some (.map (p s)) := ⟨(hb4.cell (p := ⟨w2.heap.size, 0, none⟩) (World.block_lt_of_cell? w3 _ hHeld.1)).trans hHeld.1, (hb4.cell (p := ⟨w.heap.size, s, none⟩) HJ3.out.a7.lt).trans hHeld.2⟩
              clear hb4 hbe
              go_simp
              refine hK.out _ _ hH4 (fun hHeld => ?_)
              clear hK K hH4 HJ3
              refine wpAnyH_take (i := 9) (v := ?_) rfl (by kernel_rfl) (by kernel_rfl) (by kernel_rfl) (fun _ _ _ h => h) (Or.inl ⟨by rfl, ?_⟩) (by assumption) ?_
              rotate_left 1
              · intro wz ⟨y0, y1⟩
                go_simp
                all_goals with_reducible rfl
              simp only [Act.put, List.setIfInBounds_toArray, List.set_cons_zero, List.set_cons_succ, List.getElem_toArray, List.getElem_cons_zero, List.getElem_cons_succ]
              refine wpAnyH_take (i := 10) (v := ?_) rfl (by kernel_rfl) (by kernel_rfl) (by kernel_rfl) (fun _ _ _ h => h) (Or.inl ⟨by rfl, ?_⟩) (by assumption) ?_
              rotate_left 1
              · intro wz ⟨y0, y1⟩
                go_simp
                all_goals with_reducible rfl
              simp only [Act.put, List.setIfInBounds_toArray, List.set_cons_zero, List.set_cons_succ, List.getElem_toArray, List.getElem_cons_zero, List.getElem_cons_succ]
              refine wpAnyH_done (by kernel_rfl) ?_ _
              clear hHeld
              go_wp2
              go_roundw
              case rel => exact ⟨k + 1, _, _, _, _, by omega, by go_num, HJ4.out.back HM1.out.rel (fun t ht => (HM1.out.grid t ht).mono (Nat.le_succ _))⟩
              case measure => simp [intOf]; omega
          · go_upto_block 4 with fail
            go_cut [14, 15, 16, 17, 18, 19, 20, 21, 22, 23] from 78 to 198 (fun _ _ _ _ _ _ _ _ _ _ wx => ∃ p f i g, MtI w wx (k + 1) mi mg p f i g)
            case first =>
              have cS := HM1.out.a7.cell hs3
              have fS := HM1.out.a7.frozen s
              by_cases hq1 : q = 1
              · as_aux_lemma =>
                  subst hq1
                  have hq0 : ((1 : Int) == 0) = false := by decide
                  go_wp2_with fail
                  refine (drop_any (f s) ((HM1.out.grid s hs3).few (by omega)) x (p s) W1 (HM1.out.hf s hs3)).mono ?_
                  rintro e w2 ⟨M, rfl, hk2, hM2, hb2⟩
                  have HJ2 := hideIt (HM1.out.j.on hb2)
                  have cS2 := HJ2.out.a7.cell hs3
                  have fS2 := HJ2.out.a7.frozen s
                  have HJ3 := hideIt (HJ2.out.setF hs3 hk2 (by have := HM1.out.a9.lt; omega) (fun t ht => ⟨fun e => by have := (HM1.out.hi t ht).lt; omega, fun e => by have := (HM1.out.hg t ht).lt; omega⟩))
                  clear hk2 hM2 hb2 HJ2 cS fS
                  go_upto_region 42 with fail
                  generalize w2.setCell _ _ = W3 at HJ3 ⊢
                  clear cS2 fS2
                  have c8 := HJ3.out.a8.cell hs3
                  have HRr := hideIt HJ3.out.bnd
                  go_wp2_with (at_range; refine wpList_range_k _ pairKS rfl _ _ rfl _ Tryd.underlying40 (some (mi s)) (i s) rfl (.inr ⟨_, rfl, HJ3.out.hi s hs3⟩) ?_; intro w4 hr4 hg4 hs4)
                  have HJ4 := hideIt (HJ3.out.on ((Below.refl _ W3).grown hg4 (Nat.le_refl _) (fun k hk => by cases hk)))
                  have HR4 := hideIt hr4
                  clear hr4 hg4 hs4 c8
                  go_frame
                  go_loopw [] (fun wr => ∃ (left : Int → Int → Bool), RangeO Tryd.prog 49 mkI wr (some (mi s)) W3.heap.size (i s) left ∧ MtJ w wr mi mg (setP p s (some M)) (setP f s (dropT (f s) x)) i (setP g s (dropU (i s) (g s) x left))) (fun wr => leftO wr (some (mi s)) W3.heap.size)
                  case atStart =>
                    refine ⟨_, HR4.out, ?_⟩
                    rw [dropU_start, setP_self]; exact HJ4.out
                  case round =>
                    clear HR4 HJ4
                    obtain ⟨left, hrg, hj⟩ := hrel
                    have HJ := hideIt hj
                    clear hj
                    go_wp2_with (at_next; refine wpList_next_k _ pairKS rfl _ rfl (some (mi s)) W3.heap.size (i s) left rfl hrg ?_ ?_)
                    · intro hleft
                      have HE := hideIt (dropU_done (i s) (g s) x hleft)
                      clear hleft hrg
                      go_wp2
                      go_meet
                      case rel =>
                        refine ⟨_, _, _, _, HJ.out.back (fun t ht => ?_) (fun t ht => ?_)⟩
                        · by_cases et : t = s
                          · subst et
                            rw [setP_same, setP_same, HE.out]
                            exact (HM1.out.rel t ht).drop x
                          · rw [setP_other _ _ et, setP_other _ _ et]; exact HM1.out.rel t ht
                        · by_cases et : t = s
                          · subst et
                            rw [setP_same]
                            exact ((HM1.out.grid t ht).drop x).mono (Nat.le_succ _)
                          · rw [setP_other _ _ et]; exact (HM1.out.grid t ht).mono (Nat.le_succ _)
                    · intro ka kb v w5 hwf hfx hlx hrg5 hlt5 hg5 hs5 hen
                      unfold pairV at hen
                      have HFx := hideIt hfx
                      have HJ5 := hideIt ((HJ.out.iter HRr.out hg5).alloc (.cells #[.int .i64 ka, .int .i64 kb] 49))
                      have hr6 := hrg5.less.kept (World.grownBy_alloc w5 (.cells #[.int .i64 ka, .int .i64 kb] 49) none) (fun _ _ => by simp) (by simp)
                      have HR6 := hideIt hr6.1
                      have HL6 : Hid (leftO (w5.alloc (.cells #[.int .i64 ka, .int .i64 kb] 49)) (some (mi s)) W3.heap.size < leftO wr (some (mi s)) W3.heap.size) := by
                        show _ < _
                        rw [hr6.2]; exact hlt5
                      clear hrg hrg5 hr6 hlt5 hg5 hs5 hfx hlx
                      by_cases hv : v = x
                      · subst hv
                        go_upto_region 46 with fail
                        have HJ6 := hideIt HJ5.out.drew
                        have hfew : Few 100000 (dropU (i s) (g s) v left) := (HM1.out.rel s hs3).fewD ((HM1.out.grid s hs3).few (by omega)) v left
                        have hM6 := HJ6.out.hg s hs3
                        rw [setP_same] at hM6
                        obtain ⟨w7, hrun, hm7, hg7, hs7⟩ := hM6.store pairKS Tryd.underlying42 hfew hwf true
                        unfold pairV at hrun
                        have c9 := HJ6.out.a9.cell hs3
                        have HM7 := hideIt hm7
                        have HG7 := hideIt hg7
                        clear hm7 hg7 hs7 hM6 hfew
                        go_region
                        have hr7 := (HR6.out.kept (grown_drew _ none) (fun _ _ => by simp) (by simp)).1.kept HG7.out (fun N hN e => HM1.out.ap.ig s s hs3 hs3 (by rw [← Option.some.inj hN] at e; exact Option.some.inj e)) (fun e => by have := (HRr.out s hs3).2.1; have := Option.some.inj e; omega)
                        have HR7 := hideIt hr7.1
                        have HL7 : Hid (leftO w7 (some (mi s)) W3.heap.size < leftO wr (some (mi s)) W3.heap.size) := by
                          show _ < _
                          rw [hr7.2, (HR6.out.kept (grown_drew _ none) (fun _ _ => by simp) (by simp)).2]; exact HL6.out
                        have HJ7 := hideIt (HJ6.out.setG hs3 HG7.out HM7.out)
                        clear hr7 hrun c9
                        go_wp2
                        go_roundw
                        case rel =>
                          refine ⟨_, HR7.out, ?_⟩
                          rw [← dropU_put HFx.out, ← setP_twice g s (dropU (i s) (g s) v left)]
                          exact HJ7.out
                        case measure => exact HL7.out
                      · have hv' : (v == x) = false := by simp [hv]
                        have HV := hideIt hv
                        clear hv
                        go_wp2
                        go_roundw
                        case rel =>
                          refine ⟨_, HR6.out, ?_⟩
                          rw [← dropU_skip HFx.out HV.out]
                          exact HJ5.out
                        case measure => exact HL6.out
              · by_cases hq0 : q = 0
                · as_aux_lemma =>
                    subst hq0
                    have hx : -1000000 ≤ x ∧ x ≤ 1000000 := Classical.byContradiction fun h => hbad ⟨rfl, h⟩
                    have hx1 : decide (x < -1000000) = false := decide_eq_false (by omega)
                    have hx2 : decide (x > 1000000) = false := decide_eq_false (by omega)
                    have HX := hideIt hx
                    clear hbad hx hq1
                    go_wp2_with fail
                    refine (put_any (f s) ((HM1.out.grid s hs3).few (by omega)) s x (p s) ⟨by omega, by omega⟩ HX.out ((HM1.out.grid s hs3).bnd (by omega) s) W1 (HM1.out.hf s hs3)).mono ?_
                    rintro e w2 ⟨M, m, hmx, rfl, hk2, hM2, hb2⟩
                    have HMx := hideIt hmx
                    have HJ2 := hideIt ((HM1.out.j.on hb2).alloc (.cells #[.map (some M)] 38))
                    have cS2 := HJ2.out.a7.cell hs3
                    have fS2 := HJ2.out.a7.frozen s
                    have HJ3 := hideIt (HJ2.out.setF hs3 (hk2.alloc _) (by have := HM1.out.a9.lt; omega) (fun t ht => ⟨fun e => by have := (HM1.out.hi t ht).lt; omega, fun e => by have := (HM1.out.hg t ht).lt; omega⟩))
                    clear hmx hk2 hM2 hb2 HJ2 cS fS
                    go_upto_region 33 with fail
                    generalize (w2.alloc _).setCell _ _ = W3 at HJ3 ⊢
                    clear cS2 fS2
                    have c8 := HJ3.out.a8.cell hs3
                    have HRr := hideIt HJ3.out.bnd
                    go_wp2_with (at_range; refine wpList_range_k _ pairKS rfl _ _ rfl _ Tryd.underlying40 (some (mi s)) (i s) rfl (.inr ⟨_, rfl, HJ3.out.hi s hs3⟩) ?_; intro w4 hr4 hg4 hs4)
                    have HJ4 := hideIt (HJ3.out.on ((Below.refl _ W3).grown hg4 (Nat.le_refl _) (fun k hk => by cases hk)))
                    have HR4 := hideIt hr4
                    clear hr4 hg4 hs4 c8
                    go_frame
                    go_loopw [16] (fun vn wr => ∃ (left : Int → Int → Bool) (n : Int), vn = .int .i64 n ∧ RangeO Tryd.prog 49 mkI wr (some (mi s)) W3.heap.size (i s) left ∧ MaxU (i s) s left n ∧ MtJ w wr mi mg (setP p s (some M)) (setP f s (putK2 (f s) s (m + 1) ⟨x, false⟩)) i g) (fun _ wr => leftO wr (some (mi s)) W3.heap.size)
                    case atStart => exact ⟨_, 0, rfl, HR4.out, maxU_start _ _, HJ4.out⟩
                    case round =>
                      clear HR4 HJ4
                      obtain ⟨left, n, rfl, hrg, hmu, hj⟩ := hrel
                      have HJ := hideIt hj
                      have HU := hideIt hmu
                      clear hj hmu
                      go_wp2_with (at_next; refine wpList_next_k _ pairKS rfl _ rfl (some (mi s)) W3.heap.size (i s) left rfl hrg ?_ ?_)
                      · intro hleft
                        obtain rfl := (HU.out.done (HM1.out.rel s hs3) hleft).one HMx.out
                        have hn1 := HMx.out.lo
                        have hn2 := (HM1.out.grid s hs3).max HMx.out
                        have hw1 : IntKind.i64.wrap (n + 1) = n + 1 := IntWalk.i64_in _ (by omega)
                        have hwf : Wf2 s (n + 1) := by
                          have hmn : IntKind.i64.min = -9223372036854775808 := by decide
                          have hmx : IntKind.i64.max = 9223372036854775807 := by decide
                          constructor <;> simp [Lit.wf, hmn, hmx] <;> omega
                        clear hleft hrg hn1 hn2
                        have c8 := HJ.out.a8.cell hs3
                        obtain ⟨w7, hrun, hm7, hg7, hs7⟩ := (HJ.out.hi s hs3).store pairKS Tryd.underlying40 ((HM1.out.rel s hs3).fewI ((HM1.out.grid s hs3).few (by omega))) hwf x
                        unfold pairV at hrun
                        have HJ7 := hideIt (HJ.out.setI hs3 hg7 hm7)
                        clear hm7 hg7 hs7 hwf
                        go_wp2
                        go_meet
                        case rel =>
                          refine ⟨_, _, _, _, HJ7.out.back (fun t ht => ?_) (fun t ht => ?_)⟩
                          · by_cases et : t = s
                            · subst et
                              rw [setP_same, setP_same]
                              exact (HM1.out.rel t ht).put (HMx.out.none (HM1.out.rel t ht)) x
                            · rw [setP_other _ _ et, setP_other _ _ et]; exact HM1.out.rel t ht
                          · by_cases et : t = s
                            · subst et
                              rw [setP_same]
                              exact (HM1.out.grid t ht).put ⟨by omega, by omega⟩ HMx.out _
                            · rw [setP_other _ _ et]; exact (HM1.out.grid t ht).mono (Nat.le_succ _)
                      · intro ka kb v w5 hwf hfx hlx hrg5 hlt5 hg5 hs5 hen
                        unfold pairV at hen
                        have HU5 := hideIt (HU.out.step hfx)
                        have HJ5 := hideIt ((HJ.out.iter HRr.out hg5).alloc (.cells #[.int .i64 ka, .int .i64 kb] 49))
                        have hr6 := hrg5.less.kept (World.grownBy_alloc w5 (.cells #[.int .i64 ka, .int .i64 kb] 49) none) (fun _ _ => by simp) (by simp)
                        have HR6 := hideIt hr6.1
                        have HL6 : Hid (leftO (w5.alloc (.cells #[.int .i64 ka, .int .i64 kb] 49)) (some (mi s)) W3.heap.size < leftO wr (some (mi s)) W3.heap.size) := by
                          show _ < _
                          rw [hr6.2]; exact hlt5
                        clear hrg hrg5 hr6 hlt5 hg5 hs5 hfx hlx
                        by_cases hp : ka = (s : Int)
                        · have HP := hideIt hp
                          subst hp
                          go_wp2
                          go_roundw
                          case rel =>
                            have hu := HU5.out
                            rw [if_pos rfl] at hu
                            have hu2 := hu.max
                            first
                            | exact ⟨_, _, rfl, HR6.out, hu2, HJ5.out⟩
                            | exact ⟨_, _, rfl, HR6.out, hu, HJ5.out⟩
                          case measure => exact HL6.out
                        · have hp' : (ka == (s : Int)) = false := by simp [hp]
                          have HP := hideIt hp
                          clear hp
                          go_wp2
                          go_roundw
                          case rel =>
                            refine ⟨_, n, rfl, HR6.out, ?_, HJ5.out⟩
                            have := HU5.out
                            rw [if_neg HP.out] at this
                            exact this
                          case measure => exact HL6.out
                · obtain rfl : q = 2 := by omega
                  as_aux_lemma =>
                    have hq0' : ((2 : Int) == 0) = false := by decide
                    have hq1' : ((2 : Int) == 1) = false := by decide
                    clear hbad hq1 hq0 cS fS
                    go_upto_region 16 with fail
                    obtain ⟨o, ho3, eo⟩ := mod3 x
                    rw [eo, wrap3 ho3]
                    clear eo hq0' hq1'
                    have hs3' : (s : Int) < 3 := by omega
                    have ho3' : (o : Int) < 3 := by omega
                    have HD : Hid (MtJ w W1.drew mi mg p f i g) := HM1.out.j.drew
                    refine wp_region_L (B := [9]) (S := fun _ => True) (T := fun Z => Z.cell? ⟨w.heap.size, s, none⟩ = some (.map (p s)) ∧ Z.cell? ⟨w.heap.size, o, none⟩ = some (.map (p o))) (by kernel_rfl) ⟨trivial, HD.out.a7.cell hs3, HD.out.a7.cell ho3⟩ (fun hHeld => ?_)
                    generalize W1.drew = Y0 at hHeld HD ⊢
                    refine wpAnyL_takeS (i := 0) (v := ?_) rfl (by kernel_rfl) (by kernel_rfl) (by kernel_rfl) (by kernel_rfl) (fun _ _ _ h => h) (Or.inl ⟨by rfl, ?_⟩) (by assumption) ?_
                    rotate_left 1
                    · intro wz _
                      go_simp
                      all_goals with_reducible rfl
                    simp only [Act.put, List.setIfInBounds_toArray, List.set_cons_zero, List.set_cons_succ, List.getElem_toArray, List.getElem_cons_zero]
                    refine wpAnyL_takeS (i := 1) (v := ?_) rfl (by kernel_rfl) (by kernel_rfl) (by kernel_rfl) (by kernel_rfl) (fun _ _ _ h => h) (Or.inl ⟨by rfl, ?_⟩) (by assumption) ?_
                    rotate_left 1
                    · intro wz _
                      go_simp
                      all_goals with_reducible rfl
                    simp only [Act.put, List.setIfInBounds_toArray, List.set_cons_zero, List.set_cons_succ, List.getElem_toArray, List.getElem_cons_zero, List.getElem_cons_succ]
                    refine wpAnyL_takeS (i := 2) (v := ?_) rfl (by kernel_rfl) (by kernel_rfl) (by kernel_rfl) (by kernel_rfl) (fun _ _ _ h => h) (Or.inl ⟨by rfl, ?_⟩) (by assumption) ?_
                    rotate_left 1
                    · intro wz _
                      go_simp
                      all_goals with_reducible rfl
                    simp only [Act.put, List.setIfInBounds_toArray, List.set_cons_zero, List.set_cons_succ, List.getElem_toArray, List.getElem_cons_zero, List.getElem_cons_succ]
                    refine wpAnyL_take [7, 9] (i := 3) (v := ?_) rfl (by kernel_rfl) (by kernel_rfl) (by kernel_rfl) (by kernel_rfl) (fun _ _ _ h => h) (Or.inl ⟨by rfl, ?_⟩) (by assumption) ?_
                    rotate_left 1
                    · intro wz ⟨_, y0, y1⟩
                      go_simp
                      all_goals with_reducible rfl
                    simp only [Act.put, List.setIfInBounds_toArray, List.set_cons_zero, List.set_cons_succ, List.getElem_toArray, List.getElem_cons_zero, List.getElem_cons_succ]
                    refine wpAnyL_takeS (i := 4) (v := ?_) rfl (by kernel_rfl) (by kernel_rfl) (by kernel_rfl) (by kernel_rfl) (fun _ _ _ h => h) (Or.inl ⟨by rfl, ?_⟩) (by assumption) ?_
                    rotate_left 1
                    · intro wz _
                      go_simp
                      all_goals with_reducible rfl
                    simp only [Act.put, List.setIfInBounds_toArray, List.set_cons_zero, List.set_cons_succ, List.getElem_toArray, List.getElem_cons_zero, List.getElem_cons_succ]
                    refine wpAnyL_takeS (i := 5) (v := ?_) rfl (by kernel_rfl) (by kernel_rfl) (by kernel_rfl) (by kernel_rfl) (fun _ _ _ h => h) (Or.inl ⟨by rfl, ?_⟩) (by assumption) ?_
                    rotate_left 1
                    · intro wz _
                      go_simp
                      all_goals with_reducible rfl
                    simp only [Act.put, List.setIfInBounds_toArray, List.set_cons_zero, List.set_cons_succ, List.getElem_toArray, List.getElem_cons_zero, List.getElem_cons_succ]
                    refine wpAnyL_take [7, 9] (i := 6) (v := ?_) rfl (by kernel_rfl) (by kernel_rfl) (by kernel_rfl) (by kernel_rfl) (fun _ _ _ h => h) (Or.inl ⟨by rfl, ?_⟩) (by assumption) ?_
                    rotate_left 1
                    · intro wz ⟨_, y0, y1⟩
                      go_simp
                      all_goals with_reducible rfl
                    simp only [Act.put, List.setIfInBounds_toArray, List.set_cons_zero, List.set_cons_succ, List.getElem_toArray, List.getElem_cons_zero, List.getElem_cons_succ]
                    refine wpAnyL_ready (rs := [7]) (by kernel_rfl) (by simp) (AllReadyL.cons rfl (fun K hK => ?_) AllReadyL.nil)
                    go_simp
                    refine (join_any (f s) (f o) ((HM1.out.grid s hs3).few (by omega)) (((HM1.out.grid s hs3).join (HM1.out.grid o ho3)).few (by omega)) (p s) (p o) Y0 (HD.out.hf s hs3) (HD.out.hf o ho3)).mono fun e w2 ⟨M, he, hk2, hM2, hb2⟩ => ?_
                    subst he
                    have HJ2 := hideIt (HD.out.on hb2)
                    have cS2 := HJ2.out.a7.cell hs3
                    have fS2 := HJ2.out.a7.frozen s
                    have hT2 : w2.cell? ⟨w.heap.size, s, none⟩ = some (.map (p s)) ∧ w2.cell? ⟨w.heap.size, o, none⟩ = some (.map (p o)) := ⟨cS2, HJ2.out.a7.cell ho3⟩
                    have HJ3 := hideIt (HJ2.out.setF hs3 hk2 (by have := HD.out.a9.lt; omega) (fun t ht => ⟨fun e => by have := (HD.out.hi t ht).lt; omega, fun e => by have := (HD.out.hg t ht).lt; omega⟩))
                    clear hk2 hM2 hb2 HJ2 HD
                    go_simp
                    refine hK.out _ _ ⟨trivial, hT2⟩ (fun hHeld => ?_)
                    clear hK K hT2
                    refine wpAnyL_takeS (i := 8) (v := ?_) rfl (by kernel_rfl) (by kernel_rfl) (by kernel_rfl) (by kernel_rfl) (fun _ _ _ h => h) (Or.inl ⟨by rfl, ?_⟩) (by assumption) ?_
                    rotate_left 1
                    · intro wz _
                      go_simp
                      all_goals with_reducible rfl
                    simp only [Act.put, List.setIfInBounds_toArray, List.set_cons_zero, List.set_cons_succ, List.getElem_toArray, List.getElem_cons_zero, List.getElem_cons_succ]
                    refine wpAnyL_ready (rs := [9]) (by kernel_rfl) (by simp) (AllReadyL.last rfl (by kernel_rfl) (fun K hK => ?_) AllReadyL.nil)
                    go_simp
                    refine hK.out _ _ trivial (fun _ => ?_)
                    clear hK K hHeld
                    refine wpAnyL_done (by kernel_rfl) ?_ _
                    generalize w2.setCell _ _ = W3 at HJ3 ⊢
                    clear cS2 fS2
                    have c8 := HJ3.out.a8.cell ho3
                    have HRr := hideIt HJ3.out.bnd
                    go_wp2_with (at_range; refine wpList_range_k _ pairKS rfl _ _ rfl _ Tryd.underlying40 (some (mi o)) (i o) rfl (.inr ⟨_, rfl, HJ3.out.hi o ho3⟩) ?_; intro w4 hr4 hg4 hs4)
                    have HJ4 := hideIt (HJ3.out.on ((Below.refl _ W3).grown hg4 (Nat.le_refl _) (fun k hk => by cases hk)))
                    have HR4 := hideIt hr4
                    clear hr4 hg4 hs4 c8
                    go_frame
                    go_loopw [] (fun wr => ∃ (left : Int → Int → Bool), RangeO Tryd.prog 49 mkI wr (some (mi o)) W3.heap.size (i o) left ∧ MtJ w wr mi mg (setP p s (some M)) (setP f s (joinT (f s) (f o))) (setP i s (joinU (i s) (i o) left)) g) (fun wr => leftO wr (some (mi o)) W3.heap.size)
                    case atStart =>
                      refine ⟨_, HR4.out, ?_⟩
                      rw [joinU_start, setP_self]; exact HJ4.out
                    case round =>
                      clear HR4 HJ4
                      obtain ⟨left, hrg, hj⟩ := hrel
                      have HJ := hideIt hj
                      clear hj
                      go_wp2_with (at_next; refine wpList_next_k _ pairKS rfl _ rfl (some (mi o)) W3.heap.size (i o) left rfl hrg ?_ ?_)
                      · intro hleft
                        have HJ8 := hideIt (HJ.out.same (congrArg (setP i s) (joinU_done (i s) (i o) hleft)) rfl)
                        clear hleft hrg HJ HRr HJ3
                        generalize wr = W4 at HJ8 ⊢
                        as_aux_lemma =>
                          have c9 := HJ8.out.a9.cell ho3
                          have HRr := hideIt HJ8.out.bnd
                          go_wp2_with (at_range; refine wpList_range_k _ pairKS rfl _ _ rfl _ Tryd.underlying42 (some (mg o)) (g o) rfl (.inr ⟨_, rfl, HJ8.out.hg o ho3⟩) ?_; intro w9 hr9 hg9 hs9)
                          have HJ9 := hideIt (HJ8.out.on ((Below.refl _ W4).grown hg9 (Nat.le_refl _) (fun k hk => by cases hk)))
                          have HR9 := hideIt hr9
                          clear hr9 hg9 hs9 c9
                          go_frame
                          go_loopw [] (fun wr => ∃ (left : Int → Int → Bool), RangeO Tryd.prog 49 mkB wr (some (mg o)) W4.heap.size (g o) left ∧ MtJ w wr mi mg (setP p s (some M)) (setP f s (joinT (f s) (f o))) (setP i s (joinK (i s) (i o))) (setP g s (joinU (g s) (g o) left))) (fun wr => leftO wr (some (mg o)) W4.heap.size)
                          case atStart =>
                            refine ⟨_, HR9.out, ?_⟩
                            rw [joinU_start, setP_self]; exact HJ9.out
                          case round =>
                            clear HR9 HJ9 HJ8
                            obtain ⟨left2, hrg, hj⟩ := hrel
                            have HJ := hideIt hj
                            clear hj
                            go_wp2_with (at_next; refine wpList_next_k _ pairKS rfl _ rfl (some (mg o)) W4.heap.size (g o) left2 rfl hrg ?_ ?_)
                            · intro hleft
                              have HE := hideIt (joinU_done (g s) (g o) hleft)
                              clear hleft hrg
                              go_wp2
                              go_meet
                              case rel =>
                                refine ⟨_, _, _, _, HJ.out.back (fun t ht => ?_) (fun t ht => ?_)⟩
                                · by_cases et : t = s
                                  · subst et
                                    rw [setP_same, setP_same, setP_same, HE.out]
                                    exact (HM1.out.rel t ht).join (HM1.out.rel o ho3)
                                  · rw [setP_other _ _ et, setP_other _ _ et, setP_other _ _ et]; exact HM1.out.rel t ht
                                · by_cases et : t = s
                                  · subst et
                                    rw [setP_same]
                                    exact ((HM1.out.grid t ht).join (HM1.out.grid o ho3)).mono (Nat.le_succ _)
                                  · rw [setP_other _ _ et]; exact (HM1.out.grid t ht).mono (Nat.le_succ _)
                            · intro ka kb
                              refine ⟨fun w5 hwf hfx _ _ _ _ _ _ => absurd ((HM1.out.rel o ho3).yes ka kb false hfx) (by decide), ?_⟩
                              intro w5 hwf hfx hlx hrg5 hlt5 hg5 hs5 hen
                              unfold pairV at hen
                              have HFx := hideIt hfx
                              have HJ5 := hideIt ((HJ.out.iter HRr.out hg5).alloc (.cells #[.int .i64 ka, .int .i64 kb] 49)).drew
                              have hr6 := hrg5.less.kept ((World.grownBy_alloc w5 (.cells #[.int .i64 ka, .int .i64 kb] 49) none).trans (grown_drew _ none)) (fun _ _ => by simp) (by simp)
                              have hM5 := HJ5.out.hg s hs3
                              rw [setP_same] at hM5
                              obtain ⟨w7, hrun, hm7, hg7, hs7, hr7, hl7⟩ := store_under pairKS hM5 hr6.1 (fun e => by
                                have : s = o := Classical.byContradiction fun hne => HM1.out.ap.gg s o hs3 ho3 hne e
                                subst this
                                exact joinU_self _ _) (fun e => by have := (HRr.out s hs3).2.1; omega) Tryd.underlying42 hfx ((joinU_few ((HM1.out.rel s hs3).fewG ((HM1.out.grid s hs3).few (Nat.le_refl _))) ((HM1.out.rel o ho3).fewG ((HM1.out.grid o ho3).few (Nat.le_refl _))) left2).mono (by omega) fun _ _ h => h)
                              have HL7 : Hid (leftO w7 (some (mg o)) W4.heap.size < leftO wr (some (mg o)) W4.heap.size) := by
                                show _ < _
                                rw [hl7, hr6.2]; exact hlt5
                              have HR7 := hideIt hr7
                              have HJ7 := hideIt (HJ5.out.setG hs3 hg7 hm7)
                              have c9 := HJ5.out.a9.cell hs3
                              unfold pairV at hrun
                              clear hrg hrg5 hr6 hlt5 hg5 hs5 hfx hlx hM5 hm7 hg7 hs7 hr7 hl7 hwf
                              go_upto_region 24 with fail
                              go_region
                              go_wp2
                              go_roundw
                              case rel =>
                                refine ⟨_, HR7.out, ?_⟩
                                rw [← joinU_put HFx.out, ← setP_twice g s (joinU (g s) (g o) left2)]
                                exact HJ7.out
                              case measure => exact HL7.out
                      · intro ka kb v w5 hwf hfx hlx hrg5 hlt5 hg5 hs5 hen
                        unfold pairV at hen
                        have HFx := hideIt hfx
                        have HJ5 := hideIt ((HJ.out.iter HRr.out hg5).alloc (.cells #[.int .i64 ka, .int .i64 kb] 49)).drew
                        have hr6 := hrg5.less.kept ((World.grownBy_alloc w5 (.cells #[.int .i64 ka, .int .i64 kb] 49) none).trans (grown_drew _ none)) (fun _ _ => by simp) (by simp)
                        have hM5 := HJ5.out.hi s hs3
                        rw [setP_same] at hM5
                        obtain ⟨w7, hrun, hm7, hg7, hs7, hr7, hl7⟩ := store_under pairKS hM5 hr6.1 (fun e => by
                          have : s = o := Classical.byContradiction fun hne => HM1.out.ap.ii s o hs3 ho3 hne e
                          subst this
                          exact joinU_self _ _) (fun e => by have := (HRr.out s hs3).1; omega) Tryd.underlying40 hfx ((joinU_few ((HM1.out.rel s hs3).fewI ((HM1.out.grid s hs3).few (Nat.le_refl _))) ((HM1.out.rel o ho3).fewI ((HM1.out.grid o ho3).few (Nat.le_refl _))) left).mono (by omega) fun _ _ h => h)
                        have HL7 : Hid (leftO w7 (some (mi o)) W3.heap.size < leftO wr (some (mi o)) W3.heap.size) := by
                          show _ < _
                          rw [hl7, hr6.2]; exact hlt5
                        have HR7 := hideIt hr7
                        have HJ7 := hideIt (HJ5.out.setI hs3 hg7 hm7)
                        have c8 := HJ5.out.a8.cell hs3
                        unfold pairV at hrun
                        clear hrg hrg5 hr6 hlt5 hg5 hs5 hfx hlx hM5 hm7 hg7 hs7 hr7 hl7 hwf
                        go_upto_region 20 with fail
                        go_region
                        go_wp2
                        go_roundw
                        case rel =>
                          refine ⟨_, HR7.out, ?_⟩
                          rw [← joinU_put HFx.out, ← setP_twice i s (joinU (i s) (i o) left)]
                          exact HJ7.out
                        case measure => exact HL7.out
            as_aux_lemma =>
              obtain ⟨pp, ff, ii, gg, hm⟩ := hcut
              have HRl := hideIt (hm.rel s hs3)
              have HGd := hideIt (hm.grid s hs3)
              have HRA := hideIt hm.rel
              have HGA := hideIt hm.grid
              have HJ2 := hideIt hm.j
              have c8 := hm.a8.cell hs3
              have HRr := hideIt hm.j.bnd
              clear hm HM1 HG1 c0' eq hbad hq3
              go_wp2_with (at_range; refine wpList_range_k _ pairKS rfl _ _ rfl _ Tryd.underlying40 (some (mi s)) (ii s) rfl (.inr ⟨_, rfl, HJ2.out.hi s hs3⟩) ?_; intro w4 hr4 hg4 hs4)
              have HJ4 := hideIt (HJ2.out.on ((Below.refl _ wc).grown hg4 (Nat.le_refl _) (fun k hk => by cases hk)))
              have HR4 := hideIt hr4
              have HZ4 : Hid (wc.heap.size + 1 ≤ w4.heap.size) := Nat.le_of_eq hs4.symm
              clear hr4 hg4 hs4 c8
              go_frame
              go_loopw [24] (fun vw wr => ∃ (left : Int → Int → Bool) (L : List Int), WantI w wr wc mi mg pp ff ii gg s k vw left L) (fun _ wr => leftO wr (some (mi s)) wc.heap.size)
              case atStart => exact ⟨_, [], HR4.out, HJ4.out, wantU_start _ _ _, rowAt_nil _ _, HZ4.out⟩
              case round =>
                clear HR4 HJ4 HZ4 HJ2
                obtain ⟨left, L, hrg, hj, hw, hrow, hz⟩ := hrel
                have HJ := hideIt hj
                have HW := hideIt hw
                have HRow := hideIt hrow
                have HZ := hideIt hz
                have HSh : Hid (L.length ≤ 10000) := by
                  show _ ≤ _
                  have h5 := hw.short
                  rw [gridL_len] at h5
                  omega
                clear hj hw hrow hz
                obtain ⟨va, vc, rfl⟩ := HRow.out.slice
                go_wp2_with (at_next; refine wpList_next_k _ pairKS rfl _ rfl (some (mi s)) wc.heap.size (ii s) left rfl hrg ?_ ?_)
                · intro hleft
                  have HHas := hideIt (HW.out.done HRl.out hleft)
                  clear hleft hrg
                  as_aux_lemma =>
                    have c7 := HJ.out.a7.cell hs3
                    have HRis := hideIt HW.out.ris
                    go_wp2_with fail
                    refine (list_any (ff s) (HGd.out.few (by omega)) (pp s) wr (HJ.out.hf s hs3)).mono ?_
                    rintro e w6 ⟨v6, zs, rfl, hrow6, hris6, hmem6, hlen6, hb6⟩
                    obtain rfl : zs = L := rising_one hris6 HRis.out (fun x => (hmem6 x).trans (HHas.out x).symm)
                    obtain ⟨a6, c6, rfl⟩ := hrow6.slice
                    have HI6 := hideIt hrow6.ints.2
                    have HJ6 := hideIt (HJ.out.on hb6)
                    have HO6 := hideIt (HRow.out.ints.2.below hb6)
                    clear hrow6 hris6 hmem6 hlen6 hb6 HJ c7
                    go_wp2_with fail
                    refine (sameInts_any zs HSh.out a6 va c6 vc w6 HI6.out HO6.out).mono ?_
                    rintro e w7 ⟨rfl, hb7⟩
                    have HJ7 := hideIt (HJ6.out.on hb7)
                    have HO7 := hideIt (HO6.out.below hb7)
                    have c7 := HJ7.out.a7.cell hs3
                    clear hb7 HJ6 HO6 HI6
                    go_wp2_with fail
                    refine (has_any (ff s) (pp s) x w7 (HJ7.out.hf s hs3)).mono ?_
                    rintro e w8 ⟨b8, rfl, hb8, hbe8⟩
                    have HJ8 := hideIt (HJ7.out.on hbe8)
                    have HO8 := hideIt (HO7.out.below hbe8)
                    have HB8 := hideIt hb8
                    clear hb8 hbe8 HJ7 HO7 c7
                    go_wp2_with fail
                    refine (member_any zs HSh.out x va vc w8 HO8.out).mono ?_
                    rintro e w9 ⟨b9, rfl, hb9, hbe9⟩
                    obtain rfl : b8 = b9 := by rw [Bool.eq_iff_iff]; exact HB8.out.trans ((HHas.out x).symm.trans hb9.symm)
                    have HJ9 := hideIt (HJ8.out.on hbe9)
                    have hne : (b8 != b8) = false := by simp
                    clear hb9 hbe9 HJ8 HO8
                    go_wp2
                    go_roundw
                    case rel => exact ⟨k + 1, _, _, _, _, by omega, by go_num, HJ9.out.back HRA.out HGA.out⟩
                    case measure => simp [intOf]; omega
                · intro ka kb v w5 hwf hfx hlx hrg5 hlt5 hg5 hs5 hen
                  unfold pairV at hen
                  have HFx := hideIt hfx
                  have HLx := hideIt hlx
                  have HIn : Hid ((ka, kb) ∈ gridL (k + 1)) := HGd.out.supp ka kb (by rw [HRl.out.some_, hfx]; rfl)
                  have HG6 : Hid (w5.grownBy (w5.alloc (.cells #[.int .i64 ka, .int .i64 kb] 49)).drew none) := (World.grownBy_alloc w5 (.cells #[.int .i64 ka, .int .i64 kb] 49) none).trans (grown_drew _ none)
                  have HJ6 := hideIt ((HJ.out.iter HRr.out hg5).alloc (.cells #[.int .i64 ka, .int .i64 kb] 49)).drew
                  have hr6 := hrg5.less.kept HG6.out (fun _ _ => by simp) (by simp)
                  have HR6 := hideIt hr6.1
                  have HL6 : Hid (leftO (w5.alloc (.cells #[.int .i64 ka, .int .i64 kb] 49)).drew (some (mi s)) wc.heap.size < leftO wr (some (mi s)) wc.heap.size) := by
                    show _ < _
                    rw [hr6.2]; exact hlt5
                  have HRow6 : Hid (RowAt (w5.alloc (.cells #[.int .i64 ka, .int .i64 kb] 49)).drew (wc.heap.size + 1) (.slice va L.length vc) L) := (HRow.out.kept hg5 (.inr fun e => by have := (HRow.out.lt _ e).1; omega)).new HG6.out
                  have HZ6 : Hid (wc.heap.size + 1 ≤ (w5.alloc (.cells #[.int .i64 ka, .int .i64 kb] 49)).drew.heap.size) := Nat.le_trans (Nat.le_trans HZ.out hg5.size) HG6.out.size
                  have hlook := (HJ6.out.hg s hs3).look pairKS Tryd.underlying42 (zeroB _) hwf
                  have c9 := HJ6.out.a9.cell hs3
                  unfold pairV at hlook
                  clear hrg hrg5 hr6 hlt5 hg5 hs5 hfx hlx HG6 hwf HRow HJ HZ
                  cases hgk : gg s ka kb with
                  | some b =>
                    obtain rfl := HRl.out.yes ka kb b hgk
                    rw [hgk] at hlook
                    simp only at hlook
                    have HK := hideIt hgk
                    clear hgk
                    go_upto_region 51 with fail
                    go_region
                    go_wp2
                    go_roundw
                    case rel =>
                      exact ⟨_, L, HR6.out, HJ6.out, HW.out.skip HFx.out HLx.out HIn.out (.inl (by rw [HK.out]; simp)), HRow6.out, HZ6.out⟩
                    case measure => exact HL6.out
                  | none =>
                    rw [hgk] at hlook
                    simp only at hlook
                    have HK := hideIt hgk
                    clear hgk
                    go_upto_region 51 with fail
                    go_region
                    generalize (w5.alloc (.cells #[.int .i64 ka, .int .i64 kb] 49)).drew = W6 at HR6 HJ6 HL6 HRow6 HZ6 ⊢
                    clear hlook c9
                    obtain ⟨N7, HN7⟩ : ∃ N, Hid (leftO wr (some (mi s)) wc.heap.size = N) := ⟨_, rfl⟩
                    go_wp2
                    go_loopw [27] (fun vt wz => ∃ (a : Nat), a ≤ L.length ∧ vt = .int .i64 a ∧ (∀ j (hj : j < L.length), j < a → L[j] < v) ∧ wz = W6) (fun vt _ => L.length - (intOf vt).toNat)
                    case atStart => exact ⟨0, Nat.zero_le _, rfl, fun j _ hj => absurd hj (Nat.not_lt_zero _), rfl⟩
                    case round =>
                      obtain ⟨a, hal, rfl, hlo, rfl⟩ := hrel
                      have HLo := hideIt hlo
                      have hSh := HSh.out
                      clear hlo
                      by_cases hlt : a < L.length
                      · obtain ⟨gr, fr, rfl, _, ca'⟩ := HRow6.out.ints.2.at hlt
                        have HLa : Hid (∀ z, L[a] = z → z < v → ∀ j (hj : j < L.length), j < a + 1 → L[j] < v) := fun z hz hzv j hj hja => by
                          by_cases e : j = a
                          · subst e; rw [hz]; exact hzv
                          · exact HLo.out j hj (by omega)
                        have HEq : Hid (∀ z, L[a] = z → z ∈ L) := fun z hz => ris_eq hlt hz
                        have HHi : Hid (∀ z, L[a] = z → v < z → ∀ hj : a < L.length, v < L[a]) := fun z hz hzv hj => by rw [hz]; exact hzv
                        generalize hz : L[a] = z at ca'
                        have HEz := hideIt hz
                        clear hz
                        by_cases hzv : z < v
                        · have HZv := hideIt hzv
                          have hzv' : decide (z < v) = true := decide_eq_true hzv
                          go_wp2
                          go_roundw
                          case rel => exact ⟨a + 1, by omega, by go_num, HLa.out z HEz.out HZv.out, trivial⟩
                          case measure => simp [intOf]; omega
                        · have hzv' : decide (z < v) = false := decide_eq_false hzv
                          by_cases hze : z = v
                          · subst hze
                            have hne : (z != z) = false := by simp
                            have hne2 : ((a : Int) == (L.length : Int)) = false := by simp; omega
                            go_wp2
                            go_roundw
                            case rel => exact ⟨_, L, HR6.out, HJ6.out, HW.out.skip HFx.out HLx.out HIn.out (.inr (HEq.out _ HEz.out)), HRow6.out, HZ6.out⟩
                            case measure => exact HL6.out
                          · have hne : (z != v) = true := by simp [hze]
                            have hne2 : ((a : Int) == (L.length : Int)) = false := by simp; omega
                            have HHi2 := hideIt (HHi.out z HEz.out (by omega))
                            clear hzv hze
                            as_aux_lemma =>
                              have HRow7 := hideIt (HRow6.out.new (World.grownBy_alloc wr (.cells #[.int .i64 0] 3) none))
                              go_wp2_with (at_builtin; refine wpList_append_row rfl _ _ rfl (wc.heap.size + 1) _ L rfl HRow7.out wr.heap.size 1 0 rfl ?c1 ?c2 ?c3 ?_)
                              case c1 => simp
                              case c2 => have := HSh.out; omega
                              case c3 => simp; have := HZ6.out; omega
                              intro v' w8 ht
                              obtain ⟨hrow8, hgr8, hown8⟩ := ht
                              have HJ8 := hideIt ((HJ6.out.alloc (.cells #[.int .i64 0] 3)).rows HRr.out hgr8 (fun b hb => by have := (HRow7.out.lt b hb).1; omega))
                              have hr7 := HR6.out.kept (World.grownBy_alloc wr (.cells #[.int .i64 0] 3) none) (fun _ _ => by simp) (by simp)
                              have hr8 := hr7.1.kept hgr8 (fun N hN e => by have h5 := (HRow7.out.lt N e.symm).1; have h6 := (HRr.out s hs3).1; have := Option.some.inj hN; omega) (fun e => by have h5 := (HRow7.out.lt _ e.symm).1; omega)
                              have HR8 := hideIt hr8.1
                              have HL8 : Hid (leftO w8 (some (mi s)) wc.heap.size = leftO wr (some (mi s)) wc.heap.size) := by
                                show _ = _
                                rw [hr8.2, hr7.2]
                              have HZ8 : Hid (wc.heap.size + 1 ≤ w8.heap.size) := Nat.le_trans HZ6.out (Nat.le_trans (World.grownBy_alloc wr (.cells #[.int .i64 0] 3) none).size hgr8.size)
                              rcases hrow8 with ⟨_, e0⟩ | ⟨g8, o8, cap8, cur8, rfl, hb8, hh8, h81, h82, h83, h84⟩
                              · simp at e0
                              have HC8 : Hid (∀ j (hj : j < L.length), w8.cell? ⟨g8, o8 + j, none⟩ = some (.int .i64 L[j])) := fun j hj => by
                                rw [h84 j (by simp; omega), List.getElem_append_left hj]
                              have hlen8 : (L ++ [(0 : Int)]).length = L.length + 1 := by simp
                              rw [hlen8] at h81 ⊢
                              have H81 := hideIt h81
                              have H82 := hideIt h82
                              have H83 := hideIt h83
                              have HH8 := hideIt hh8
                              have HB8 := hideIt hb8
                              clear hr7 hr8 h84 hlen8 h81 h82 h83 hh8 hb8 hgr8 hown8 HJ6 HR6
                              have hwa : IntKind.i64.wrap ((a : Int) + 1) = (a : Int) + 1 := IntWalk.i64_in _ (by omega)
                              have hk1 : (a : Int) + 1 ≤ (L.length : Int) + 1 := by omega
                              have hk2 : (a : Int) ≤ (L.length : Int) + 1 := by omega
                              have hk3 : (0 : Int) ≤ (a : Int) + 1 := by omega
                              go_upto_region 57 with fail
                              refine wp_region_held_drew (S := (fun _ => True)) (by kernel_rfl) trivial (fun hHeld => ?_)
                              refine wpAnyH_take (i := 0) (v := ?_) rfl (by kernel_rfl) (by kernel_rfl) (by kernel_rfl) (fun _ _ _ h => h) (Or.inl ⟨by rfl, ?_⟩) (by assumption) ?_
                              rotate_left 1
                              · intro wz _
                                go_simp
                                all_goals with_reducible rfl
                              simp only [Act.put, List.setIfInBounds_toArray, List.set_cons_zero, List.set_cons_succ, List.getElem_toArray, List.getElem_cons_zero]
                              refine wpAnyH_take (i := 1) (v := ?_) rfl (by kernel_rfl) (by kernel_rfl) (by kernel_rfl) (fun _ _ _ h => h) (Or.inl ⟨by rfl, ?_⟩) (by assumption) ?_
                              rotate_left 1
                              · intro wz _
                                go_simp
                                all_goals with_reducible rfl
                              simp only [Act.put, List.setIfInBounds_toArray, List.set_cons_zero, List.set_cons_succ, List.getElem_toArray, List.getElem_cons_zero, List.getElem_cons_succ]
                              refine wpAnyH_take (i := 2) (v := ?_) rfl (by kernel_rfl) (by kernel_rfl) (by kernel_rfl) (fun _ _ _ h => h) (Or.inl ⟨by rfl, ?_⟩) (by assumption) ?_
                              rotate_left 1
                              · intro wz _
                                go_simp
                                all_goals with_reducible rfl
                              simp only [Act.put, List.setIfInBounds_toArray, List.set_cons_zero, List.set_cons_succ, List.getElem_toArray, List.getElem_cons_zero, List.getElem_cons_succ]
                              refine wpAnyH_take (i := 3) (v := ?_) rfl (by kernel_rfl) (by kernel_rfl) (by kernel_rfl) (fun _ _ _ h => h) (Or.inl ⟨by rfl, ?_⟩) (by assumption) ?_
                              rotate_left 1
                              · intro wz _
                                go_simp
                                all_goals with_reducible rfl
                              simp only [Act.put, List.setIfInBounds_toArray, List.set_cons_zero, List.set_cons_succ, List.getElem_toArray, List.getElem_cons_zero, List.getElem_cons_succ]
                              refine wpAnyH_take (i := 4) (v := ?_) rfl (by kernel_rfl) (by kernel_rfl) (by kernel_rfl) (fun _ _ _ h => h) (Or.inl ⟨by rfl, ?_⟩) (by assumption) ?_
                              rotate_left 1
                              · intro wz _
                                go_simp
                                all_goals with_reducible rfl
                              simp only [Act.put, List.setIfInBounds_toArray, List.set_cons_zero, List.set_cons_succ, List.getElem_toArray, List.getElem_cons_zero, List.getElem_cons_succ]
                              refine wpAnyH_take (i := 5) (v := ?_) rfl (by kernel_rfl) (by kernel_rfl) (by kernel_rfl) (fun _ _ _ h => h) (Or.inl ⟨by rfl, ?_⟩) (by assumption) ?_
                              rotate_left 1
                              · intro wz _
                                go_simp
                                all_goals with_reducible rfl
                              simp only [Act.put, List.setIfInBounds_toArray, List.set_cons_zero, List.set_cons_succ, List.getElem_toArray, List.getElem_cons_zero, List.getElem_cons_succ]
                              refine wpAnyH_take (i := 6) (v := ?_) rfl (by kernel_rfl) (by kernel_rfl) (by kernel_rfl) (fun _ _ _ h => h) (Or.inl ⟨by rfl, ?_⟩) (by assumption) ?_
                              rotate_left 1
                              · intro wz _
                                go_simp
                                all_goals with_reducible rfl
                              simp only [Act.put, List.setIfInBounds_toArray, List.set_cons_zero, List.set_cons_succ, List.getElem_toArray, List.getElem_cons_zero, List.getElem_cons_succ]
                              refine wpAnyH_ready (rs := [7]) (by kernel_rfl) (by simp) (AllReadyH.cons rfl (fun K hK => ?_) AllReadyH.nil)
                              refine step_copy_ins rfl _ _ rfl _ _ _ _ _ _ rfl rfl g8 o8 cap8 cur8 L a HH8.out H81.out H82.out HC8.out ?d1 ?d2 ?d3 ?_
                              case d1 => omega
                              case d2 => omega
                              case d3 =>
                                intro hl
                                have h81 := H81.out
                                exact ⟨if_neg (by omega), if_neg (by omega)⟩
                              intro w9 hw9
                              refine hK.out _ _ trivial (fun _ => ?_)
                              clear hK K hHeld
                              refine wpAnyH_done (by kernel_rfl) ?_ _
                              have HRow9 := hideIt (row_ins HB8.out (W := w8.drew) HH8.out H81.out H82.out H83.out HC8.out hal v hw9)
                              obtain ⟨c9, e9, z9⟩ := heap_setCells ((L.drop a).map (Value.int .i64)) (o8 + (a + 1)) w8.drew cur8 HH8.out
                              rw [← hw9] at e9
                              obtain ⟨u9, hcell9⟩ : ∃ u, w9.cell? ⟨g8, o8 + a, none⟩ = some u := Option.isSome_iff_exists.1 (some_of_heap e9 (by have h81 := H81.out; have h82 := H82.out; omega))
                              have hfro9 := unfrozen_of_heap e9 (o8 + a)
                              have HG9 : Hid (w8.grownBy (w9.setCell ⟨g8, o8 + a, none⟩ (.int .i64 v)) (some g8)) := (((grown_drew w8 (some g8)).trans (by rw [hw9]; exact grown_setCells _ _ _ _)).trans (grown_setCell w9 ⟨g8, o8 + a, none⟩ (.int .i64 v)))
                              have HJ9 := hideIt (HJ8.out.rows HRr.out HG9.out (fun b hb => by have h5 := HB8.out; have := Option.some.inj hb; omega))
                              have hr9 := HR8.out.kept HG9.out (fun N hN e => by have h5 := HB8.out; have h6 := (HRr.out s hs3).1; have h7 := Option.some.inj hN; have h8 := Option.some.inj e; omega) (fun e => by have h5 := HB8.out; have := Option.some.inj e; omega)
                              have HR9 := hideIt hr9.1
                              have HL9 : Hid (leftO (w9.setCell ⟨g8, o8 + a, none⟩ (.int .i64 v)) (some (mi s)) wc.heap.size < N7) := by
                                show _ < _
                                rw [hr9.2, HL8.out]; exact Nat.lt_of_lt_of_eq HL6.out HN7.out
                              have HZ9 : Hid (wc.heap.size + 1 ≤ (w9.setCell ⟨g8, o8 + a, none⟩ (.int .i64 v)).heap.size) := Nat.le_trans HZ8.out HG9.out.size
                              have hlt9 : (a : Int) < (L.length : Int) + 1 := by omega
                              clear hr9 e9 z9 hw9 HR8 HJ8 hk1 hk2 hk3 hwa
                              go_wp2
                              go_roundw
                              case rel => exact ⟨_, _, HR9.out, HJ9.out, HW.out.add HFx.out HLx.out HIn.out HK.out hal HLo.out HHi2.out, HRow9.out, HZ9.out⟩
                              case measure => exact Nat.lt_of_lt_of_eq HL9.out HN7.out.symm
                      · have hlt' : decide ((a : Int) < (L.length : Int)) = false := decide_eq_false (by omega)
                        have heq' : ((a : Int) == (L.length : Int)) = true := by
                          have : a = L.length := by omega
                          simp [this]
                        have HHi2 : Hid (∀ hj : a < L.length, v < L[a]) := fun hj => absurd hj hlt
                        as_aux_lemma =>
                          have HRow7 := hideIt (HRow6.out.new (World.grownBy_alloc wr (.cells #[.int .i64 0] 3) none))
                          go_wp2_with (at_builtin; refine wpList_append_row rfl _ _ rfl (wc.heap.size + 1) _ L rfl HRow7.out wr.heap.size 1 0 rfl ?c1 ?c2 ?c3 ?_)
                          case c1 => simp
                          case c2 => have := HSh.out; omega
                          case c3 => simp; have := HZ6.out; omega
                          intro v' w8 ht
                          obtain ⟨hrow8, hgr8, hown8⟩ := ht
                          have HJ8 := hideIt ((HJ6.out.alloc (.cells #[.int .i64 0] 3)).rows HRr.out hgr8 (fun b hb => by have := (HRow7.out.lt b hb).1; omega))
                          have hr7 := HR6.out.kept (World.grownBy_alloc wr (.cells #[.int .i64 0] 3) none) (fun _ _ => by simp) (by simp)
                          have hr8 := hr7.1.kept hgr8 (fun N hN e => by have h5 := (HRow7.out.lt N e.symm).1; have h6 := (HRr.out s hs3).1; have := Option.some.inj hN; omega) (fun e => by have h5 := (HRow7.out.lt _ e.symm).1; omega)
                          have HR8 := hideIt hr8.1
                          have HL8 : Hid (leftO w8 (some (mi s)) wc.heap.size = leftO wr (some (mi s)) wc.heap.size) := by
                            show _ = _
                            rw [hr8.2, hr7.2]
                          have HZ8 : Hid (wc.heap.size + 1 ≤ w8.heap.size) := Nat.le_trans HZ6.out (Nat.le_trans (World.grownBy_alloc wr (.cells #[.int .i64 0] 3) none).size hgr8.size)
                          rcases hrow8 with ⟨_, e0⟩ | ⟨g8, o8, cap8, cur8, rfl, hb8, hh8, h81, h82, h83, h84⟩
                          · simp at e0
                          have HC8 : Hid (∀ j (hj : j < L.length), w8.cell? ⟨g8, o8 + j, none⟩ = some (.int .i64 L[j])) := fun j hj => by
                            rw [h84 j (by simp; omega), List.getElem_append_left hj]
                          have hlen8 : (L ++ [(0 : Int)]).length = L.length + 1 := by simp
                          rw [hlen8] at h81 ⊢
                          have H81 := hideIt h81
                          have H82 := hideIt h82
                          have H83 := hideIt h83
                          have HH8 := hideIt hh8
                          have HB8 := hideIt hb8
                          clear hr7 hr8 h84 hlen8 h81 h82 h83 hh8 hb8 hgr8 hown8 HJ6 HR6
                          have hwa : IntKind.i64.wrap ((a : Int) + 1) = (a : Int) + 1 := IntWalk.i64_in _ (by omega)
                          have hk1 : (a : Int) + 1 ≤ (L.length : Int) + 1 := by omega
                          have hk2 : (a : Int) ≤ (L.length : Int) + 1 := by omega
                          have hk3 : (0 : Int) ≤ (a : Int) + 1 := by omega
                          go_upto_region 57 with fail
                          refine wp_region_held_drew (S := (fun _ => True)) (by kernel_rfl) trivial (fun hHeld => ?_)
                          refine wpAnyH_take (i := 0) (v := ?_) rfl (by kernel_rfl) (by kernel_rfl) (by kernel_rfl) (fun _ _ _ h => h) (Or.inl ⟨by rfl, ?_⟩) (by assumption) ?_
                          rotate_left 1
                          · intro wz _
                            go_simp
                            all_goals with_reducible rfl
                          simp only [Act.put, List.setIfInBounds_toArray, List.set_cons_zero, List.set_cons_succ, List.getElem_toArray, List.getElem_cons_zero]
                          refine wpAnyH_take (i := 1) (v := ?_) rfl (by kernel_rfl) (by kernel_rfl) (by kernel_rfl) (fun _ _ _ h => h) (Or.inl ⟨by rfl, ?_⟩) (by assumption) ?_
                          rotate_left 1
                          · intro wz _
                            go_simp
                            all_goals with_reducible rfl
                          simp only [Act.put, List.setIfInBounds_toArray, List.set_cons_zero, List.set_cons_succ, List.getElem_toArray, List.getElem_cons_zero, List.getElem_cons_succ]
                          refine wpAnyH_take (i := 2) (v := ?_) rfl (by kernel_rfl) (by kernel_rfl) (by kernel_rfl) (fun _ _ _ h => h) (Or.inl ⟨by rfl, ?_⟩) (by assumption) ?_
                          rotate_left 1
                          · intro wz _
                            go_simp
                            all_goals with_reducible rfl
                          simp only [Act.put, List.setIfInBounds_toArray, List.set_cons_zero, List.set_cons_succ, List.getElem_toArray, List.getElem_cons_zero, List.getElem_cons_succ]
                          refine wpAnyH_take (i := 3) (v := ?_) rfl (by kernel_rfl) (by kernel_rfl) (by kernel_rfl) (fun _ _ _ h => h) (Or.inl ⟨by rfl, ?_⟩) (by assumption) ?_
                          rotate_left 1
                          · intro wz _
                            go_simp
                            all_goals with_reducible rfl
                          simp only [Act.put, List.setIfInBounds_toArray, List.set_cons_zero, List.set_cons_succ, List.getElem_toArray, List.getElem_cons_zero, List.getElem_cons_succ]
                          refine wpAnyH_take (i := 4) (v := ?_) rfl (by kernel_rfl) (by kernel_rfl) (by kernel_rfl) (fun _ _ _ h => h) (Or.inl ⟨by rfl, ?_⟩) (by assumption) ?_
                          rotate_left 1
                          · intro wz _
                            go_simp
                            all_goals with_reducible rfl
                          simp only [Act.put, List.setIfInBounds_toArray, List.set_cons_zero, List.set_cons_succ, List.getElem_toArray, List.getElem_cons_zero, List.getElem_cons_succ]
                          refine wpAnyH_take (i := 5) (v := ?_) rfl (by kernel_rfl) (by kernel_rfl) (by kernel_rfl) (fun _ _ _ h => h) (Or.inl ⟨by rfl, ?_⟩) (by assumption) ?_
                          rotate_left 1
                          · intro wz _
                            go_simp
                            all_goals with_reducible rfl
                          simp only [Act.put, List.setIfInBounds_toArray, List.set_cons_zero, List.set_cons_succ, List.getElem_toArray, List.getElem_cons_zero, List.getElem_cons_succ]
                          refine wpAnyH_take (i := 6) (v := ?_) rfl (by kernel_rfl) (by kernel_rfl) (by kernel_rfl) (fun _ _ _ h => h) (Or.inl ⟨by rfl, ?_⟩) (by assumption) ?_
                          rotate_left 1
                          · intro wz _
                            go_simp
                            all_goals with_reducible rfl
                          simp only [Act.put, List.setIfInBounds_toArray, List.set_cons_zero, List.set_cons_succ, List.getElem_toArray, List.getElem_cons_zero, List.getElem_cons_succ]
                          refine wpAnyH_ready (rs := [7]) (by kernel_rfl) (by simp) (AllReadyH.cons rfl (fun K hK => ?_) AllReadyH.nil)
                          refine step_copy_ins rfl _ _ rfl _ _ _ _ _ _ rfl rfl g8 o8 cap8 cur8 L a HH8.out H81.out H82.out HC8.out ?d1 ?d2 ?d3 ?_
                          case d1 => omega
                          case d2 => omega
                          case d3 =>
                            intro hl
                            have h81 := H81.out
                            exact ⟨if_neg (by omega), if_neg (by omega)⟩
                          intro w9 hw9
                          refine hK.out _ _ trivial (fun _ => ?_)
                          clear hK K hHeld
                          refine wpAnyH_done (by kernel_rfl) ?_ _
                          have HRow9 := hideIt (row_ins HB8.out (W := w8.drew) HH8.out H81.out H82.out H83.out HC8.out hal v hw9)
                          obtain ⟨c9, e9, z9⟩ := heap_setCells ((L.drop a).map (Value.int .i64)) (o8 + (a + 1)) w8.drew cur8 HH8.out
                          rw [← hw9] at e9
                          obtain ⟨u9, hcell9⟩ : ∃ u, w9.cell? ⟨g8, o8 + a, none⟩ = some u := Option.isSome_iff_exists.1 (some_of_heap e9 (by have h81 := H81.out; have h82 := H82.out; omega))
                          have hfro9 := unfrozen_of_heap e9 (o8 + a)
                          have HG9 : Hid (w8.grownBy (w9.setCell ⟨g8, o8 + a, none⟩ (.int .i64 v)) (some g8)) := (((grown_drew w8 (some g8)).trans (by rw [hw9]; exact grown_setCells _ _ _ _)).trans (grown_setCell w9 ⟨g8, o8 + a, none⟩ (.int .i64 v)))
                          have HJ9 := hideIt (HJ8.out.rows HRr.out HG9.out (fun b hb => by have h5 := HB8.out; have := Option.some.inj hb; omega))
                          have hr9 := HR8.out.kept HG9.out (fun N hN e => by have h5 := HB8.out; have h6 := (HRr.out s hs3).1; have h7 := Option.some.inj hN; have h8 := Option.some.inj e; omega) (fun e => by have h5 := HB8.out; have := Option.some.inj e; omega)
                          have HR9 := hideIt hr9.1
                          have HL9 : Hid (leftO (w9.setCell ⟨g8, o8 + a, none⟩ (.int .i64 v)) (some (mi s)) wc.heap.size < N7) := by
                            show _ < _
                            rw [hr9.2, HL8.out]; exact Nat.lt_of_lt_of_eq HL6.out HN7.out
                          have HZ9 : Hid (wc.heap.size + 1 ≤ (w9.setCell ⟨g8, o8 + a, none⟩ (.int .i64 v)).heap.size) := Nat.le_trans HZ8.out HG9.out.size
                          have hlt9 : (a : Int) < (L.length : Int) + 1 := by omega
                          clear hr9 e9 z9 hw9 HR8 HJ8 hk1 hk2 hk3 hwa
                          go_wp2
                          go_roundw
                          case rel => exact ⟨_, _, HR9.out, HJ9.out, HW.out.add HFx.out HLx.out HIn.out HK.out hal HLo.out HHi2.out, HRow9.out, HZ9.out⟩
                          case measure => exact Nat.lt_of_lt_of_eq HL9.out HN7.out.symm
        · go_wp2
          go_ret
          exact ⟨rfl, HM.out.bel⟩
end Go.Proofs.YthphoiadhddggaaDoor
