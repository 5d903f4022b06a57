/-
  The program's Finds, walked.
-/
import Derived.Test.YtaopigjhdkdklaaDoorIfMZ
namespace Go.Proofs.YtaopigjhdkdklaaDoor
open Go.RowKit Go.Shelf
attribute [local go_sem] Oper.semAt_some

/-- What Finds tells. -/
def FinTold (s : ISt) (w : World) (e : Ending) (w' : World) : Prop :=
  ∃ v, e = .returned (.tuple #[v, toldV (fltI s)]) ∧ (fltI s = 0 → ∃ B, v = .slice (some ⟨B, 0, none⟩) 6 6 ∧ BitsAt w' B 6 (fndB s)) ∧ (fltI s ≠ 0 → v = .slice none 0 0) ∧ Below w.heap.size w w'

theorem below_drew1 (Z : World) : Below Z.heap.size Z Z.drew := (Below.refl _ _).drew
theorem ver_fin {s : ISt} {a : Option Addr} {ca : Nat} {w1 Z : World} {q Bc Bw : Nat} (hB : Below w1.heap.size w1 Z) (hq : Z.cell? ⟨q, 0, none⟩ = some (.slice a s.txs.length ca)) (hc : Z.heap[Bc]? = some (.cells #[.nilFunc] 100 (0, 0))) (hv : VerB Z Bw (fun _ _ => 0)) (h1 : w1.heap.size ≤ Bc) (h2 : w1.heap.size ≤ Bw) :
    Below w1.heap.size w1 (Z.setCell ⟨Bc, 0, none⟩ (.func (.func 61) #[] #[.pointer (some ⟨q, 0, none⟩)])) ∧ (Z.setCell ⟨Bc, 0, none⟩ (.func (.func 61) #[] #[.pointer (some ⟨q, 0, none⟩)])).there Bw 0 64 ∧
      (let Z' := (Z.setCell ⟨Bc, 0, none⟩ (.func (.func 61) #[] #[.pointer (some ⟨q, 0, none⟩)])).setCells Bw 0 (verL (verF s))
       Z'.cell? ⟨Bc, 0, none⟩ = some (.func (.func 61) #[] #[.pointer (some ⟨q, 0, none⟩)]) ∧ Z'.cell? ⟨q, 0, none⟩ = some (.slice a s.txs.length ca) ∧ VerB Z' Bw (verF s) ∧ Below w1.heap.size w1 Z') := by
  have x0 : Z.cell? ⟨Bc, 0, none⟩ = some .nilFunc := cell_of_row _ _ _ _ 100 _ hc
  have x2 := hv.at (i := 0) (j := 0) (by omega) (by omega)
  have n1 : Bc ≠ q := fun e => by rw [e, hq] at x0; cases x0
  have n2 : Bw ≠ Bc := fun e => by rw [e, x0] at x2; cases x2
  have n3 : q ≠ Bw := fun e => by rw [e] at hq; rw [hq] at x2; cases x2
  have b1 : Below w1.heap.size w1 (Z.setCell ⟨Bc, 0, none⟩ (.func (.func 61) #[] #[.pointer (some ⟨q, 0, none⟩)])) := hB.setCell (by show w1.heap.size ≤ Bc; omega) _
  have v1 : VerB (Z.setCell ⟨Bc, 0, none⟩ (.func (.func 61) #[] #[.pointer (some ⟨q, 0, none⟩)])) Bw (fun _ _ => 0) := hv.other (p := ⟨Bc, 0, none⟩) n2 _
  refine ⟨b1, v1.there, ?_, ?_, v1.store _, b1.grown (grown_setCells _ _ 0 _) (by have := b1.size; omega) (fun k hk => by cases hk; omega)⟩
  · rw [World.cell?_setCells_out _ _ _ _ _ (fun e _ => absurd e.symm n2)]
    exact World.cell?_setCell_same _ _ _ x0
  · rw [World.cell?_setCells_out _ _ _ _ _ (fun e _ => absurd e n3)]
    exact (World.cell?_setCell_other _ _ _ _ (blkNe n1)).trans hq

set_option maxRecDepth 100000 in
set_option maxHeartbeats 8000000 in
theorem finds_any (s : ISt) (a b : Option Addr) (ca cb : Nat) (w : World) (h : StyQ w a ca b cb s) :
    Calls Tryd.prog 17 #[.agg #[.slice a s.txs.length ca, .slice b s.ord.length cb]] w fun e w' => FinTold s w e w' := by
  have HS := hideIt h
  have HB : Hid (Below w.heap.size w (w.alloc (.cells #[.slice a s.txs.length ca, .slice b s.ord.length cb] 44))) := belA (Below.refl _ _) _
  obtain ⟨c0, c1⟩ := box2 w (.slice a s.txs.length ca) (.slice b s.ord.length cb) 44
  have HA := hideIt (all_any s a b ca cb _ (h.below HB.out))
  clear h
  unfold AllTold at HA
  refine (callsIn_wide (n := 4)).1 ?_
  refine callsIn_of_wp_marks Tryd.func17 rfl trivial ?_ rfl
  simp only [Tryd.ntmps17, List.size_toArray, List.length_cons, List.length_nil, Nat.reduceAdd, Nat.reduceSub, Array.replicate_succ, Array.replicate_zero, List.push_toArray, List.append_toArray, List.nil_append, List.cons_append]
  rw [wpIn_wide]
  refine wp_mono (Q := noPan (bodyPostM Fence.wide 4 Tryd.prog Tryd.f17 (fun e w' => FinTold s w e w'))) ?_ noPan_spec
  go_wp2_with fail
  refine HA.out.mono ?_
  rintro e w1 ⟨v1, v2, v3, rfl, hR, hN, hb1⟩
  have HB1 := hideIt (belJ HB.out hb1)
  have d0 := (hb1.cell (p := ⟨w.heap.size, 0, none⟩) (World.block_lt_of_cell? _ _ c0)).trans c0
  have d1 := (hb1.cell (p := ⟨w.heap.size, 1, none⟩) (World.block_lt_of_cell? _ _ c1)).trans c1
  clear HA hb1 c0 c1 HB
  by_cases hf : fltI s = 0
  · have ok := iOk_of hf
    have h8 := ok.few
    obtain ⟨R1, R2, R3⟩ := hR hf
    clear hN hR
    rw [hf, show toldV 0 = .nilIface from rfl]
    have HX1 := hideIt (R1.apart (g := w1.heap.size + 1) (by omega))
    have HX2 := hideIt (R2.apart (g := w1.heap.size + 1) (by omega))
    have HX3 := hideIt (R3.apart (g := w1.heap.size + 1) (by omega))
    obtain ⟨a1, p1, e1, _⟩ := R1
    obtain ⟨a2, p2, e2, _⟩ := R2
    obtain ⟨a3, p3, e3, _⟩ := R3
    subst e1 e2 e3
    have hmk : (Instr.makeSlice 46 (.int .i64 6) (.int .i64 6)).run Tryd.prog (w1.alloc (.cells #[.slice a1 s.txs.length p1, .slice a2 s.txs.length p2, .slice a3 s.txs.length p3] 58)) = .ok (.slice (some ⟨w1.heap.size + 1, 0, none⟩) 6 6) ((w1.alloc (.cells #[.slice a1 s.txs.length p1, .slice a2 s.txs.length p2, .slice a3 s.txs.length p3] 58)).alloc (.cells (madeCells #[.bool false] 6) 4)) := by
      have := made_bits (w1.alloc (.cells #[.slice a1 s.txs.length p1, .slice a2 s.txs.length p2, .slice a3 s.txs.length p3] 58)) 6 (by omega)
      rw [World.size_alloc] at this
      exact this
    have hb13 : Below w1.heap.size w1 (((w1.alloc (.cells #[.slice a1 s.txs.length p1, .slice a2 s.txs.length p2, .slice a3 s.txs.length p3] 58)).alloc (.cells (madeCells #[.bool false] 6) 4)).alloc (.cells #[.slice (some ⟨w1.heap.size + 1, 0, none⟩) 6 6] 46)) := belA (belA (belA (Below.refl _ _) _) _) _
    have HB3 := hideIt (belJ HB1.out hb13)
    have f0 := (hb13.cell (p := ⟨w.heap.size, 0, none⟩) (World.block_lt_of_cell? w1 _ d0)).trans d0
    have f1 := (hb13.cell (p := ⟨w.heap.size, 1, none⟩) (World.block_lt_of_cell? w1 _ d1)).trans d1
    have HX1 := hideIt (HX1.out.below hb13)
    have HX2 := hideIt (HX2.out.below hb13)
    have HX3 := hideIt (HX3.out.below hb13)
    have hbe : (((w1.alloc (.cells #[.slice a1 s.txs.length p1, .slice a2 s.txs.length p2, .slice a3 s.txs.length p3] 58)).alloc (.cells (madeCells #[.bool false] 6) 4)).alloc (.cells #[.slice (some ⟨w1.heap.size + 1, 0, none⟩) 6 6] 46)).heap[w1.heap.size]? = some (.cells #[.slice a1 s.txs.length p1, .slice a2 s.txs.length p2, .slice a3 s.txs.length p3] 58 (0, 0)) := (((belA (belA (Below.refl _ _) (.cells (madeCells #[.bool false] 6) 4)) (.cells #[.slice (some ⟨w1.heap.size + 1, 0, none⟩) 6 6] 46)).block w1.heap.size (by simp)).trans (heap_alloc_new w1 (.cells #[.slice a1 s.txs.length p1, .slice a2 s.txs.length p2, .slice a3 s.txs.length p3] 58)))
    have hbf : BitsAt (((w1.alloc (.cells #[.slice a1 s.txs.length p1, .slice a2 s.txs.length p2, .slice a3 s.txs.length p3] 58)).alloc (.cells (madeCells #[.bool false] 6) 4)).alloc (.cells #[.slice (some ⟨w1.heap.size + 1, 0, none⟩) 6 6] 46)) (w1.heap.size + 1) 6 (fun _ => false) := by
      have := (bits_made (w1.alloc (.cells #[.slice a1 s.txs.length p1, .slice a2 s.txs.length p2, .slice a3 s.txs.length p3] 58)) 6).block (w' := ((w1.alloc (.cells #[.slice a1 s.txs.length p1, .slice a2 s.txs.length p2, .slice a3 s.txs.length p3] 58)).alloc (.cells (madeCells #[.bool false] 6) 4)).alloc (.cells #[.slice (some ⟨w1.heap.size + 1, 0, none⟩) 6 6] 46)) (Below.heap_alloc _ _ _ (by simp))
      rw [World.size_alloc] at this
      exact this
    have k6 := box1 ((w1.alloc (.cells #[.slice a1 s.txs.length p1, .slice a2 s.txs.length p2, .slice a3 s.txs.length p3] 58)).alloc (.cells (madeCells #[.bool false] 6) 4)) (.slice (some ⟨w1.heap.size + 1, 0, none⟩) 6 6) 46
    simp only [World.size_alloc] at k6
    have hs3 : (((w1.alloc (.cells #[.slice a1 s.txs.length p1, .slice a2 s.txs.length p2, .slice a3 s.txs.length p3] 58)).alloc (.cells (madeCells #[.bool false] 6) 4)).alloc (.cells #[.slice (some ⟨w1.heap.size + 1, 0, none⟩) 6 6] 46)).heap.size = w1.heap.size + 1 + 1 + 1 := by simp
    clear hb13
    go_upto_region 5 with fail
    clear hmk d0 d1
    generalize ((w1.alloc (.cells #[.slice a1 s.txs.length p1, .slice a2 s.txs.length p2, .slice a3 s.txs.length p3] 58)).alloc (.cells (madeCells #[.bool false] 6) 4)).alloc (.cells #[.slice (some ⟨w1.heap.size + 1, 0, none⟩) 6 6] 46) = W3 at HB3 f0 f1 HX1 HX2 HX3 hbe hbf k6 hs3 ⊢
    have hw1 : w.heap.size ≤ w1.heap.size := HB1.out.size
    have HX : Hid (∀ Z, Below W3.heap.size W3 Z → Z.cell? ⟨w.heap.size, 0, none⟩ = some (.slice a s.txs.length ca) ∧ Z.cell? ⟨w.heap.size, 1, none⟩ = some (.slice b s.ord.length cb)) := fun Z hZ => ⟨(hZ.cell (p := ⟨w.heap.size, 0, none⟩) (World.block_lt_of_cell? W3 _ f0)).trans f0, (hZ.cell (p := ⟨w.heap.size, 1, none⟩) (World.block_lt_of_cell? W3 _ f1)).trans f1⟩
    go_cut [7, 8] from 21 to 24 (fun x y wx => ∃ Bc q Bw, x = .pointer (some ⟨Bc, 0, none⟩) ∧ y = .pointer (some ⟨Bw, 0, none⟩) ∧ wx.cell? ⟨Bc, 0, none⟩ = some (.func (.func 61) #[] #[.pointer (some ⟨q, 0, none⟩)]) ∧ wx.cell? ⟨q, 0, none⟩ = some (.slice a s.txs.length ca) ∧ VerB wx Bw (verF s) ∧ Below W3.heap.size W3 wx)
    case first =>
      have HCm : Hid (∀ Z, Calls Tryd.prog 34 #[.agg #[.slice a s.txs.length ca, .slice b s.ord.length cb]] Z fun e w' => ∃ q, e = .returned (.func (.func 61) #[] #[.pointer (some ⟨q, 0, none⟩)]) ∧ w'.cell? ⟨q, 0, none⟩ = some (.slice a s.txs.length ca) ∧ Below Z.heap.size Z w') := fun Z =>
        (committing_any _ a b s.txs.length ca s.ord.length cb Z rfl).mono fun e w' ⟨h1, h2⟩ => ⟨Z.heap.size, h1, by rw [h2]; exact (box2 Z _ _ _).1, by rw [h2]; exact belA (Below.refl _ _) _⟩
      have HVs : Hid (∀ Z, Below W3.heap.size W3 Z → Calls Tryd.prog 35 #[.agg #[.slice a s.txs.length ca, .slice b s.ord.length cb]] Z fun e w' => e = .returned (verA (verF s)) ∧ Below Z.heap.size Z w') := fun Z hZ => versionsOf_any s a b ca cb Z (HS.out.below (belJ HB3.out hZ)) h8
      have HFin : Hid (∀ (Z : World) (q Bc Bw : Nat), Below W3.heap.size W3 Z → Z.cell? ⟨q, 0, none⟩ = some (.slice a s.txs.length ca) → Z.heap[Bc]? = some (.cells #[.nilFunc] 100 (0, 0)) → VerB Z Bw (fun _ _ => 0) → W3.heap.size ≤ Bc → W3.heap.size ≤ Bw →
          Below W3.heap.size W3 (Z.setCell ⟨Bc, 0, none⟩ (.func (.func 61) #[] #[.pointer (some ⟨q, 0, none⟩)])) ∧ (Z.setCell ⟨Bc, 0, none⟩ (.func (.func 61) #[] #[.pointer (some ⟨q, 0, none⟩)])).there Bw 0 64 ∧
          (let Z' := (Z.setCell ⟨Bc, 0, none⟩ (.func (.func 61) #[] #[.pointer (some ⟨q, 0, none⟩)])).setCells Bw 0 (verL (verF s))
           Z'.cell? ⟨Bc, 0, none⟩ = some (.func (.func 61) #[] #[.pointer (some ⟨q, 0, none⟩)]) ∧ Z'.cell? ⟨q, 0, none⟩ = some (.slice a s.txs.length ca) ∧ VerB Z' Bw (verF s) ∧ Below W3.heap.size W3 Z')) := fun Z q Bc Bw hB hq hc hv h1 h2 => ver_fin hB hq hc hv h1 h2
      have HSy : Hid ((Tryd.prog.info? 104).map (·.size) = some (verL (verF s)).toArray.size) := by rw [verS]; exact size77
      have HOne : Hid ((verL (verF s)).toArray.all (·.oneCell') = true) := all_oneCell_toArray (verL_one _)
      clear f0 f1 hbe hbf k6 HX1 HX2 HX3
      refine wp_region_held_drew (S := (fun w' => Below W3.heap.size W3 w')) (by kernel_rfl) (Below.refl _ _).drew (fun hHeld => ?_)
      --GEN4
      refine wpAnyH_take (i := 0) (v := ?_) rfl (by kernel_rfl) (by kernel_rfl) (by kernel_rfl) (fun _ _ _ h => h) (Or.inl ⟨by rfl, ?_⟩) (by assumption) ?_
      rotate_left 1
      · intro wz sb
        obtain ⟨y0, y1⟩ := HX.out wz sb
        go_simp
        all_goals with_reducible rfl
      simp only [Act.put, List.setIfInBounds_toArray, List.set_cons_zero, List.set_cons_succ, List.getElem_toArray, List.getElem_cons_zero]
      refine wpAnyH_take (i := 2) (v := ?_) rfl (by kernel_rfl) (by kernel_rfl) (by kernel_rfl) (fun _ _ _ h => h) (Or.inl ⟨by rfl, ?_⟩) (by assumption) ?_
      rotate_left 1
      · intro wz sb
        obtain ⟨y0, y1⟩ := HX.out wz sb
        go_simp
        all_goals with_reducible rfl
      simp only [Act.put, List.setIfInBounds_toArray, List.set_cons_zero, List.set_cons_succ, List.getElem_toArray, List.getElem_cons_zero, List.getElem_cons_succ]
      generalize W3.drew = Z0 at hHeld ⊢
      refine wpAnyH_ready (rs := [1, 4, 5]) (by kernel_rfl) (by simp) (AllReadyH.cons rfl (fun K hK => ?_) (AllReadyH.cons rfl (fun K hK => ?_) (AllReadyH.cons rfl (fun K hK => ?_) AllReadyH.nil)))
      · go_simp
        refine (HCm.out Z0).mono ?_
        rintro e Z1 ⟨q, rfl, hq, hbn⟩
        refine hK.out _ _ ?_ (fun hHeld => ?_)
        · exact belJ hHeld hbn
        clear hK K
        refine wpAnyH_ready (rs := [3, 4, 5]) (by kernel_rfl) (by simp) (AllReadyH.cons rfl (fun K hK => ?_) (AllReadyH.cons rfl (fun K hK => ?_) (AllReadyH.cons rfl (fun K hK => ?_) AllReadyH.nil)))
        · go_simp
          refine (HVs.out Z1 hHeld).mono ?_
          rintro e Z2 ⟨rfl, hbn⟩
          refine hK.out _ _ ?_ (fun hHeld => ?_)
          · exact belJ hHeld hbn
          clear hK K
          have hq := (hbn.cell (p := ⟨q, 0, none⟩) (World.block_lt_of_cell? Z1 _ hq)).trans hq
          refine wpAnyH_ready (rs := [4, 5]) (by kernel_rfl) (by simp) (AllReadyH.cons rfl (fun K hK => ?_) (AllReadyH.cons rfl (fun K hK => ?_) AllReadyH.nil))
          · go_simp
            have hcl : W3.heap.size ≤ Z2.heap.size := hHeld.size
            refine hK.out _ _ ?_ (fun hHeld => ?_)
            · exact hHeld.alloc hHeld.size _
            clear hK K
            have hbn := belA (Below.refl Z2.heap.size Z2) (.cells #[.nilFunc] 100)
            have hc := heap_alloc_new Z2 (.cells #[.nilFunc] 100)
            generalize Z2.alloc (.cells #[.nilFunc] 100) = Z3 at hHeld hbn hc ⊢
            have hq := (hbn.cell (p := ⟨q, 0, none⟩) (World.block_lt_of_cell? Z2 _ hq)).trans hq
            refine wpAnyH_ready (rs := [5]) (by kernel_rfl) (by simp) (AllReadyH.cons rfl (fun K hK => ?_) AllReadyH.nil)
            go_simp
            have hvl : W3.heap.size ≤ Z3.heap.size := hHeld.size
            refine hK.out _ _ ?_ (fun hHeld => ?_)
            · exact hHeld.alloc hHeld.size _
            clear hK K
            have hbn := belA (Below.refl Z3.heap.size Z3) (.cells (verL fun _ _ => 0).toArray 104)
            have hv := verB_new Z3 (fun _ _ => 0) 104
            rw [zeros77] at hHeld ⊢
            generalize Z3.alloc (.cells (verL fun _ _ => 0).toArray 104) = Z4 at hHeld hbn hv ⊢
            have hq := (hbn.cell (p := ⟨q, 0, none⟩) (World.block_lt_of_cell? Z3 _ hq)).trans hq
            have hc := (hbn.block _ (lt_of_heap hc)).trans hc
            have hfin := HFin.out Z4 q (Z2.heap.size) (Z3.heap.size) hHeld hq hc hv hcl hvl
            have x0 : Z4.cell? ⟨Z2.heap.size, 0, none⟩ = some .nilFunc := cell_of_row _ _ _ _ 100 _ hc
            have x1 := frozen_of_row Z4 (Z2.heap.size) 0 _ 100 hc
            refine wpAnyH_ready (rs := [6]) (by kernel_rfl) (by simp) (AllReadyH.cons rfl (fun K hK => ?_) AllReadyH.nil)
            go_simp
            refine hK.out _ _ ?_ (fun hHeld => ?_)
            · exact hfin.1
            clear hK K
            refine wpAnyH_ready (rs := [7]) (by kernel_rfl) (by simp) (AllReadyH.cons rfl (fun K hK => ?_) AllReadyH.nil)
            rw [if_pos (by rfl)]
            refine wp_store_mid 104 (.tmp 8) (.tmp 24) rfl (Z3.heap.size) 0 (verL (verF s)).toArray rfl rfl (by rw [verS]; exact hfin.2.1) HSy.out HOne.out ?_
            refine hK.out _ _ ?_ (fun hHeld => ?_)
            · exact hfin.2.2.2.2.2
            clear hK K
            refine wpAnyH_done (by kernel_rfl) ?_ _
            go_wp2
            go_meet
            exact ⟨_, q, _, rfl, rfl, hfin.2.2.1, hfin.2.2.2.1, hfin.2.2.2.2.1, hfin.2.2.2.2.2⟩
          · go_simp
            have hvl : W3.heap.size ≤ Z2.heap.size := hHeld.size
            refine hK.out _ _ ?_ (fun hHeld => ?_)
            · exact hHeld.alloc hHeld.size _
            clear hK K
            have hbn := belA (Below.refl Z2.heap.size Z2) (.cells (verL fun _ _ => 0).toArray 104)
            have hv := verB_new Z2 (fun _ _ => 0) 104
            rw [zeros77] at hHeld ⊢
            generalize Z2.alloc (.cells (verL fun _ _ => 0).toArray 104) = Z5 at hHeld hbn hv ⊢
            have hq := (hbn.cell (p := ⟨q, 0, none⟩) (World.block_lt_of_cell? Z2 _ hq)).trans hq
            refine wpAnyH_ready (rs := [4]) (by kernel_rfl) (by simp) (AllReadyH.cons rfl (fun K hK => ?_) AllReadyH.nil)
            go_simp
            have hcl : W3.heap.size ≤ Z5.heap.size := hHeld.size
            refine hK.out _ _ ?_ (fun hHeld => ?_)
            · exact hHeld.alloc hHeld.size _
            clear hK K
            have hbn := belA (Below.refl Z5.heap.size Z5) (.cells #[.nilFunc] 100)
            have hc := heap_alloc_new Z5 (.cells #[.nilFunc] 100)
            generalize Z5.alloc (.cells #[.nilFunc] 100) = Z6 at hHeld hbn hc ⊢
            have hq := (hbn.cell (p := ⟨q, 0, none⟩) (World.block_lt_of_cell? Z5 _ hq)).trans hq
            have hv := hv.below hbn hv.lt
            have hfin := HFin.out Z6 q (Z5.heap.size) (Z2.heap.size) hHeld hq hc hv hcl hvl
            have x0 : Z6.cell? ⟨Z5.heap.size, 0, none⟩ = some .nilFunc := cell_of_row _ _ _ _ 100 _ hc
            have x1 := frozen_of_row Z6 (Z5.heap.size) 0 _ 100 hc
            refine wpAnyH_ready (rs := [6]) (by kernel_rfl) (by simp) (AllReadyH.cons rfl (fun K hK => ?_) AllReadyH.nil)
            go_simp
            refine hK.out _ _ ?_ (fun hHeld => ?_)
            · exact hfin.1
            clear hK K
            refine wpAnyH_ready (rs := [7]) (by kernel_rfl) (by simp) (AllReadyH.cons rfl (fun K hK => ?_) AllReadyH.nil)
            rw [if_pos (by rfl)]
            refine wp_store_mid 104 (.tmp 8) (.tmp 24) rfl (Z2.heap.size) 0 (verL (verF s)).toArray rfl rfl (by rw [verS]; exact hfin.2.1) HSy.out HOne.out ?_
            refine hK.out _ _ ?_ (fun hHeld => ?_)
            · exact hfin.2.2.2.2.2
            clear hK K
            refine wpAnyH_done (by kernel_rfl) ?_ _
            go_wp2
            go_meet
            exact ⟨_, q, _, rfl, rfl, hfin.2.2.1, hfin.2.2.2.1, hfin.2.2.2.2.1, hfin.2.2.2.2.2⟩
        · go_simp
          have hcl : W3.heap.size ≤ Z1.heap.size := hHeld.size
          refine hK.out _ _ ?_ (fun hHeld => ?_)
          · exact hHeld.alloc hHeld.size _
          clear hK K
          have hbn := belA (Below.refl Z1.heap.size Z1) (.cells #[.nilFunc] 100)
          have hc := heap_alloc_new Z1 (.cells #[.nilFunc] 100)
          generalize Z1.alloc (.cells #[.nilFunc] 100) = Z7 at hHeld hbn hc ⊢
          have hq := (hbn.cell (p := ⟨q, 0, none⟩) (World.block_lt_of_cell? Z1 _ hq)).trans hq
          refine wpAnyH_ready (rs := [3, 5]) (by kernel_rfl) (by simp) (AllReadyH.cons rfl (fun K hK => ?_) (AllReadyH.cons rfl (fun K hK => ?_) AllReadyH.nil))
          · go_simp
            refine (HVs.out Z7 hHeld).mono ?_
            rintro e Z8 ⟨rfl, hbn⟩
            refine hK.out _ _ ?_ (fun hHeld => ?_)
            · exact belJ hHeld hbn
            clear hK K
            have hq := (hbn.cell (p := ⟨q, 0, none⟩) (World.block_lt_of_cell? Z7 _ hq)).trans hq
            have hc := (hbn.block _ (lt_of_heap hc)).trans hc
            refine wpAnyH_ready (rs := [5]) (by kernel_rfl) (by simp) (AllReadyH.cons rfl (fun K hK => ?_) AllReadyH.nil)
            go_simp
            have hvl : W3.heap.size ≤ Z8.heap.size := hHeld.size
            refine hK.out _ _ ?_ (fun hHeld => ?_)
            · exact hHeld.alloc hHeld.size _
            clear hK K
            have hbn := belA (Below.refl Z8.heap.size Z8) (.cells (verL fun _ _ => 0).toArray 104)
            have hv := verB_new Z8 (fun _ _ => 0) 104
            rw [zeros77] at hHeld ⊢
            generalize Z8.alloc (.cells (verL fun _ _ => 0).toArray 104) = Z9 at hHeld hbn hv ⊢
            have hq := (hbn.cell (p := ⟨q, 0, none⟩) (World.block_lt_of_cell? Z8 _ hq)).trans hq
            have hc := (hbn.block _ (lt_of_heap hc)).trans hc
            have hfin := HFin.out Z9 q (Z1.heap.size) (Z8.heap.size) hHeld hq hc hv hcl hvl
            have x0 : Z9.cell? ⟨Z1.heap.size, 0, none⟩ = some .nilFunc := cell_of_row _ _ _ _ 100 _ hc
            have x1 := frozen_of_row Z9 (Z1.heap.size) 0 _ 100 hc
            refine wpAnyH_ready (rs := [6]) (by kernel_rfl) (by simp) (AllReadyH.cons rfl (fun K hK => ?_) AllReadyH.nil)
            go_simp
            refine hK.out _ _ ?_ (fun hHeld => ?_)
            · exact hfin.1
            clear hK K
            refine wpAnyH_ready (rs := [7]) (by kernel_rfl) (by simp) (AllReadyH.cons rfl (fun K hK => ?_) AllReadyH.nil)
            rw [if_pos (by rfl)]
            refine wp_store_mid 104 (.tmp 8) (.tmp 24) rfl (Z8.heap.size) 0 (verL (verF s)).toArray rfl rfl (by rw [verS]; exact hfin.2.1) HSy.out HOne.out ?_
            refine hK.out _ _ ?_ (fun hHeld => ?_)
            · exact hfin.2.2.2.2.2
            clear hK K
            refine wpAnyH_done (by kernel_rfl) ?_ _
            go_wp2
            go_meet
            exact ⟨_, q, _, rfl, rfl, hfin.2.2.1, hfin.2.2.2.1, hfin.2.2.2.2.1, hfin.2.2.2.2.2⟩
          · go_simp
            have hvl : W3.heap.size ≤ Z7.heap.size := hHeld.size
            refine hK.out _ _ ?_ (fun hHeld => ?_)
            · exact hHeld.alloc hHeld.size _
            clear hK K
            have hbn := belA (Below.refl Z7.heap.size Z7) (.cells (verL fun _ _ => 0).toArray 104)
            have hv := verB_new Z7 (fun _ _ => 0) 104
            rw [zeros77] at hHeld ⊢
            generalize Z7.alloc (.cells (verL fun _ _ => 0).toArray 104) = Z10 at hHeld hbn hv ⊢
            have hq := (hbn.cell (p := ⟨q, 0, none⟩) (World.block_lt_of_cell? Z7 _ hq)).trans hq
            have hc := (hbn.block _ (lt_of_heap hc)).trans hc
            refine wpAnyH_ready (rs := [3]) (by kernel_rfl) (by simp) (AllReadyH.cons rfl (fun K hK => ?_) AllReadyH.nil)
            go_simp
            refine (HVs.out Z10 hHeld).mono ?_
            rintro e Z11 ⟨rfl, hbn⟩
            refine hK.out _ _ ?_ (fun hHeld => ?_)
            · exact belJ hHeld hbn
            clear hK K
            have hq := (hbn.cell (p := ⟨q, 0, none⟩) (World.block_lt_of_cell? Z10 _ hq)).trans hq
            have hc := (hbn.block _ (lt_of_heap hc)).trans hc
            have hv := hv.below hbn hv.lt
            have hfin := HFin.out Z11 q (Z1.heap.size) (Z7.heap.size) hHeld hq hc hv hcl hvl
            have x0 : Z11.cell? ⟨Z1.heap.size, 0, none⟩ = some .nilFunc := cell_of_row _ _ _ _ 100 _ hc
            have x1 := frozen_of_row Z11 (Z1.heap.size) 0 _ 100 hc
            refine wpAnyH_ready (rs := [6]) (by kernel_rfl) (by simp) (AllReadyH.cons rfl (fun K hK => ?_) AllReadyH.nil)
            go_simp
            refine hK.out _ _ ?_ (fun hHeld => ?_)
            · exact hfin.1
            clear hK K
            refine wpAnyH_ready (rs := [7]) (by kernel_rfl) (by simp) (AllReadyH.cons rfl (fun K hK => ?_) AllReadyH.nil)
            rw [if_pos (by rfl)]
            refine wp_store_mid 104 (.tmp 8) (.tmp 24) rfl (Z7.heap.size) 0 (verL (verF s)).toArray rfl rfl (by rw [verS]; exact hfin.2.1) HSy.out HOne.out ?_
            refine hK.out _ _ ?_ (fun hHeld => ?_)
            · exact hfin.2.2.2.2.2
            clear hK K
            refine wpAnyH_done (by kernel_rfl) ?_ _
            go_wp2
            go_meet
            exact ⟨_, q, _, rfl, rfl, hfin.2.2.1, hfin.2.2.2.1, hfin.2.2.2.2.1, hfin.2.2.2.2.2⟩
        · go_simp
          have hvl : W3.heap.size ≤ Z1.heap.size := hHeld.size
          refine hK.out _ _ ?_ (fun hHeld => ?_)
          · exact hHeld.alloc hHeld.size _
          clear hK K
          have hbn := belA (Below.refl Z1.heap.size Z1) (.cells (verL fun _ _ => 0).toArray 104)
          have hv := verB_new Z1 (fun _ _ => 0) 104
          rw [zeros77] at hHeld ⊢
          generalize Z1.alloc (.cells (verL fun _ _ => 0).toArray 104) = Z12 at hHeld hbn hv ⊢
          have hq := (hbn.cell (p := ⟨q, 0, none⟩) (World.block_lt_of_cell? Z1 _ hq)).trans hq
          refine wpAnyH_ready (rs := [3, 4]) (by kernel_rfl) (by simp) (AllReadyH.cons rfl (fun K hK => ?_) (AllReadyH.cons rfl (fun K hK => ?_) AllReadyH.nil))
          · go_simp
            refine (HVs.out Z12 hHeld).mono ?_
            rintro e Z13 ⟨rfl, hbn⟩
            refine hK.out _ _ ?_ (fun hHeld => ?_)
            · exact belJ hHeld hbn
            clear hK K
            have hq := (hbn.cell (p := ⟨q, 0, none⟩) (World.block_lt_of_cell? Z12 _ hq)).trans hq
            have hv := hv.below hbn hv.lt
            refine wpAnyH_ready (rs := [4]) (by kernel_rfl) (by simp) (AllReadyH.cons rfl (fun K hK => ?_) AllReadyH.nil)
            go_simp
            have hcl : W3.heap.size ≤ Z13.heap.size := hHeld.size
            refine hK.out _ _ ?_ (fun hHeld => ?_)
            · exact hHeld.alloc hHeld.size _
            clear hK K
            have hbn := belA (Below.refl Z13.heap.size Z13) (.cells #[.nilFunc] 100)
            have hc := heap_alloc_new Z13 (.cells #[.nilFunc] 100)
            generalize Z13.alloc (.cells #[.nilFunc] 100) = Z14 at hHeld hbn hc ⊢
            have hq := (hbn.cell (p := ⟨q, 0, none⟩) (World.block_lt_of_cell? Z13 _ hq)).trans hq
            have hv := hv.below hbn hv.lt
            have hfin := HFin.out Z14 q (Z13.heap.size) (Z1.heap.size) hHeld hq hc hv hcl hvl
            have x0 : Z14.cell? ⟨Z13.heap.size, 0, none⟩ = some .nilFunc := cell_of_row _ _ _ _ 100 _ hc
            have x1 := frozen_of_row Z14 (Z13.heap.size) 0 _ 100 hc
            refine wpAnyH_ready (rs := [6]) (by kernel_rfl) (by simp) (AllReadyH.cons rfl (fun K hK => ?_) AllReadyH.nil)
            go_simp
            refine hK.out _ _ ?_ (fun hHeld => ?_)
            · exact hfin.1
            clear hK K
            refine wpAnyH_ready (rs := [7]) (by kernel_rfl) (by simp) (AllReadyH.cons rfl (fun K hK => ?_) AllReadyH.nil)
            rw [if_pos (by rfl)]
            refine wp_store_mid 104 (.tmp 8) (.tmp 24) rfl (Z1.heap.size) 0 (verL (verF s)).toArray rfl rfl (by rw [verS]; exact hfin.2.1) HSy.out HOne.out ?_
            refine hK.out _ _ ?_ (fun hHeld => ?_)
            · exact hfin.2.2.2.2.2
            clear hK K
            refine wpAnyH_done (by kernel_rfl) ?_ _
            go_wp2
            go_meet
            exact ⟨_, q, _, rfl, rfl, hfin.2.2.1, hfin.2.2.2.1, hfin.2.2.2.2.1, hfin.2.2.2.2.2⟩
          · go_simp
            have hcl : W3.heap.size ≤ Z12.heap.size := hHeld.size
            refine hK.out _ _ ?_ (fun hHeld => ?_)
            · exact hHeld.alloc hHeld.size _
            clear hK K
            have hbn := belA (Below.refl Z12.heap.size Z12) (.cells #[.nilFunc] 100)
            have hc := heap_alloc_new Z12 (.cells #[.nilFunc] 100)
            generalize Z12.alloc (.cells #[.nilFunc] 100) = Z15 at hHeld hbn hc ⊢
            have hq := (hbn.cell (p := ⟨q, 0, none⟩) (World.block_lt_of_cell? Z12 _ hq)).trans hq
            have hv := hv.below hbn hv.lt
            refine wpAnyH_ready (rs := [3]) (by kernel_rfl) (by simp) (AllReadyH.cons rfl (fun K hK => ?_) AllReadyH.nil)
            go_simp
            refine (HVs.out Z15 hHeld).mono ?_
            rintro e Z16 ⟨rfl, hbn⟩
            refine hK.out _ _ ?_ (fun hHeld => ?_)
            · exact belJ hHeld hbn
            clear hK K
            have hq := (hbn.cell (p := ⟨q, 0, none⟩) (World.block_lt_of_cell? Z15 _ hq)).trans hq
            have hc := (hbn.block _ (lt_of_heap hc)).trans hc
            have hv := hv.below hbn hv.lt
            have hfin := HFin.out Z16 q (Z12.heap.size) (Z1.heap.size) hHeld hq hc hv hcl hvl
            have x0 : Z16.cell? ⟨Z12.heap.size, 0, none⟩ = some .nilFunc := cell_of_row _ _ _ _ 100 _ hc
            have x1 := frozen_of_row Z16 (Z12.heap.size) 0 _ 100 hc
            refine wpAnyH_ready (rs := [6]) (by kernel_rfl) (by simp) (AllReadyH.cons rfl (fun K hK => ?_) AllReadyH.nil)
            go_simp
            refine hK.out _ _ ?_ (fun hHeld => ?_)
            · exact hfin.1
            clear hK K
            refine wpAnyH_ready (rs := [7]) (by kernel_rfl) (by simp) (AllReadyH.cons rfl (fun K hK => ?_) AllReadyH.nil)
            rw [if_pos (by rfl)]
            refine wp_store_mid 104 (.tmp 8) (.tmp 24) rfl (Z1.heap.size) 0 (verL (verF s)).toArray rfl rfl (by rw [verS]; exact hfin.2.1) HSy.out HOne.out ?_
            refine hK.out _ _ ?_ (fun hHeld => ?_)
            · exact hfin.2.2.2.2.2
            clear hK K
            refine wpAnyH_done (by kernel_rfl) ?_ _
            go_wp2
            go_meet
            exact ⟨_, q, _, rfl, rfl, hfin.2.2.1, hfin.2.2.2.1, hfin.2.2.2.2.1, hfin.2.2.2.2.2⟩
      · go_simp
        have hcl : W3.heap.size ≤ Z0.heap.size := hHeld.size
        refine hK.out _ _ ?_ (fun hHeld => ?_)
        · exact hHeld.alloc hHeld.size _
        clear hK K
        have hbn := belA (Below.refl Z0.heap.size Z0) (.cells #[.nilFunc] 100)
        have hc := heap_alloc_new Z0 (.cells #[.nilFunc] 100)
        generalize Z0.alloc (.cells #[.nilFunc] 100) = Z17 at hHeld hbn hc ⊢
        refine wpAnyH_ready (rs := [1, 5]) (by kernel_rfl) (by simp) (AllReadyH.cons rfl (fun K hK => ?_) (AllReadyH.cons rfl (fun K hK => ?_) AllReadyH.nil))
        · go_simp
          refine (HCm.out Z17).mono ?_
          rintro e Z18 ⟨q, rfl, hq, hbn⟩
          refine hK.out _ _ ?_ (fun hHeld => ?_)
          · exact belJ hHeld hbn
          clear hK K
          have hc := (hbn.block _ (lt_of_heap hc)).trans hc
          refine wpAnyH_ready (rs := [3, 5]) (by kernel_rfl) (by simp) (AllReadyH.cons rfl (fun K hK => ?_) (AllReadyH.cons rfl (fun K hK => ?_) AllReadyH.nil))
          · go_simp
            refine (HVs.out Z18 hHeld).mono ?_
            rintro e Z19 ⟨rfl, hbn⟩
            refine hK.out _ _ ?_ (fun hHeld => ?_)
            · exact belJ hHeld hbn
            clear hK K
            have hq := (hbn.cell (p := ⟨q, 0, none⟩) (World.block_lt_of_cell? Z18 _ hq)).trans hq
            have hc := (hbn.block _ (lt_of_heap hc)).trans hc
            refine wpAnyH_ready (rs := [5]) (by kernel_rfl) (by simp) (AllReadyH.cons rfl (fun K hK => ?_) AllReadyH.nil)
            go_simp
            have hvl : W3.heap.size ≤ Z19.heap.size := hHeld.size
            refine hK.out _ _ ?_ (fun hHeld => ?_)
            · exact hHeld.alloc hHeld.size _
            clear hK K
            have hbn := belA (Below.refl Z19.heap.size Z19) (.cells (verL fun _ _ => 0).toArray 104)
            have hv := verB_new Z19 (fun _ _ => 0) 104
            rw [zeros77] at hHeld ⊢
            generalize Z19.alloc (.cells (verL fun _ _ => 0).toArray 104) = Z20 at hHeld hbn hv ⊢
            have hq := (hbn.cell (p := ⟨q, 0, none⟩) (World.block_lt_of_cell? Z19 _ hq)).trans hq
            have hc := (hbn.block _ (lt_of_heap hc)).trans hc
            have hfin := HFin.out Z20 q (Z0.heap.size) (Z19.heap.size) hHeld hq hc hv hcl hvl
            have x0 : Z20.cell? ⟨Z0.heap.size, 0, none⟩ = some .nilFunc := cell_of_row _ _ _ _ 100 _ hc
            have x1 := frozen_of_row Z20 (Z0.heap.size) 0 _ 100 hc
            refine wpAnyH_ready (rs := [6]) (by kernel_rfl) (by simp) (AllReadyH.cons rfl (fun K hK => ?_) AllReadyH.nil)
            go_simp
            refine hK.out _ _ ?_ (fun hHeld => ?_)
            · exact hfin.1
            clear hK K
            refine wpAnyH_ready (rs := [7]) (by kernel_rfl) (by simp) (AllReadyH.cons rfl (fun K hK => ?_) AllReadyH.nil)
            rw [if_pos (by rfl)]
            refine wp_store_mid 104 (.tmp 8) (.tmp 24) rfl (Z19.heap.size) 0 (verL (verF s)).toArray rfl rfl (by rw [verS]; exact hfin.2.1) HSy.out HOne.out ?_
            refine hK.out _ _ ?_ (fun hHeld => ?_)
            · exact hfin.2.2.2.2.2
            clear hK K
            refine wpAnyH_done (by kernel_rfl) ?_ _
            go_wp2
            go_meet
            exact ⟨_, q, _, rfl, rfl, hfin.2.2.1, hfin.2.2.2.1, hfin.2.2.2.2.1, hfin.2.2.2.2.2⟩
          · go_simp
            have hvl : W3.heap.size ≤ Z18.heap.size := hHeld.size
            refine hK.out _ _ ?_ (fun hHeld => ?_)
            · exact hHeld.alloc hHeld.size _
            clear hK K
            have hbn := belA (Below.refl Z18.heap.size Z18) (.cells (verL fun _ _ => 0).toArray 104)
            have hv := verB_new Z18 (fun _ _ => 0) 104
            rw [zeros77] at hHeld ⊢
            generalize Z18.alloc (.cells (verL fun _ _ => 0).toArray 104) = Z21 at hHeld hbn hv ⊢
            have hq := (hbn.cell (p := ⟨q, 0, none⟩) (World.block_lt_of_cell? Z18 _ hq)).trans hq
            have hc := (hbn.block _ (lt_of_heap hc)).trans hc
            refine wpAnyH_ready (rs := [3]) (by kernel_rfl) (by simp) (AllReadyH.cons rfl (fun K hK => ?_) AllReadyH.nil)
            go_simp
            refine (HVs.out Z21 hHeld).mono ?_
            rintro e Z22 ⟨rfl, hbn⟩
            refine hK.out _ _ ?_ (fun hHeld => ?_)
            · exact belJ hHeld hbn
            clear hK K
            have hq := (hbn.cell (p := ⟨q, 0, none⟩) (World.block_lt_of_cell? Z21 _ hq)).trans hq
            have hc := (hbn.block _ (lt_of_heap hc)).trans hc
            have hv := hv.below hbn hv.lt
            have hfin := HFin.out Z22 q (Z0.heap.size) (Z18.heap.size) hHeld hq hc hv hcl hvl
            have x0 : Z22.cell? ⟨Z0.heap.size, 0, none⟩ = some .nilFunc := cell_of_row _ _ _ _ 100 _ hc
            have x1 := frozen_of_row Z22 (Z0.heap.size) 0 _ 100 hc
            refine wpAnyH_ready (rs := [6]) (by kernel_rfl) (by simp) (AllReadyH.cons rfl (fun K hK => ?_) AllReadyH.nil)
            go_simp
            refine hK.out _ _ ?_ (fun hHeld => ?_)
            · exact hfin.1
            clear hK K
            refine wpAnyH_ready (rs := [7]) (by kernel_rfl) (by simp) (AllReadyH.cons rfl (fun K hK => ?_) AllReadyH.nil)
            rw [if_pos (by rfl)]
            refine wp_store_mid 104 (.tmp 8) (.tmp 24) rfl (Z18.heap.size) 0 (verL (verF s)).toArray rfl rfl (by rw [verS]; exact hfin.2.1) HSy.out HOne.out ?_
            refine hK.out _ _ ?_ (fun hHeld => ?_)
            · exact hfin.2.2.2.2.2
            clear hK K
            refine wpAnyH_done (by kernel_rfl) ?_ _
            go_wp2
            go_meet
            exact ⟨_, q, _, rfl, rfl, hfin.2.2.1, hfin.2.2.2.1, hfin.2.2.2.2.1, hfin.2.2.2.2.2⟩
        · go_simp
          have hvl : W3.heap.size ≤ Z17.heap.size := hHeld.size
          refine hK.out _ _ ?_ (fun hHeld => ?_)
          · exact hHeld.alloc hHeld.size _
          clear hK K
          have hbn := belA (Below.refl Z17.heap.size Z17) (.cells (verL fun _ _ => 0).toArray 104)
          have hv := verB_new Z17 (fun _ _ => 0) 104
          rw [zeros77] at hHeld ⊢
          generalize Z17.alloc (.cells (verL fun _ _ => 0).toArray 104) = Z23 at hHeld hbn hv ⊢
          have hc := (hbn.block _ (lt_of_heap hc)).trans hc
          refine wpAnyH_ready (rs := [1]) (by kernel_rfl) (by simp) (AllReadyH.cons rfl (fun K hK => ?_) AllReadyH.nil)
          go_simp
          refine (HCm.out Z23).mono ?_
          rintro e Z24 ⟨q, rfl, hq, hbn⟩
          refine hK.out _ _ ?_ (fun hHeld => ?_)
          · exact belJ hHeld hbn
          clear hK K
          have hc := (hbn.block _ (lt_of_heap hc)).trans hc
          have hv := hv.below hbn hv.lt
          refine wpAnyH_ready (rs := [3]) (by kernel_rfl) (by simp) (AllReadyH.cons rfl (fun K hK => ?_) AllReadyH.nil)
          go_simp
          refine (HVs.out Z24 hHeld).mono ?_
          rintro e Z25 ⟨rfl, hbn⟩
          refine hK.out _ _ ?_ (fun hHeld => ?_)
          · exact belJ hHeld hbn
          clear hK K
          have hq := (hbn.cell (p := ⟨q, 0, none⟩) (World.block_lt_of_cell? Z24 _ hq)).trans hq
          have hc := (hbn.block _ (lt_of_heap hc)).trans hc
          have hv := hv.below hbn hv.lt
          have hfin := HFin.out Z25 q (Z0.heap.size) (Z17.heap.size) hHeld hq hc hv hcl hvl
          have x0 : Z25.cell? ⟨Z0.heap.size, 0, none⟩ = some .nilFunc := cell_of_row _ _ _ _ 100 _ hc
          have x1 := frozen_of_row Z25 (Z0.heap.size) 0 _ 100 hc
          refine wpAnyH_ready (rs := [6]) (by kernel_rfl) (by simp) (AllReadyH.cons rfl (fun K hK => ?_) AllReadyH.nil)
          go_simp
          refine hK.out _ _ ?_ (fun hHeld => ?_)
          · exact hfin.1
          clear hK K
          refine wpAnyH_ready (rs := [7]) (by kernel_rfl) (by simp) (AllReadyH.cons rfl (fun K hK => ?_) AllReadyH.nil)
          rw [if_pos (by rfl)]
          refine wp_store_mid 104 (.tmp 8) (.tmp 24) rfl (Z17.heap.size) 0 (verL (verF s)).toArray rfl rfl (by rw [verS]; exact hfin.2.1) HSy.out HOne.out ?_
          refine hK.out _ _ ?_ (fun hHeld => ?_)
          · exact hfin.2.2.2.2.2
          clear hK K
          refine wpAnyH_done (by kernel_rfl) ?_ _
          go_wp2
          go_meet
          exact ⟨_, q, _, rfl, rfl, hfin.2.2.1, hfin.2.2.2.1, hfin.2.2.2.2.1, hfin.2.2.2.2.2⟩
      · go_simp
        have hvl : W3.heap.size ≤ Z0.heap.size := hHeld.size
        refine hK.out _ _ ?_ (fun hHeld => ?_)
        · exact hHeld.alloc hHeld.size _
        clear hK K
        have hbn := belA (Below.refl Z0.heap.size Z0) (.cells (verL fun _ _ => 0).toArray 104)
        have hv := verB_new Z0 (fun _ _ => 0) 104
        rw [zeros77] at hHeld ⊢
        generalize Z0.alloc (.cells (verL fun _ _ => 0).toArray 104) = Z26 at hHeld hbn hv ⊢
        refine wpAnyH_ready (rs := [1, 4]) (by kernel_rfl) (by simp) (AllReadyH.cons rfl (fun K hK => ?_) (AllReadyH.cons rfl (fun K hK => ?_) AllReadyH.nil))
        · go_simp
          refine (HCm.out Z26).mono ?_
          rintro e Z27 ⟨q, rfl, hq, hbn⟩
          refine hK.out _ _ ?_ (fun hHeld => ?_)
          · exact belJ hHeld hbn
          clear hK K
          have hv := hv.below hbn hv.lt
          refine wpAnyH_ready (rs := [3, 4]) (by kernel_rfl) (by simp) (AllReadyH.cons rfl (fun K hK => ?_) (AllReadyH.cons rfl (fun K hK => ?_) AllReadyH.nil))
          · go_simp
            refine (HVs.out Z27 hHeld).mono ?_
            rintro e Z28 ⟨rfl, hbn⟩
            refine hK.out _ _ ?_ (fun hHeld => ?_)
            · exact belJ hHeld hbn
            clear hK K
            have hq := (hbn.cell (p := ⟨q, 0, none⟩) (World.block_lt_of_cell? Z27 _ hq)).trans hq
            have hv := hv.below hbn hv.lt
            refine wpAnyH_ready (rs := [4]) (by kernel_rfl) (by simp) (AllReadyH.cons rfl (fun K hK => ?_) AllReadyH.nil)
            go_simp
            have hcl : W3.heap.size ≤ Z28.heap.size := hHeld.size
            refine hK.out _ _ ?_ (fun hHeld => ?_)
            · exact hHeld.alloc hHeld.size _
            clear hK K
            have hbn := belA (Below.refl Z28.heap.size Z28) (.cells #[.nilFunc] 100)
            have hc := heap_alloc_new Z28 (.cells #[.nilFunc] 100)
            generalize Z28.alloc (.cells #[.nilFunc] 100) = Z29 at hHeld hbn hc ⊢
            have hq := (hbn.cell (p := ⟨q, 0, none⟩) (World.block_lt_of_cell? Z28 _ hq)).trans hq
            have hv := hv.below hbn hv.lt
            have hfin := HFin.out Z29 q (Z28.heap.size) (Z0.heap.size) hHeld hq hc hv hcl hvl
            have x0 : Z29.cell? ⟨Z28.heap.size, 0, none⟩ = some .nilFunc := cell_of_row _ _ _ _ 100 _ hc
            have x1 := frozen_of_row Z29 (Z28.heap.size) 0 _ 100 hc
            refine wpAnyH_ready (rs := [6]) (by kernel_rfl) (by simp) (AllReadyH.cons rfl (fun K hK => ?_) AllReadyH.nil)
            go_simp
            refine hK.out _ _ ?_ (fun hHeld => ?_)
            · exact hfin.1
            clear hK K
            refine wpAnyH_ready (rs := [7]) (by kernel_rfl) (by simp) (AllReadyH.cons rfl (fun K hK => ?_) AllReadyH.nil)
            rw [if_pos (by rfl)]
            refine wp_store_mid 104 (.tmp 8) (.tmp 24) rfl (Z0.heap.size) 0 (verL (verF s)).toArray rfl rfl (by rw [verS]; exact hfin.2.1) HSy.out HOne.out ?_
            refine hK.out _ _ ?_ (fun hHeld => ?_)
            · exact hfin.2.2.2.2.2
            clear hK K
            refine wpAnyH_done (by kernel_rfl) ?_ _
            go_wp2
            go_meet
            exact ⟨_, q, _, rfl, rfl, hfin.2.2.1, hfin.2.2.2.1, hfin.2.2.2.2.1, hfin.2.2.2.2.2⟩
          · go_simp
            have hcl : W3.heap.size ≤ Z27.heap.size := hHeld.size
            refine hK.out _ _ ?_ (fun hHeld => ?_)
            · exact hHeld.alloc hHeld.size _
            clear hK K
            have hbn := belA (Below.refl Z27.heap.size Z27) (.cells #[.nilFunc] 100)
            have hc := heap_alloc_new Z27 (.cells #[.nilFunc] 100)
            generalize Z27.alloc (.cells #[.nilFunc] 100) = Z30 at hHeld hbn hc ⊢
            have hq := (hbn.cell (p := ⟨q, 0, none⟩) (World.block_lt_of_cell? Z27 _ hq)).trans hq
            have hv := hv.below hbn hv.lt
            refine wpAnyH_ready (rs := [3]) (by kernel_rfl) (by simp) (AllReadyH.cons rfl (fun K hK => ?_) AllReadyH.nil)
            go_simp
            refine (HVs.out Z30 hHeld).mono ?_
            rintro e Z31 ⟨rfl, hbn⟩
            refine hK.out _ _ ?_ (fun hHeld => ?_)
            · exact belJ hHeld hbn
            clear hK K
            have hq := (hbn.cell (p := ⟨q, 0, none⟩) (World.block_lt_of_cell? Z30 _ hq)).trans hq
            have hc := (hbn.block _ (lt_of_heap hc)).trans hc
            have hv := hv.below hbn hv.lt
            have hfin := HFin.out Z31 q (Z27.heap.size) (Z0.heap.size) hHeld hq hc hv hcl hvl
            have x0 : Z31.cell? ⟨Z27.heap.size, 0, none⟩ = some .nilFunc := cell_of_row _ _ _ _ 100 _ hc
            have x1 := frozen_of_row Z31 (Z27.heap.size) 0 _ 100 hc
            refine wpAnyH_ready (rs := [6]) (by kernel_rfl) (by simp) (AllReadyH.cons rfl (fun K hK => ?_) AllReadyH.nil)
            go_simp
            refine hK.out _ _ ?_ (fun hHeld => ?_)
            · exact hfin.1
            clear hK K
            refine wpAnyH_ready (rs := [7]) (by kernel_rfl) (by simp) (AllReadyH.cons rfl (fun K hK => ?_) AllReadyH.nil)
            rw [if_pos (by rfl)]
            refine wp_store_mid 104 (.tmp 8) (.tmp 24) rfl (Z0.heap.size) 0 (verL (verF s)).toArray rfl rfl (by rw [verS]; exact hfin.2.1) HSy.out HOne.out ?_
            refine hK.out _ _ ?_ (fun hHeld => ?_)
            · exact hfin.2.2.2.2.2
            clear hK K
            refine wpAnyH_done (by kernel_rfl) ?_ _
            go_wp2
            go_meet
            exact ⟨_, q, _, rfl, rfl, hfin.2.2.1, hfin.2.2.2.1, hfin.2.2.2.2.1, hfin.2.2.2.2.2⟩
        · go_simp
          have hcl : W3.heap.size ≤ Z26.heap.size := hHeld.size
          refine hK.out _ _ ?_ (fun hHeld => ?_)
          · exact hHeld.alloc hHeld.size _
          clear hK K
          have hbn := belA (Below.refl Z26.heap.size Z26) (.cells #[.nilFunc] 100)
          have hc := heap_alloc_new Z26 (.cells #[.nilFunc] 100)
          generalize Z26.alloc (.cells #[.nilFunc] 100) = Z32 at hHeld hbn hc ⊢
          have hv := hv.below hbn hv.lt
          refine wpAnyH_ready (rs := [1]) (by kernel_rfl) (by simp) (AllReadyH.cons rfl (fun K hK => ?_) AllReadyH.nil)
          go_simp
          refine (HCm.out Z32).mono ?_
          rintro e Z33 ⟨q, rfl, hq, hbn⟩
          refine hK.out _ _ ?_ (fun hHeld => ?_)
          · exact belJ hHeld hbn
          clear hK K
          have hc := (hbn.block _ (lt_of_heap hc)).trans hc
          have hv := hv.below hbn hv.lt
          refine wpAnyH_ready (rs := [3]) (by kernel_rfl) (by simp) (AllReadyH.cons rfl (fun K hK => ?_) AllReadyH.nil)
          go_simp
          refine (HVs.out Z33 hHeld).mono ?_
          rintro e Z34 ⟨rfl, hbn⟩
          refine hK.out _ _ ?_ (fun hHeld => ?_)
          · exact belJ hHeld hbn
          clear hK K
          have hq := (hbn.cell (p := ⟨q, 0, none⟩) (World.block_lt_of_cell? Z33 _ hq)).trans hq
          have hc := (hbn.block _ (lt_of_heap hc)).trans hc
          have hv := hv.below hbn hv.lt
          have hfin := HFin.out Z34 q (Z26.heap.size) (Z0.heap.size) hHeld hq hc hv hcl hvl
          have x0 : Z34.cell? ⟨Z26.heap.size, 0, none⟩ = some .nilFunc := cell_of_row _ _ _ _ 100 _ hc
          have x1 := frozen_of_row Z34 (Z26.heap.size) 0 _ 100 hc
          refine wpAnyH_ready (rs := [6]) (by kernel_rfl) (by simp) (AllReadyH.cons rfl (fun K hK => ?_) AllReadyH.nil)
          go_simp
          refine hK.out _ _ ?_ (fun hHeld => ?_)
          · exact hfin.1
          clear hK K
          refine wpAnyH_ready (rs := [7]) (by kernel_rfl) (by simp) (AllReadyH.cons rfl (fun K hK => ?_) AllReadyH.nil)
          rw [if_pos (by rfl)]
          refine wp_store_mid 104 (.tmp 8) (.tmp 24) rfl (Z0.heap.size) 0 (verL (verF s)).toArray rfl rfl (by rw [verS]; exact hfin.2.1) HSy.out HOne.out ?_
          refine hK.out _ _ ?_ (fun hHeld => ?_)
          · exact hfin.2.2.2.2.2
          clear hK K
          refine wpAnyH_done (by kernel_rfl) ?_ _
          go_wp2
          go_meet
          exact ⟨_, q, _, rfl, rfl, hfin.2.2.1, hfin.2.2.2.1, hfin.2.2.2.2.1, hfin.2.2.2.2.2⟩
      --END4
    case rest =>
      rename World => W4
      obtain ⟨Bc, q, Bw, rfl, rfl, hfc, hfq, hvw, hbx⟩ := hcut
      have HB4 := hideIt (belJ HB3.out hbx)
      have f0 := (HX.out W4 hbx).1
      have f1 := (HX.out W4 hbx).2
      have HX1 := hideIt (HX1.out.below hbx)
      have HX2 := hideIt (HX2.out.below hbx)
      have HX3 := hideIt (HX3.out.below hbx)
      have hbe := (hbx.block _ (lt_of_heap hbe)).trans hbe
      have hbf := hbf.below hbx hbf.lt
      have k6 := (hbx.cell (p := ⟨w1.heap.size + 1 + 1, 0, none⟩) (World.block_lt_of_cell? W3 _ k6)).trans k6
      have hs34 := hbx.size
      clear HX hbx HB3
      go_wp2_with fail
      refine (reads_any s a b ca cb _).mono ?_
      rintro e w5 ⟨rfl, rfl⟩
      have hb45 : Below W4.heap.size W4 (((W4.alloc (.cells #[.slice a s.txs.length ca, .slice b s.ord.length cb] 44)).alloc (.cells #[.slice a s.txs.length ca, .slice b s.ord.length cb] 44)).alloc (.cells #[.func (.func 61) #[] #[.pointer (some ⟨W4.heap.size + 1, 0, none⟩)]] 100)) := belA (belA (belA (Below.refl _ _) _) _) _
      have HB5 := hideIt (belJ HB4.out hb45)
      have hs5 : (((W4.alloc (.cells #[.slice a s.txs.length ca, .slice b s.ord.length cb] 44)).alloc (.cells #[.slice a s.txs.length ca, .slice b s.ord.length cb] 44)).alloc (.cells #[.func (.func 61) #[] #[.pointer (some ⟨W4.heap.size + 1, 0, none⟩)]] 100)).heap.size = W4.heap.size + 1 + 1 + 1 := by simp
      have k0 := cellA (o := .cells #[.func (.func 61) #[] #[.pointer (some ⟨W4.heap.size + 1, 0, none⟩)]] 100) (cellA (o := .cells #[.slice a s.txs.length ca, .slice b s.ord.length cb] 44) (box2 W4 (.slice a s.txs.length ca) (.slice b s.ord.length cb) 44).1)
      have k1 := cellA (o := .cells #[.func (.func 61) #[] #[.pointer (some ⟨W4.heap.size + 1, 0, none⟩)]] 100) (box2 (W4.alloc (.cells #[.slice a s.txs.length ca, .slice b s.ord.length cb] 44)) (.slice a s.txs.length ca) (.slice b s.ord.length cb) 44).1
      have k2 := box1 ((W4.alloc (.cells #[.slice a s.txs.length ca, .slice b s.ord.length cb] 44)).alloc (.cells #[.slice a s.txs.length ca, .slice b s.ord.length cb] 44)) (.func (.func 61) #[] #[.pointer (some ⟨W4.heap.size + 1, 0, none⟩)]) 100
      simp only [World.size_alloc] at k1 k2
      have f0 := (hb45.cell (p := ⟨w.heap.size, 0, none⟩) (World.block_lt_of_cell? W4 _ f0)).trans f0
      have f1 := (hb45.cell (p := ⟨w.heap.size, 1, none⟩) (World.block_lt_of_cell? W4 _ f1)).trans f1
      have HX1 := hideIt (HX1.out.below hb45)
      have HX2 := hideIt (HX2.out.below hb45)
      have HX3 := hideIt (HX3.out.below hb45)
      have hbe5 := (hb45.block _ (lt_of_heap hbe)).trans hbe
      have HBf := hideIt (hbf.below hb45 hbf.lt)
      have k6 := (hb45.cell (p := ⟨w1.heap.size + 1 + 1, 0, none⟩) (World.block_lt_of_cell? W4 _ k6)).trans k6
      have hfc5 := (hb45.cell (p := ⟨Bc, 0, none⟩) (World.block_lt_of_cell? W4 _ hfc)).trans hfc
      have hfq5 := (hb45.cell (p := ⟨q, 0, none⟩) (World.block_lt_of_cell? W4 _ hfq)).trans hfq
      have HV5 := hideIt (hvw.below hb45 hvw.lt)
      have hfl : w1.heap.size + 1 < W4.heap.size := by omega
      clear hb45 hbe hbf hfc hfq hvw HB4
      go_wp2
      generalize ((W4.alloc (.cells #[.slice a s.txs.length ca, .slice b s.ord.length cb] 44)).alloc (.cells #[.slice a s.txs.length ca, .slice b s.ord.length cb] 44)).alloc (.cells #[.func (.func 61) #[] #[.pointer (some ⟨W4.heap.size + 1, 0, none⟩)]] 100) = W5 at HB5 hs5 k0 k1 k2 f0 f1 HX1 HX2 HX3 hbe5 HBf k6 hfc5 hfq5 HV5 ⊢
      have HRd : Hid (RdAt W5 a b ca cb s w.heap.size W4.heap.size (W4.heap.size + 1 + 1 + 1) W4.heap.size (W4.heap.size + 1 + 1) (W4.heap.size + 1)) := ⟨HS.out.below HB5.out, by omega, k0, k2, k1⟩
      rw [← wpIn_wide (n := 4)]
      refine wpIn_rangeFunc_ownH rfl (by omega) (gf := 63) (lb := #[.pointer (some ⟨W4.heap.size, 0, none⟩), .pointer (some ⟨W4.heap.size + 1 + 1, 0, none⟩)]) rfl trivial (enters_of (P := Tryd.prog) Tryd.func63 (by kernel_rfl) rfl)
        (reads_stops s a b ca cb w.heap.size W4.heap.size (W4.heap.size + 1 + 1 + 1) W4.heap.size (W4.heap.size + 1 + 1) (W4.heap.size + 1) 3 (by omega) w W5 HS.out rfl HB5.out (by omega) HRd.out) keptR_t (keptR_b HB5.out.size (by omega)) (Below.refl _ _) (fun _ => rfl)
        (fun pre W => BitsAt W (w1.heap.size + 1) 6 (fndL s (pre.map (rdA s))) ∧ (∀ b, b < W5.heap.size → b ≠ w1.heap.size + 1 → W.heap[b]? = W5.heap[b]?) ∧ Below w.heap.size W5 W)
        (fun _ _ _ => False)
        (fun pre X Y row hI hg hr => by
          obtain ⟨hE, hk, hb⟩ := hI
          have hsz := hb.size
          have hblk : ∀ x, x < W5.heap.size → Y.heap[x]? = X.heap[x]? := fun x hx => hg.block x (by omega) (fun e => by have := (hr x e.symm).1; omega)
          exact ⟨hE.block (hblk _ (by omega)), fun x hx hn => (hblk x hx).trans (hk x hx hn), hb.grown hg (by have := HB5.out.size; omega) (fun k e => by have := (hr k e).1; have := HB5.out.size; omega)⟩)
        (fun _ _ _ _ _ hs _ _ => hs)
        ⟨HBf.out.same (fun k _ => by unfold fndL; simp), fun _ _ _ => rfl, Below.refl _ _⟩
        (fun x a' W => ∃ Bx, W5.heap.size ≤ Bx ∧ W.heap[Bx]? = some (.cells #[.bool (rdA s x).2.wr, .int .i64 (rdA s x).2.key, .int .i64 (rdA s x).2.frm, .int .i64 (rdA s x).2.num] 84 (0, 0)) ∧ a' = { tmps := #[.agg #[.slice a s.txs.length ca, .slice b s.ord.length cb], .pointer (some ⟨w.heap.size, 0, none⟩), .slice none 0 0, .nilIface, .pointer (some ⟨w1.heap.size, 0, none⟩), .nilIface, .pointer (some ⟨w1.heap.size + 1 + 1, 0, none⟩), .pointer (some ⟨Bc, 0, none⟩), .pointer (some ⟨Bw, 0, none⟩), .int .i64 ((rdA s x).1 : Int), .pointer (some ⟨Bx, 0, none⟩), undef, .tuple #[.agg #[.slice a1 s.txs.length p1, .slice a2 s.txs.length p2, .slice a3 s.txs.length p3], .nilIface], .agg #[.slice a s.txs.length ca, .slice b s.ord.length cb], .tuple #[.agg #[.slice a1 s.txs.length p1, .slice a2 s.txs.length p2, .slice a3 s.txs.length p3], .nilIface], .agg #[.slice a1 s.txs.length p1, .slice a2 s.txs.length p2, .slice a3 s.txs.length p3], .nilIface, .nilIface, .bool false, undef, .slice (some ⟨w1.heap.size + 1, 0, none⟩) 6 6, u21, u22, u23, u24, .agg #[.slice a s.txs.length ca, .slice b s.ord.length cb], .func (.func 63) #[] #[.pointer (some ⟨W4.heap.size, 0, none⟩), .pointer (some ⟨W4.heap.size + 1 + 1, 0, none⟩)], .int .i64 ((rdA s x).1 : Int), (rdA s x).2.agg, undef, undef, undef, undef, undef, undef, undef, undef, undef, undef, undef, undef, undef, undef, undef, undef, undef, undef, undef, undef, undef, undef, undef, undef, undef, undef, undef, undef, undef, undef, undef, undef, undef, undef, undef, undef, undef, undef, undef, undef, undef, undef, undef, undef, undef, undef, undef, undef, undef, undef, undef, undef, undef, undef, undef, undef], defers := [] })
        (fun x a' _ X Y row hs hg hr => by
          obtain ⟨Bx, h1, h2, h3⟩ := hs
          exact ⟨Bx, h1, (hg.block Bx (lt_of_heap h2) (fun e => by obtain ⟨_, o, ho, hc⟩ := hr Bx e.symm; rw [h2] at ho; cases ho; cases hc)).trans h2, h3⟩)
        ?assign ?body ?done ?stop
      case assign =>
        rintro l pre x W K ⟨hE, hk, hb⟩ hK
        have hsz := hb.size
        have hs0 := HB5.out.size
        unfold encR IOp.agg
        gi_wp2
        exact hK _ _ ((KeepsOthers.alloc _ _).from _) ⟨(Below.refl _ W).alloc (by omega) _, fun x _ hx => Below.heap_alloc _ _ _ (by omega)⟩ ⟨hE.block (Below.heap_alloc _ _ _ (by omega)), fun x h1 h2 => (Below.heap_alloc _ _ _ (by omega)).trans (hk x h1 h2), hb.alloc (by omega) _⟩ ⟨W.heap.size, hsz, heap_alloc_new W _, rfl⟩
      case body =>
        --BODY
        rintro l pre x a' W hl _ ⟨hE, hk, hb⟩ ⟨Bx, hBx, hbx, rfl⟩ hlt
        have hmem : rdA s x ∈ rdI s := List.getElem_mem _
        have HSz : Hid ((Tryd.prog.info? 104).map (·.size) = some (verL (verF s)).length) := by rw [verL_len]; exact size77
        have hsW := hb.size
        have hs0 := HB5.out.size
        have HFi : Hid (∀ Z f, MidF W5 W Z w.heap.size W4.heap.size (W4.heap.size + 1 + 1 + 1) (w1.heap.size + 1) Bx f → (∀ k, k < 6 → f k = (fndL s (pre.map (rdA s)) k || (if k = 1 then abtP s (rdA s x) else if k = 2 then btwP s (rdA s x) else false))) →
            KeepsFrom W5.heap.size W Z ∧ KeptR w.heap.size W4.heap.size (W4.heap.size + 1 + 1 + 1) W Z ∧ BitsAt Z (w1.heap.size + 1) 6 (fndL s ((pre ++ [x]).map (rdA s))) ∧ (∀ b, b < W5.heap.size → b ≠ w1.heap.size + 1 → Z.heap[b]? = W5.heap[b]?) ∧ Below w.heap.size W5 Z) := fun Z f hM e =>
          ⟨hM.oth.from _, ⟨hM.bW, hM.its⟩, hM.bits.same (fun k hk => by
            rw [e k hk, List.map_append, List.map_cons, List.map_nil]
            unfold fndL
            by_cases e1 : k = 1
            · simp [e1]
            · by_cases e2 : k = 2
              · simp [e2]
              · simp [e1, e2]), hM.kx, hM.b4⟩
        have HM0 : Hid (MidF W5 W W w.heap.size W4.heap.size (W4.heap.size + 1 + 1 + 1) (w1.heap.size + 1) Bx (fndL s (pre.map (rdA s)))) := ⟨hE, hk, hb, Below.refl _ _, KeepsOthers.refl _, fun _ _ _ => rfl, rfl⟩
        obtain ⟨ht, hct, hkey, hfrm⟩ := rd_ok ok hmem
        generalize rdA s x = r at *
        obtain ⟨t, owr, okey, ofrm, onum⟩ := r
        dsimp only at ht hct hkey hfrm hbx ⊢
        have hnc : Bc ≠ w1.heap.size + 1 := HBf.out.ne_cell (by omega) hfc5 (by simp)
        have hnq : q ≠ w1.heap.size + 1 := HBf.out.ne_cell (by omega) hfq5 (by simp)
        have hnw : Bw ≠ w1.heap.size + 1 := HBf.out.ne_cell (by omega) (HV5.out.at (i := 0) (j := 0) (by omega) (by omega)) (by simp)
        have hnx : Bx ≠ w1.heap.size + 1 := by omega
        have HAt : Hid (∀ Z f, MidF W5 W Z w.heap.size W4.heap.size (W4.heap.size + 1 + 1 + 1) (w1.heap.size + 1) Bx f → (Z.cell? ⟨w1.heap.size + 1 + 1, 0, none⟩ = some (.slice (some ⟨w1.heap.size + 1, 0, none⟩) 6 6) ∧ Z.cell? ⟨Bc, 0, none⟩ = some (.func (.func 61) #[] #[.pointer (some ⟨q, 0, none⟩)]) ∧ Z.cell? ⟨q, 0, none⟩ = some (.slice a s.txs.length ca)) ∧ VerB Z Bw (verF s) ∧
            (Z.cell? ⟨Bx, 0, none⟩ = some (.bool owr) ∧ Z.cell? ⟨Bx, 1, none⟩ = some (.int .i64 okey) ∧ Z.cell? ⟨Bx, 2, none⟩ = some (.int .i64 ofrm) ∧ Z.cell? ⟨Bx, 3, none⟩ = some (.int .i64 onum)) ∧ StyQ Z a ca b cb s) := fun Z f hM => by
          have old : ∀ {g j : Nat} {v : Value}, W5.cell? ⟨g, j, none⟩ = some v → g ≠ w1.heap.size + 1 → Z.cell? ⟨g, j, none⟩ = some v := fun {g j v} hv hn => (World.cell?_of_block (a := ⟨g, j, none⟩) (hM.kx g (World.block_lt_of_cell? W5 _ hv) hn)).trans hv
          have hbxZ := hM.bx.trans hbx
          exact ⟨⟨old k6 (by omega), old hfc5 hnc, old hfq5 hnq⟩, HV5.out.block (hM.kx Bw HV5.out.lt hnw), ⟨cell_of_row _ _ _ _ 84 _ hbxZ, cell_of_row _ _ _ _ 84 _ hbxZ, cell_of_row _ _ _ _ 84 _ hbxZ, cell_of_row _ _ _ _ 84 _ hbxZ⟩, HS.out.below (HB5.out.trans hM.b4)⟩
        have hxW : Bx < W.heap.size := lt_of_heap hbx
        have HBl : Hid (∀ Z Z' f, MidF W5 W Z w.heap.size W4.heap.size (W4.heap.size + 1 + 1 + 1) (w1.heap.size + 1) Bx f → Below Z.heap.size Z Z' → MidF W5 W Z' w.heap.size W4.heap.size (W4.heap.size + 1 + 1 + 1) (w1.heap.size + 1) Bx f) := fun Z Z' f hM hb' => hM.below hb' hs0 (by omega) hxW
        clear hE hk hb hbx hmem
        obtain ⟨_, _, ⟨o0, o1, o2, o3⟩, _⟩ := HAt.out _ _ HM0.out
        obtain ⟨ky, rfl⟩ := Int.eq_ofNat_of_zero_le hkey.1
        have HOt := hideIt (isOther_any t ⟨owr, (ky : Int), ofrm, onum⟩ W)
        have HBt : Hid (btwP s (t, ⟨owr, (ky : Int), ofrm, onum⟩) = (othB t ⟨owr, (ky : Int), ofrm, onum⟩ && !lastB (verF s) ⟨owr, (ky : Int), ofrm, onum⟩)) := rfl
        have HAb : Hid (abtP s (t, ⟨owr, (ky : Int), ofrm, onum⟩) = (othB t ⟨owr, (ky : Int), ofrm, onum⟩ && !comI s ofrm)) := rfl
        unfold IOp.agg at HOt ⊢
        dsimp only at HOt ⊢
        gi_wp2
        refine ⟨trivial, ?_⟩
        refine (CallsIn.inRound l (callsIn_wide.2 HOt.out)).mono ?_
        rintro e Z1 ⟨rfl, hbZ⟩
        have HM1 := hideIt (HBl.out _ Z1 _ HM0.out hbZ)
        clear hbZ HOt HM0 o0 o1 o2 o3
        cases hth : othB t ⟨owr, (ky : Int), ofrm, onum⟩
        · have HE := hideIt (HFi.out _ _ HM1.out (fun k hk => by rw [HAb.out, HBt.out, hth]; simp))
          gi_wp2
          exact HE.out
        · have hf1 : ofrm ≠ -1 := fun e => by unfold othB at hth; rw [e] at hth; simp at hth
          obtain ⟨f0', f1', n0', n1', n2'⟩ : 0 ≤ ofrm ∧ ofrm < s.txs.length ∧ 0 ≤ onum ∧ onum < wroI s ofrm (ky : Int) ∧ wroI s ofrm (ky : Int) ≤ 60 := by
            rcases hfrm with h | h
            · exact absurd h hf1
            · exact h
          obtain ⟨f, rfl⟩ := Int.eq_ofNat_of_zero_le f0'
          rw [hth, Bool.true_and] at HBt HAb
          have hfn : f < s.txs.length := by omega
          obtain ⟨⟨c6, cc, cq⟩, _, ⟨p0, p1', p2, p3'⟩, hstZ⟩ := HAt.out Z1 _ HM1.out
          have HCo : Hid (Calls Tryd.prog 61 #[.int .i64 (f : Int), .pointer (some ⟨q, 0, none⟩)] Z1.drew fun e w' => e = .returned (.bool (comI s f)) ∧ w' = Z1.drew) := commits_any s a b ca cb q f Z1.drew (hstZ.below (below_drew1 _)) cq hfn
          have HLs : Hid (∀ Z, Calls Tryd.prog 38 #[.agg (verL (verF s)).toArray, .agg #[.bool owr, .int .i64 (ky : Int), .int .i64 (f : Int), .int .i64 onum]] Z fun e w' => e = .returned (.bool (lastB (verF s) ⟨owr, (ky : Int), (f : Int), onum⟩)) ∧ Below Z.heap.size Z w') := fun Z => isLast_any (verF s) ⟨owr, (ky : Int), (f : Int), onum⟩ Z (by dsimp only; omega) (by dsimp only; omega) (by dsimp only; omega) (by dsimp only; omega) (by dsimp only [Int.toNat_natCast]; exact Nat.le_trans n2' (by omega))
          have t1 := HM1.out.bits.bit 1 (by omega)
          have t2 := HM1.out.bits.fz 1
          clear hstZ cq p0 p1' p3'
          gi_wp2
          cases hc1 : fndL s (pre.map (rdA s)) 1
          · rw [hc1] at t1
            refine wpIn_round_L (B := [12]) (S := (fun w' => w'.cell? ⟨w1.heap.size + 1 + 1, 0, none⟩ = some (.slice (some ⟨w1.heap.size + 1, 0, none⟩) 6 6) ∧ w'.cell? ⟨Bc, 0, none⟩ = some (.func (.func 61) #[] #[.pointer (some ⟨q, 0, none⟩)]) ∧ w'.cell? ⟨Bx, 2, none⟩ = some (.int .i64 (f : Int)))) (T := (fun w' => w'.cell? ⟨w1.heap.size + 1, 1, none⟩ = some (.bool false))) (by kernel_rfl) (by kernel_rfl) ⟨⟨c6, cc, p2⟩, t1⟩ (fun hHeld => ?_)
            refine wpAnyL_takeS (i := 0) (v := ?_) rfl (by kernel_rfl) (by kernel_rfl) (by kernel_rfl) (by kernel_rfl) (fun _ _ _ h => h) (Or.inl ⟨by rfl, ?_⟩) (by assumption) ?_
            rotate_left 1
            · intro wz ⟨y0, y1, y2⟩
              go_simp
              all_goals with_reducible rfl
            simp only [Act.put, List.setIfInBounds_toArray, List.set_cons_zero, List.set_cons_succ, List.getElem_toArray, List.getElem_cons_zero]
            refine wpAnyL_takeS (i := 1) (v := ?_) rfl (by kernel_rfl) (by kernel_rfl) (by kernel_rfl) (by kernel_rfl) (fun _ _ _ h => h) (Or.inl ⟨by rfl, ?_⟩) (by assumption) ?_
            rotate_left 1
            · intro wz ⟨y0, y1, y2⟩
              go_simp
              all_goals with_reducible rfl
            simp only [Act.put, List.setIfInBounds_toArray, List.set_cons_zero, List.set_cons_succ, List.getElem_toArray, List.getElem_cons_zero, List.getElem_cons_succ]
            refine wpAnyL_takeS (i := 2) (v := ?_) rfl (by kernel_rfl) (by kernel_rfl) (by kernel_rfl) (by kernel_rfl) (fun _ _ _ h => h) (Or.inl ⟨by rfl, ?_⟩) (by assumption) ?_
            rotate_left 1
            · intro wz ⟨y0, y1, y2⟩
              go_simp
              all_goals with_reducible rfl
            simp only [Act.put, List.setIfInBounds_toArray, List.set_cons_zero, List.set_cons_succ, List.getElem_toArray, List.getElem_cons_zero, List.getElem_cons_succ]
            refine wpAnyL_take [4, 10, 12] (i := 3) (v := ?_) rfl (by kernel_rfl) (by kernel_rfl) (by kernel_rfl) (by kernel_rfl) (fun _ _ _ h => h) (Or.inl ⟨by rfl, ?_⟩) (by assumption) ?_
            rotate_left 1
            · intro wz ⟨⟨y0, y1, y2⟩, t0⟩
              go_simp
              all_goals with_reducible rfl
            simp only [Act.put, List.setIfInBounds_toArray, List.set_cons_zero, List.set_cons_succ, List.getElem_toArray, List.getElem_cons_zero, List.getElem_cons_succ]
            refine wpAnyL_takeS (i := 4) (v := ?_) rfl (by kernel_rfl) (by kernel_rfl) (by kernel_rfl) (by kernel_rfl) (fun _ _ _ h => h) (Or.inl ⟨by rfl, ?_⟩) (by assumption) ?_
            rotate_left 1
            · intro wz ⟨y0, y1, y2⟩
              go_simp
              all_goals with_reducible rfl
            simp only [Act.put, List.setIfInBounds_toArray, List.set_cons_zero, List.set_cons_succ, List.getElem_toArray, List.getElem_cons_zero, List.getElem_cons_succ]
            refine wpAnyL_takeS (i := 5) (v := ?_) rfl (by kernel_rfl) (by kernel_rfl) (by kernel_rfl) (by kernel_rfl) (fun _ _ _ h => h) (Or.inl ⟨by rfl, ?_⟩) (by assumption) ?_
            rotate_left 1
            · intro wz ⟨y0, y1, y2⟩
              go_simp
              all_goals with_reducible rfl
            simp only [Act.put, List.setIfInBounds_toArray, List.set_cons_zero, List.set_cons_succ, List.getElem_toArray, List.getElem_cons_zero, List.getElem_cons_succ]
            refine wpAnyL_takeS (i := 6) (v := ?_) rfl (by kernel_rfl) (by kernel_rfl) (by kernel_rfl) (by kernel_rfl) (fun _ _ _ h => h) (Or.inl ⟨by rfl, ?_⟩) (by assumption) ?_
            rotate_left 1
            · intro wz ⟨y0, y1, y2⟩
              go_simp
              all_goals with_reducible rfl
            simp only [Act.put, List.setIfInBounds_toArray, List.set_cons_zero, List.set_cons_succ, List.getElem_toArray, List.getElem_cons_zero, List.getElem_cons_succ]
            refine wpAnyL_takeS (i := 7) (v := ?_) rfl (by kernel_rfl) (by kernel_rfl) (by kernel_rfl) (by kernel_rfl) (fun _ _ _ h => h) (Or.inl ⟨by rfl, ?_⟩) (by assumption) ?_
            rotate_left 1
            · intro wz ⟨y0, y1, y2⟩
              go_simp
              all_goals with_reducible rfl
            simp only [Act.put, List.setIfInBounds_toArray, List.set_cons_zero, List.set_cons_succ, List.getElem_toArray, List.getElem_cons_zero, List.getElem_cons_succ]
            refine wpAnyL_ready (rs := [8]) (by kernel_rfl) (by simp) (AllReadyL.cons rfl (fun K hK => ?_) AllReadyL.nil)
            go_simp
            refine HCo.out.mono ?_
            rintro e Z2 ⟨rfl, rfl⟩
            refine hK.out _ _ ?_ (fun hHeld => ?_)
            · exact ⟨⟨c6, cc, p2⟩, t1⟩
            clear hK K
            refine wpAnyL_takeS (i := 9) (v := ?_) rfl (by kernel_rfl) (by kernel_rfl) (by kernel_rfl) (by kernel_rfl) (fun _ _ _ h => h) (Or.inl ⟨by rfl, ?_⟩) (by assumption) ?_
            rotate_left 1
            · intro wz ⟨y0, y1, y2⟩
              go_simp
              all_goals with_reducible rfl
            simp only [Act.put, List.setIfInBounds_toArray, List.set_cons_zero, List.set_cons_succ, List.getElem_toArray, List.getElem_cons_zero, List.getElem_cons_succ]
            refine wpAnyL_takeS (i := 10) (v := ?_) rfl (by kernel_rfl) (by kernel_rfl) (by kernel_rfl) (by kernel_rfl) (fun _ _ _ h => h) (Or.inl ⟨by rfl, ?_⟩) (by assumption) ?_
            rotate_left 1
            · intro wz ⟨y0, y1, y2⟩
              go_simp
              all_goals with_reducible rfl
            simp only [Act.put, List.setIfInBounds_toArray, List.set_cons_zero, List.set_cons_succ, List.getElem_toArray, List.getElem_cons_zero, List.getElem_cons_succ]
            refine wpAnyL_takeS (i := 11) (v := ?_) rfl (by kernel_rfl) (by kernel_rfl) (by kernel_rfl) (by kernel_rfl) (fun _ _ _ h => h) (Or.inl ⟨by rfl, ?_⟩) (by assumption) ?_
            rotate_left 1
            · intro wz ⟨y0, y1, y2⟩
              go_simp
              all_goals with_reducible rfl
            simp only [Act.put, List.setIfInBounds_toArray, List.set_cons_zero, List.set_cons_succ, List.getElem_toArray, List.getElem_cons_zero, List.getElem_cons_succ]
            refine wpAnyL_ready (rs := [12]) (by kernel_rfl) (by simp) (AllReadyL.last rfl (by kernel_rfl) (fun K hK => ?_) AllReadyL.nil)
            go_simp
            refine hK.out _ _ ?_ (fun hHeld => ?_)
            · exact ⟨(World.cell?_setCell_other _ _ _ _ (blkNe (by omega))).trans c6, (World.cell?_setCell_other _ _ _ _ (blkNe hnc.symm)).trans cc, (World.cell?_setCell_other _ _ _ _ (blkNe hnx.symm)).trans p2⟩
            clear hK K
            refine wpAnyL_done (by kernel_rfl) ?_ _
            dsimp only [noPO]
            have HM3 : Hid (MidF W5 W ((Z1.setCell ⟨w1.heap.size + 1, 1, none⟩ (.bool (!comI s (f : Int)))).drew) w.heap.size W4.heap.size (W4.heap.size + 1 + 1 + 1) (w1.heap.size + 1) Bx (fun k => if k = 1 then (fndL s (pre.map (rdA s)) 1 || abtP s (t, ⟨owr, (ky : Int), (f : Int), onum⟩)) else fndL s (pre.map (rdA s)) k)) := by
              have := HBl.out _ _ _ (HM1.out.put (m := 1) (by omega) (!comI s (f : Int)) (by omega) (by omega) hnx) (below_drew1 _)
              rw [hc1, HAb.out]
              exact this
            clear HM1 c6 cc p2 t1 t2 HCo
            gi_wp2
            generalize (Z1.setCell _ _).drew = Z3 at HM3 ⊢
            obtain ⟨⟨c6, _, _⟩, hvZ, ⟨p0, p1', p2, p3'⟩, _⟩ := HAt.out Z3 _ HM3.out
            have t1 : Z3.cell? ⟨w1.heap.size + 1, 2, none⟩ = some (.bool (fndL s (pre.map (rdA s)) 2)) := HM3.out.bits.bit 2 (by omega)
            have t2 := HM3.out.bits.fz 2
            cases hc2 : fndL s (pre.map (rdA s)) 2
            · rw [hc2] at t1
              refine wpIn_round_L (B := [11]) (S := (fun w' => w'.cell? ⟨w1.heap.size + 1 + 1, 0, none⟩ = some (.slice (some ⟨w1.heap.size + 1, 0, none⟩) 6 6) ∧ VerB w' Bw (verF s) ∧ w'.cell? ⟨Bx, 0, none⟩ = some (.bool owr) ∧ w'.cell? ⟨Bx, 1, none⟩ = some (.int .i64 (ky : Int)) ∧ w'.cell? ⟨Bx, 2, none⟩ = some (.int .i64 (f : Int)) ∧ w'.cell? ⟨Bx, 3, none⟩ = some (.int .i64 onum))) (T := (fun w' => w'.cell? ⟨w1.heap.size + 1, 2, none⟩ = some (.bool false))) (by kernel_rfl) (by kernel_rfl) ⟨⟨c6, hvZ, p0, p1', p2, p3'⟩, t1⟩ (fun hHeld => ?_)
              refine wpAnyL_takeS (i := 0) (v := ?_) rfl (by kernel_rfl) (by kernel_rfl) (by kernel_rfl) (by kernel_rfl) (fun _ _ _ h => h) (Or.inl ⟨by rfl, ?_⟩) (by assumption) ?_
              rotate_left 1
              · intro wz ⟨y0, yv, y1, y2, y3, y4⟩
                go_simp
                all_goals with_reducible rfl
              simp only [Act.put, List.setIfInBounds_toArray, List.set_cons_zero, List.set_cons_succ, List.getElem_toArray, List.getElem_cons_zero]
              refine wpAnyL_takeS (i := 1) (v := ?_) rfl (by kernel_rfl) (by kernel_rfl) (by kernel_rfl) (by kernel_rfl) (fun _ _ _ h => h) (Or.inl ⟨by rfl, ?_⟩) (by assumption) ?_
              rotate_left 1
              · intro wz ⟨y0, yv, y1, y2, y3, y4⟩
                go_simp
                all_goals with_reducible rfl
              simp only [Act.put, List.setIfInBounds_toArray, List.set_cons_zero, List.set_cons_succ, List.getElem_toArray, List.getElem_cons_zero, List.getElem_cons_succ]
              refine wpAnyL_takeS (i := 2) (v := ?_) rfl (by kernel_rfl) (by kernel_rfl) (by kernel_rfl) (by kernel_rfl) (fun _ _ _ h => h) (Or.inl ⟨by rfl, ?_⟩) (by assumption) ?_
              rotate_left 1
              · intro wz ⟨y0, yv, y1, y2, y3, y4⟩
                go_simp
                all_goals with_reducible rfl
              simp only [Act.put, List.setIfInBounds_toArray, List.set_cons_zero, List.set_cons_succ, List.getElem_toArray, List.getElem_cons_zero, List.getElem_cons_succ]
              refine wpAnyL_take [4, 9, 11] (i := 3) (v := ?_) rfl (by kernel_rfl) (by kernel_rfl) (by kernel_rfl) (by kernel_rfl) (fun _ _ _ h => h) (Or.inl ⟨by rfl, ?_⟩) (by assumption) ?_
              rotate_left 1
              · intro wz ⟨⟨y0, yv, y1, y2, y3, y4⟩, t0⟩
                go_simp
                all_goals with_reducible rfl
              simp only [Act.put, List.setIfInBounds_toArray, List.set_cons_zero, List.set_cons_succ, List.getElem_toArray, List.getElem_cons_zero, List.getElem_cons_succ]
              refine wpAnyL_takeS (i := 4) (v := ?_) rfl (by kernel_rfl) (by kernel_rfl) (by kernel_rfl) (by kernel_rfl) (fun _ _ _ h => h) (Or.inl ⟨by rfl, ?_⟩) (by assumption) ?_
              rotate_left 1
              · intro wz ⟨y0, yv, y1, y2, y3, y4⟩
                go_simp
                all_goals with_reducible rfl
              simp only [Act.put, List.setIfInBounds_toArray, List.set_cons_zero, List.set_cons_succ, List.getElem_toArray, List.getElem_cons_zero, List.getElem_cons_succ]
              refine wpAnyL_takeS (i := 5) (v := .agg (verL (verF s)).toArray) rfl (by kernel_rfl) (by kernel_rfl) (by kernel_rfl) (by kernel_rfl) (fun _ _ _ h => h) (yieldsIf_load_mid (by rfl) 104 (.tmp 8) rfl Bw 0 rfl (verL (verF s)) _ (fun w hw => hw.2.1.range) Tryd.underlying104 rfl HSz.out) (by assumption) ?_
              simp only [Act.put, List.setIfInBounds_toArray, List.set_cons_zero, List.set_cons_succ, List.getElem_toArray, List.getElem_cons_zero, List.getElem_cons_succ]
              refine wpAnyL_takeS (i := 6) (v := ?_) rfl (by kernel_rfl) (by kernel_rfl) (by kernel_rfl) (by kernel_rfl) (fun _ _ _ h => h) (Or.inl ⟨by rfl, ?_⟩) (by assumption) ?_
              rotate_left 1
              · intro wz ⟨y0, yv, y1, y2, y3, y4⟩
                go_simp
                all_goals with_reducible rfl
              simp only [Act.put, List.setIfInBounds_toArray, List.set_cons_zero, List.set_cons_succ, List.getElem_toArray, List.getElem_cons_zero, List.getElem_cons_succ]
              refine wpAnyL_ready (rs := [7]) (by kernel_rfl) (by simp) (AllReadyL.cons rfl (fun K hK => ?_) AllReadyL.nil)
              go_simp
              refine (HLs.out Z3.drew).mono ?_
              rintro e Z4 ⟨rfl, hbl⟩
              have HM4 := hideIt (HBl.out _ Z4 _ (HBl.out _ Z3.drew _ HM3.out (below_drew1 _)) hbl)
              obtain ⟨⟨c6', _, _⟩, hvZ', ⟨p0', p1'', p2', p3''⟩, _⟩ := HAt.out Z4 _ HM4.out
              have t1' : Z4.cell? ⟨w1.heap.size + 1, 2, none⟩ = some (.bool (fndL s (pre.map (rdA s)) 2)) := HM4.out.bits.bit 2 (by omega)
              rw [hc2] at t1'
              refine hK.out _ _ ?_ (fun hHeld => ?_)
              · exact ⟨⟨c6', hvZ', p0', p1'', p2', p3''⟩, t1'⟩
              clear hK K
              have t2' := HM4.out.bits.fz 2
              refine wpAnyL_takeS (i := 8) (v := ?_) rfl (by kernel_rfl) (by kernel_rfl) (by kernel_rfl) (by kernel_rfl) (fun _ _ _ h => h) (Or.inl ⟨by rfl, ?_⟩) (by assumption) ?_
              rotate_left 1
              · intro wz ⟨y0, yv, y1, y2, y3, y4⟩
                go_simp
                all_goals with_reducible rfl
              simp only [Act.put, List.setIfInBounds_toArray, List.set_cons_zero, List.set_cons_succ, List.getElem_toArray, List.getElem_cons_zero, List.getElem_cons_succ]
              refine wpAnyL_takeS (i := 9) (v := ?_) rfl (by kernel_rfl) (by kernel_rfl) (by kernel_rfl) (by kernel_rfl) (fun _ _ _ h => h) (Or.inl ⟨by rfl, ?_⟩) (by assumption) ?_
              rotate_left 1
              · intro wz ⟨y0, yv, y1, y2, y3, y4⟩
                go_simp
                all_goals with_reducible rfl
              simp only [Act.put, List.setIfInBounds_toArray, List.set_cons_zero, List.set_cons_succ, List.getElem_toArray, List.getElem_cons_zero, List.getElem_cons_succ]
              refine wpAnyL_takeS (i := 10) (v := ?_) rfl (by kernel_rfl) (by kernel_rfl) (by kernel_rfl) (by kernel_rfl) (fun _ _ _ h => h) (Or.inl ⟨by rfl, ?_⟩) (by assumption) ?_
              rotate_left 1
              · intro wz ⟨y0, yv, y1, y2, y3, y4⟩
                go_simp
                all_goals with_reducible rfl
              simp only [Act.put, List.setIfInBounds_toArray, List.set_cons_zero, List.set_cons_succ, List.getElem_toArray, List.getElem_cons_zero, List.getElem_cons_succ]
              refine wpAnyL_ready (rs := [11]) (by kernel_rfl) (by simp) (AllReadyL.last rfl (by kernel_rfl) (fun K hK => ?_) AllReadyL.nil)
              go_simp
              refine hK.out _ _ ?_ (fun hHeld => ?_)
              · exact ⟨(World.cell?_setCell_other _ _ _ _ (blkNe (by omega))).trans c6', hvZ'.other (p := ⟨w1.heap.size + 1, 2, none⟩) hnw _, (World.cell?_setCell_other _ _ _ _ (blkNe (hnx.symm))).trans p0', (World.cell?_setCell_other _ _ _ _ (blkNe (hnx.symm))).trans p1'', (World.cell?_setCell_other _ _ _ _ (blkNe (hnx.symm))).trans p2', (World.cell?_setCell_other _ _ _ _ (blkNe (hnx.symm))).trans p3''⟩
              clear hK K
              refine wpAnyL_done (by kernel_rfl) ?_ _
              dsimp only [noPO]
              have HM5 := hideIt (HM4.out.put (m := 2) (by omega) (!lastB (verF s) ⟨owr, (ky : Int), (f : Int), onum⟩) (by omega) (by omega) hnx)
              have HE := hideIt (HFi.out _ _ HM5.out (fun k hk => by
                by_cases e2 : k = 2
                · subst e2
                  rw [if_pos rfl, hc2, HBt.out]; rfl
                · rw [if_neg e2]
                  by_cases e1 : k = 1
                  · subst e1; rfl
                  · rw [if_neg e1, if_neg e1, if_neg e2, Bool.or_false]))
              gi_wp2
              exact HE.out
            · rw [hc2] at t1
              refine wpIn_round_L (B := [11]) (S := (fun w' => w'.cell? ⟨w1.heap.size + 1 + 1, 0, none⟩ = some (.slice (some ⟨w1.heap.size + 1, 0, none⟩) 6 6) ∧ VerB w' Bw (verF s) ∧ w'.cell? ⟨Bx, 0, none⟩ = some (.bool owr) ∧ w'.cell? ⟨Bx, 1, none⟩ = some (.int .i64 (ky : Int)) ∧ w'.cell? ⟨Bx, 2, none⟩ = some (.int .i64 (f : Int)) ∧ w'.cell? ⟨Bx, 3, none⟩ = some (.int .i64 onum))) (T := (fun w' => w'.cell? ⟨w1.heap.size + 1, 2, none⟩ = some (.bool true))) (by kernel_rfl) (by kernel_rfl) ⟨⟨c6, hvZ, p0, p1', p2, p3'⟩, t1⟩ (fun hHeld => ?_)
              refine wpAnyL_takeS (i := 0) (v := ?_) rfl (by kernel_rfl) (by kernel_rfl) (by kernel_rfl) (by kernel_rfl) (fun _ _ _ h => h) (Or.inl ⟨by rfl, ?_⟩) (by assumption) ?_
              rotate_left 1
              · intro wz ⟨y0, yv, y1, y2, y3, y4⟩
                go_simp
                all_goals with_reducible rfl
              simp only [Act.put, List.setIfInBounds_toArray, List.set_cons_zero, List.set_cons_succ, List.getElem_toArray, List.getElem_cons_zero]
              refine wpAnyL_takeS (i := 1) (v := ?_) rfl (by kernel_rfl) (by kernel_rfl) (by kernel_rfl) (by kernel_rfl) (fun _ _ _ h => h) (Or.inl ⟨by rfl, ?_⟩) (by assumption) ?_
              rotate_left 1
              · intro wz ⟨y0, yv, y1, y2, y3, y4⟩
                go_simp
                all_goals with_reducible rfl
              simp only [Act.put, List.setIfInBounds_toArray, List.set_cons_zero, List.set_cons_succ, List.getElem_toArray, List.getElem_cons_zero, List.getElem_cons_succ]
              refine wpAnyL_takeS (i := 2) (v := ?_) rfl (by kernel_rfl) (by kernel_rfl) (by kernel_rfl) (by kernel_rfl) (fun _ _ _ h => h) (Or.inl ⟨by rfl, ?_⟩) (by assumption) ?_
              rotate_left 1
              · intro wz ⟨y0, yv, y1, y2, y3, y4⟩
                go_simp
                all_goals with_reducible rfl
              simp only [Act.put, List.setIfInBounds_toArray, List.set_cons_zero, List.set_cons_succ, List.getElem_toArray, List.getElem_cons_zero, List.getElem_cons_succ]
              refine wpAnyL_take [4, 9, 11] (i := 3) (v := ?_) rfl (by kernel_rfl) (by kernel_rfl) (by kernel_rfl) (by kernel_rfl) (fun _ _ _ h => h) (Or.inl ⟨by rfl, ?_⟩) (by assumption) ?_
              rotate_left 1
              · intro wz ⟨⟨y0, yv, y1, y2, y3, y4⟩, t0⟩
                go_simp
                all_goals with_reducible rfl
              simp only [Act.put, List.setIfInBounds_toArray, List.set_cons_zero, List.set_cons_succ, List.getElem_toArray, List.getElem_cons_zero, List.getElem_cons_succ]
              refine wpAnyL_takeS (i := 4) (v := ?_) rfl (by kernel_rfl) (by kernel_rfl) (by kernel_rfl) (by kernel_rfl) (fun _ _ _ h => h) (Or.inl ⟨by rfl, ?_⟩) (by assumption) ?_
              rotate_left 1
              · intro wz ⟨y0, yv, y1, y2, y3, y4⟩
                go_simp
                all_goals with_reducible rfl
              simp only [Act.put, List.setIfInBounds_toArray, List.set_cons_zero, List.set_cons_succ, List.getElem_toArray, List.getElem_cons_zero, List.getElem_cons_succ]
              refine wpAnyL_takeS (i := 5) (v := undef) rfl (by kernel_rfl) (by kernel_rfl) (by kernel_rfl) (by kernel_rfl) (fun _ _ _ h => h) (Or.inr ⟨by rfl, rfl⟩) (by assumption) ?_
              simp only [Act.put, List.setIfInBounds_toArray, List.set_cons_zero, List.set_cons_succ, List.getElem_toArray, List.getElem_cons_zero, List.getElem_cons_succ]
              refine wpAnyL_takeS (i := 6) (v := undef) rfl (by kernel_rfl) (by kernel_rfl) (by kernel_rfl) (by kernel_rfl) (fun _ _ _ h => h) (Or.inr ⟨by rfl, rfl⟩) (by assumption) ?_
              simp only [Act.put, List.setIfInBounds_toArray, List.set_cons_zero, List.set_cons_succ, List.getElem_toArray, List.getElem_cons_zero, List.getElem_cons_succ]
              refine wpAnyL_takeS (i := 7) (v := undef) rfl (by kernel_rfl) (by kernel_rfl) (by kernel_rfl) (by kernel_rfl) (fun _ _ _ h => h) (Or.inr ⟨by rfl, rfl⟩) (by assumption) ?_
              simp only [Act.put, List.setIfInBounds_toArray, List.set_cons_zero, List.set_cons_succ, List.getElem_toArray, List.getElem_cons_zero, List.getElem_cons_succ]
              refine wpAnyL_takeS (i := 8) (v := undef) rfl (by kernel_rfl) (by kernel_rfl) (by kernel_rfl) (by kernel_rfl) (fun _ _ _ h => h) (Or.inr ⟨by rfl, rfl⟩) (by assumption) ?_
              simp only [Act.put, List.setIfInBounds_toArray, List.set_cons_zero, List.set_cons_succ, List.getElem_toArray, List.getElem_cons_zero, List.getElem_cons_succ]
              refine wpAnyL_takeS (i := 9) (v := ?_) rfl (by kernel_rfl) (by kernel_rfl) (by kernel_rfl) (by kernel_rfl) (fun _ _ _ h => h) (Or.inl ⟨by rfl, ?_⟩) (by assumption) ?_
              rotate_left 1
              · intro wz ⟨y0, yv, y1, y2, y3, y4⟩
                go_simp
                all_goals with_reducible rfl
              simp only [Act.put, List.setIfInBounds_toArray, List.set_cons_zero, List.set_cons_succ, List.getElem_toArray, List.getElem_cons_zero, List.getElem_cons_succ]
              refine wpAnyL_takeS (i := 10) (v := ?_) rfl (by kernel_rfl) (by kernel_rfl) (by kernel_rfl) (by kernel_rfl) (fun _ _ _ h => h) (Or.inl ⟨by rfl, ?_⟩) (by assumption) ?_
              rotate_left 1
              · intro wz ⟨y0, yv, y1, y2, y3, y4⟩
                go_simp
                all_goals with_reducible rfl
              simp only [Act.put, List.setIfInBounds_toArray, List.set_cons_zero, List.set_cons_succ, List.getElem_toArray, List.getElem_cons_zero, List.getElem_cons_succ]
              refine wpAnyL_ready (rs := [11]) (by kernel_rfl) (by simp) (AllReadyL.last rfl (by kernel_rfl) (fun K hK => ?_) AllReadyL.nil)
              go_simp
              refine hK.out _ _ ?_ (fun hHeld => ?_)
              · exact ⟨(World.cell?_setCell_other _ _ _ _ (blkNe (by omega))).trans c6, hvZ.other (p := ⟨w1.heap.size + 1, 2, none⟩) hnw _, (World.cell?_setCell_other _ _ _ _ (blkNe (hnx.symm))).trans p0, (World.cell?_setCell_other _ _ _ _ (blkNe (hnx.symm))).trans p1', (World.cell?_setCell_other _ _ _ _ (blkNe (hnx.symm))).trans p2, (World.cell?_setCell_other _ _ _ _ (blkNe (hnx.symm))).trans p3'⟩
              clear hK K
              refine wpAnyL_done (by kernel_rfl) ?_ _
              dsimp only [noPO]
              have HM5 := hideIt (HBl.out _ _ _ (HM3.out.put (m := 2) (by omega) true (by omega) (by omega) hnx) (below_drew1 _))
              have HE := hideIt (HFi.out _ _ HM5.out (fun k hk => by
                by_cases e2 : k = 2
                · subst e2
                  rw [if_pos rfl, hc2]; rfl
                · rw [if_neg e2]
                  by_cases e1 : k = 1
                  · subst e1; rfl
                  · rw [if_neg e1, if_neg e1, if_neg e2, Bool.or_false]))
              gi_wp2
              exact HE.out
          · rw [hc1] at t1
            refine wpIn_round_L (B := [12]) (S := (fun w' => w'.cell? ⟨w1.heap.size + 1 + 1, 0, none⟩ = some (.slice (some ⟨w1.heap.size + 1, 0, none⟩) 6 6) ∧ w'.cell? ⟨Bc, 0, none⟩ = some (.func (.func 61) #[] #[.pointer (some ⟨q, 0, none⟩)]) ∧ w'.cell? ⟨Bx, 2, none⟩ = some (.int .i64 (f : Int)))) (T := (fun w' => w'.cell? ⟨w1.heap.size + 1, 1, none⟩ = some (.bool true))) (by kernel_rfl) (by kernel_rfl) ⟨⟨c6, cc, p2⟩, t1⟩ (fun hHeld => ?_)
            refine wpAnyL_takeS (i := 0) (v := ?_) rfl (by kernel_rfl) (by kernel_rfl) (by kernel_rfl) (by kernel_rfl) (fun _ _ _ h => h) (Or.inl ⟨by rfl, ?_⟩) (by assumption) ?_
            rotate_left 1
            · intro wz ⟨y0, y1, y2⟩
              go_simp
              all_goals with_reducible rfl
            simp only [Act.put, List.setIfInBounds_toArray, List.set_cons_zero, List.set_cons_succ, List.getElem_toArray, List.getElem_cons_zero]
            refine wpAnyL_takeS (i := 1) (v := ?_) rfl (by kernel_rfl) (by kernel_rfl) (by kernel_rfl) (by kernel_rfl) (fun _ _ _ h => h) (Or.inl ⟨by rfl, ?_⟩) (by assumption) ?_
            rotate_left 1
            · intro wz ⟨y0, y1, y2⟩
              go_simp
              all_goals with_reducible rfl
            simp only [Act.put, List.setIfInBounds_toArray, List.set_cons_zero, List.set_cons_succ, List.getElem_toArray, List.getElem_cons_zero, List.getElem_cons_succ]
            refine wpAnyL_takeS (i := 2) (v := ?_) rfl (by kernel_rfl) (by kernel_rfl) (by kernel_rfl) (by kernel_rfl) (fun _ _ _ h => h) (Or.inl ⟨by rfl, ?_⟩) (by assumption) ?_
            rotate_left 1
            · intro wz ⟨y0, y1, y2⟩
              go_simp
              all_goals with_reducible rfl
            simp only [Act.put, List.setIfInBounds_toArray, List.set_cons_zero, List.set_cons_succ, List.getElem_toArray, List.getElem_cons_zero, List.getElem_cons_succ]
            refine wpAnyL_take [4, 10, 12] (i := 3) (v := ?_) rfl (by kernel_rfl) (by kernel_rfl) (by kernel_rfl) (by kernel_rfl) (fun _ _ _ h => h) (Or.inl ⟨by rfl, ?_⟩) (by assumption) ?_
            rotate_left 1
            · intro wz ⟨⟨y0, y1, y2⟩, t0⟩
              go_simp
              all_goals with_reducible rfl
            simp only [Act.put, List.setIfInBounds_toArray, List.set_cons_zero, List.set_cons_succ, List.getElem_toArray, List.getElem_cons_zero, List.getElem_cons_succ]
            refine wpAnyL_takeS (i := 4) (v := ?_) rfl (by kernel_rfl) (by kernel_rfl) (by kernel_rfl) (by kernel_rfl) (fun _ _ _ h => h) (Or.inl ⟨by rfl, ?_⟩) (by assumption) ?_
            rotate_left 1
            · intro wz ⟨y0, y1, y2⟩
              go_simp
              all_goals with_reducible rfl
            simp only [Act.put, List.setIfInBounds_toArray, List.set_cons_zero, List.set_cons_succ, List.getElem_toArray, List.getElem_cons_zero, List.getElem_cons_succ]
            refine wpAnyL_takeS (i := 5) (v := undef) rfl (by kernel_rfl) (by kernel_rfl) (by kernel_rfl) (by kernel_rfl) (fun _ _ _ h => h) (Or.inr ⟨by rfl, rfl⟩) (by assumption) ?_
            simp only [Act.put, List.setIfInBounds_toArray, List.set_cons_zero, List.set_cons_succ, List.getElem_toArray, List.getElem_cons_zero, List.getElem_cons_succ]
            refine wpAnyL_takeS (i := 6) (v := undef) rfl (by kernel_rfl) (by kernel_rfl) (by kernel_rfl) (by kernel_rfl) (fun _ _ _ h => h) (Or.inr ⟨by rfl, rfl⟩) (by assumption) ?_
            simp only [Act.put, List.setIfInBounds_toArray, List.set_cons_zero, List.set_cons_succ, List.getElem_toArray, List.getElem_cons_zero, List.getElem_cons_succ]
            refine wpAnyL_takeS (i := 7) (v := undef) rfl (by kernel_rfl) (by kernel_rfl) (by kernel_rfl) (by kernel_rfl) (fun _ _ _ h => h) (Or.inr ⟨by rfl, rfl⟩) (by assumption) ?_
            simp only [Act.put, List.setIfInBounds_toArray, List.set_cons_zero, List.set_cons_succ, List.getElem_toArray, List.getElem_cons_zero, List.getElem_cons_succ]
            refine wpAnyL_takeS (i := 8) (v := undef) rfl (by kernel_rfl) (by kernel_rfl) (by kernel_rfl) (by kernel_rfl) (fun _ _ _ h => h) (Or.inr ⟨by rfl, rfl⟩) (by assumption) ?_
            simp only [Act.put, List.setIfInBounds_toArray, List.set_cons_zero, List.set_cons_succ, List.getElem_toArray, List.getElem_cons_zero, List.getElem_cons_succ]
            refine wpAnyL_takeS (i := 9) (v := undef) rfl (by kernel_rfl) (by kernel_rfl) (by kernel_rfl) (by kernel_rfl) (fun _ _ _ h => h) (Or.inr ⟨by rfl, rfl⟩) (by assumption) ?_
            simp only [Act.put, List.setIfInBounds_toArray, List.set_cons_zero, List.set_cons_succ, List.getElem_toArray, List.getElem_cons_zero, List.getElem_cons_succ]
            refine wpAnyL_takeS (i := 10) (v := ?_) rfl (by kernel_rfl) (by kernel_rfl) (by kernel_rfl) (by kernel_rfl) (fun _ _ _ h => h) (Or.inl ⟨by rfl, ?_⟩) (by assumption) ?_
            rotate_left 1
            · intro wz ⟨y0, y1, y2⟩
              go_simp
              all_goals with_reducible rfl
            simp only [Act.put, List.setIfInBounds_toArray, List.set_cons_zero, List.set_cons_succ, List.getElem_toArray, List.getElem_cons_zero, List.getElem_cons_succ]
            refine wpAnyL_takeS (i := 11) (v := ?_) rfl (by kernel_rfl) (by kernel_rfl) (by kernel_rfl) (by kernel_rfl) (fun _ _ _ h => h) (Or.inl ⟨by rfl, ?_⟩) (by assumption) ?_
            rotate_left 1
            · intro wz ⟨y0, y1, y2⟩
              go_simp
              all_goals with_reducible rfl
            simp only [Act.put, List.setIfInBounds_toArray, List.set_cons_zero, List.set_cons_succ, List.getElem_toArray, List.getElem_cons_zero, List.getElem_cons_succ]
            refine wpAnyL_ready (rs := [12]) (by kernel_rfl) (by simp) (AllReadyL.last rfl (by kernel_rfl) (fun K hK => ?_) AllReadyL.nil)
            go_simp
            refine hK.out _ _ ?_ (fun hHeld => ?_)
            · exact ⟨(World.cell?_setCell_other _ _ _ _ (blkNe (by omega))).trans c6, (World.cell?_setCell_other _ _ _ _ (blkNe hnc.symm)).trans cc, (World.cell?_setCell_other _ _ _ _ (blkNe hnx.symm)).trans p2⟩
            clear hK K
            refine wpAnyL_done (by kernel_rfl) ?_ _
            dsimp only [noPO]
            have HM3 : Hid (MidF W5 W ((Z1.setCell ⟨w1.heap.size + 1, 1, none⟩ (.bool true)).drew) w.heap.size W4.heap.size (W4.heap.size + 1 + 1 + 1) (w1.heap.size + 1) Bx (fun k => if k = 1 then (fndL s (pre.map (rdA s)) 1 || abtP s (t, ⟨owr, (ky : Int), (f : Int), onum⟩)) else fndL s (pre.map (rdA s)) k)) := by
              have := HBl.out _ _ _ (HM1.out.put (m := 1) (by omega) true (by omega) (by omega) hnx) (below_drew1 _)
              rw [hc1, Bool.true_or]
              exact this
            clear HM1 c6 cc p2 t1 t2 HCo
            gi_wp2
            generalize (Z1.setCell _ _).drew = Z3 at HM3 ⊢
            obtain ⟨⟨c6, _, _⟩, hvZ, ⟨p0, p1', p2, p3'⟩, _⟩ := HAt.out Z3 _ HM3.out
            have t1 : Z3.cell? ⟨w1.heap.size + 1, 2, none⟩ = some (.bool (fndL s (pre.map (rdA s)) 2)) := HM3.out.bits.bit 2 (by omega)
            have t2 := HM3.out.bits.fz 2
            cases hc2 : fndL s (pre.map (rdA s)) 2
            · rw [hc2] at t1
              refine wpIn_round_L (B := [11]) (S := (fun w' => w'.cell? ⟨w1.heap.size + 1 + 1, 0, none⟩ = some (.slice (some ⟨w1.heap.size + 1, 0, none⟩) 6 6) ∧ VerB w' Bw (verF s) ∧ w'.cell? ⟨Bx, 0, none⟩ = some (.bool owr) ∧ w'.cell? ⟨Bx, 1, none⟩ = some (.int .i64 (ky : Int)) ∧ w'.cell? ⟨Bx, 2, none⟩ = some (.int .i64 (f : Int)) ∧ w'.cell? ⟨Bx, 3, none⟩ = some (.int .i64 onum))) (T := (fun w' => w'.cell? ⟨w1.heap.size + 1, 2, none⟩ = some (.bool false))) (by kernel_rfl) (by kernel_rfl) ⟨⟨c6, hvZ, p0, p1', p2, p3'⟩, t1⟩ (fun hHeld => ?_)
              refine wpAnyL_takeS (i := 0) (v := ?_) rfl (by kernel_rfl) (by kernel_rfl) (by kernel_rfl) (by kernel_rfl) (fun _ _ _ h => h) (Or.inl ⟨by rfl, ?_⟩) (by assumption) ?_
              rotate_left 1
              · intro wz ⟨y0, yv, y1, y2, y3, y4⟩
                go_simp
                all_goals with_reducible rfl
              simp only [Act.put, List.setIfInBounds_toArray, List.set_cons_zero, List.set_cons_succ, List.getElem_toArray, List.getElem_cons_zero]
              refine wpAnyL_takeS (i := 1) (v := ?_) rfl (by kernel_rfl) (by kernel_rfl) (by kernel_rfl) (by kernel_rfl) (fun _ _ _ h => h) (Or.inl ⟨by rfl, ?_⟩) (by assumption) ?_
              rotate_left 1
              · intro wz ⟨y0, yv, y1, y2, y3, y4⟩
                go_simp
                all_goals with_reducible rfl
              simp only [Act.put, List.setIfInBounds_toArray, List.set_cons_zero, List.set_cons_succ, List.getElem_toArray, List.getElem_cons_zero, List.getElem_cons_succ]
              refine wpAnyL_takeS (i := 2) (v := ?_) rfl (by kernel_rfl) (by kernel_rfl) (by kernel_rfl) (by kernel_rfl) (fun _ _ _ h => h) (Or.inl ⟨by rfl, ?_⟩) (by assumption) ?_
              rotate_left 1
              · intro wz ⟨y0, yv, y1, y2, y3, y4⟩
                go_simp
                all_goals with_reducible rfl
              simp only [Act.put, List.setIfInBounds_toArray, List.set_cons_zero, List.set_cons_succ, List.getElem_toArray, List.getElem_cons_zero, List.getElem_cons_succ]
              refine wpAnyL_take [4, 9, 11] (i := 3) (v := ?_) rfl (by kernel_rfl) (by kernel_rfl) (by kernel_rfl) (by kernel_rfl) (fun _ _ _ h => h) (Or.inl ⟨by rfl, ?_⟩) (by assumption) ?_
              rotate_left 1
              · intro wz ⟨⟨y0, yv, y1, y2, y3, y4⟩, t0⟩
                go_simp
                all_goals with_reducible rfl
              simp only [Act.put, List.setIfInBounds_toArray, List.set_cons_zero, List.set_cons_succ, List.getElem_toArray, List.getElem_cons_zero, List.getElem_cons_succ]
              refine wpAnyL_takeS (i := 4) (v := ?_) rfl (by kernel_rfl) (by kernel_rfl) (by kernel_rfl) (by kernel_rfl) (fun _ _ _ h => h) (Or.inl ⟨by rfl, ?_⟩) (by assumption) ?_
              rotate_left 1
              · intro wz ⟨y0, yv, y1, y2, y3, y4⟩
                go_simp
                all_goals with_reducible rfl
              simp only [Act.put, List.setIfInBounds_toArray, List.set_cons_zero, List.set_cons_succ, List.getElem_toArray, List.getElem_cons_zero, List.getElem_cons_succ]
              refine wpAnyL_takeS (i := 5) (v := .agg (verL (verF s)).toArray) rfl (by kernel_rfl) (by kernel_rfl) (by kernel_rfl) (by kernel_rfl) (fun _ _ _ h => h) (yieldsIf_load_mid (by rfl) 104 (.tmp 8) rfl Bw 0 rfl (verL (verF s)) _ (fun w hw => hw.2.1.range) Tryd.underlying104 rfl HSz.out) (by assumption) ?_
              simp only [Act.put, List.setIfInBounds_toArray, List.set_cons_zero, List.set_cons_succ, List.getElem_toArray, List.getElem_cons_zero, List.getElem_cons_succ]
              refine wpAnyL_takeS (i := 6) (v := ?_) rfl (by kernel_rfl) (by kernel_rfl) (by kernel_rfl) (by kernel_rfl) (fun _ _ _ h => h) (Or.inl ⟨by rfl, ?_⟩) (by assumption) ?_
              rotate_left 1
              · intro wz ⟨y0, yv, y1, y2, y3, y4⟩
                go_simp
                all_goals with_reducible rfl
              simp only [Act.put, List.setIfInBounds_toArray, List.set_cons_zero, List.set_cons_succ, List.getElem_toArray, List.getElem_cons_zero, List.getElem_cons_succ]
              refine wpAnyL_ready (rs := [7]) (by kernel_rfl) (by simp) (AllReadyL.cons rfl (fun K hK => ?_) AllReadyL.nil)
              go_simp
              refine (HLs.out Z3.drew).mono ?_
              rintro e Z4 ⟨rfl, hbl⟩
              have HM4 := hideIt (HBl.out _ Z4 _ (HBl.out _ Z3.drew _ HM3.out (below_drew1 _)) hbl)
              obtain ⟨⟨c6', _, _⟩, hvZ', ⟨p0', p1'', p2', p3''⟩, _⟩ := HAt.out Z4 _ HM4.out
              have t1' : Z4.cell? ⟨w1.heap.size + 1, 2, none⟩ = some (.bool (fndL s (pre.map (rdA s)) 2)) := HM4.out.bits.bit 2 (by omega)
              rw [hc2] at t1'
              refine hK.out _ _ ?_ (fun hHeld => ?_)
              · exact ⟨⟨c6', hvZ', p0', p1'', p2', p3''⟩, t1'⟩
              clear hK K
              have t2' := HM4.out.bits.fz 2
              refine wpAnyL_takeS (i := 8) (v := ?_) rfl (by kernel_rfl) (by kernel_rfl) (by kernel_rfl) (by kernel_rfl) (fun _ _ _ h => h) (Or.inl ⟨by rfl, ?_⟩) (by assumption) ?_
              rotate_left 1
              · intro wz ⟨y0, yv, y1, y2, y3, y4⟩
                go_simp
                all_goals with_reducible rfl
              simp only [Act.put, List.setIfInBounds_toArray, List.set_cons_zero, List.set_cons_succ, List.getElem_toArray, List.getElem_cons_zero, List.getElem_cons_succ]
              refine wpAnyL_takeS (i := 9) (v := ?_) rfl (by kernel_rfl) (by kernel_rfl) (by kernel_rfl) (by kernel_rfl) (fun _ _ _ h => h) (Or.inl ⟨by rfl, ?_⟩) (by assumption) ?_
              rotate_left 1
              · intro wz ⟨y0, yv, y1, y2, y3, y4⟩
                go_simp
                all_goals with_reducible rfl
              simp only [Act.put, List.setIfInBounds_toArray, List.set_cons_zero, List.set_cons_succ, List.getElem_toArray, List.getElem_cons_zero, List.getElem_cons_succ]
              refine wpAnyL_takeS (i := 10) (v := ?_) rfl (by kernel_rfl) (by kernel_rfl) (by kernel_rfl) (by kernel_rfl) (fun _ _ _ h => h) (Or.inl ⟨by rfl, ?_⟩) (by assumption) ?_
              rotate_left 1
              · intro wz ⟨y0, yv, y1, y2, y3, y4⟩
                go_simp
                all_goals with_reducible rfl
              simp only [Act.put, List.setIfInBounds_toArray, List.set_cons_zero, List.set_cons_succ, List.getElem_toArray, List.getElem_cons_zero, List.getElem_cons_succ]
              refine wpAnyL_ready (rs := [11]) (by kernel_rfl) (by simp) (AllReadyL.last rfl (by kernel_rfl) (fun K hK => ?_) AllReadyL.nil)
              go_simp
              refine hK.out _ _ ?_ (fun hHeld => ?_)
              · exact ⟨(World.cell?_setCell_other _ _ _ _ (blkNe (by omega))).trans c6', hvZ'.other (p := ⟨w1.heap.size + 1, 2, none⟩) hnw _, (World.cell?_setCell_other _ _ _ _ (blkNe (hnx.symm))).trans p0', (World.cell?_setCell_other _ _ _ _ (blkNe (hnx.symm))).trans p1'', (World.cell?_setCell_other _ _ _ _ (blkNe (hnx.symm))).trans p2', (World.cell?_setCell_other _ _ _ _ (blkNe (hnx.symm))).trans p3''⟩
              clear hK K
              refine wpAnyL_done (by kernel_rfl) ?_ _
              dsimp only [noPO]
              have HM5 := hideIt (HM4.out.put (m := 2) (by omega) (!lastB (verF s) ⟨owr, (ky : Int), (f : Int), onum⟩) (by omega) (by omega) hnx)
              have HE := hideIt (HFi.out _ _ HM5.out (fun k hk => by
                by_cases e2 : k = 2
                · subst e2
                  rw [if_pos rfl, hc2, HBt.out]; rfl
                · rw [if_neg e2]
                  by_cases e1 : k = 1
                  · subst e1; rfl
                  · rw [if_neg e1, if_neg e1, if_neg e2, Bool.or_false]))
              gi_wp2
              exact HE.out
            · rw [hc2] at t1
              refine wpIn_round_L (B := [11]) (S := (fun w' => w'.cell? ⟨w1.heap.size + 1 + 1, 0, none⟩ = some (.slice (some ⟨w1.heap.size + 1, 0, none⟩) 6 6) ∧ VerB w' Bw (verF s) ∧ w'.cell? ⟨Bx, 0, none⟩ = some (.bool owr) ∧ w'.cell? ⟨Bx, 1, none⟩ = some (.int .i64 (ky : Int)) ∧ w'.cell? ⟨Bx, 2, none⟩ = some (.int .i64 (f : Int)) ∧ w'.cell? ⟨Bx, 3, none⟩ = some (.int .i64 onum))) (T := (fun w' => w'.cell? ⟨w1.heap.size + 1, 2, none⟩ = some (.bool true))) (by kernel_rfl) (by kernel_rfl) ⟨⟨c6, hvZ, p0, p1', p2, p3'⟩, t1⟩ (fun hHeld => ?_)
              refine wpAnyL_takeS (i := 0) (v := ?_) rfl (by kernel_rfl) (by kernel_rfl) (by kernel_rfl) (by kernel_rfl) (fun _ _ _ h => h) (Or.inl ⟨by rfl, ?_⟩) (by assumption) ?_
              rotate_left 1
              · intro wz ⟨y0, yv, y1, y2, y3, y4⟩
                go_simp
                all_goals with_reducible rfl
              simp only [Act.put, List.setIfInBounds_toArray, List.set_cons_zero, List.set_cons_succ, List.getElem_toArray, List.getElem_cons_zero]
              refine wpAnyL_takeS (i := 1) (v := ?_) rfl (by kernel_rfl) (by kernel_rfl) (by kernel_rfl) (by kernel_rfl) (fun _ _ _ h => h) (Or.inl ⟨by rfl, ?_⟩) (by assumption) ?_
              rotate_left 1
              · intro wz ⟨y0, yv, y1, y2, y3, y4⟩
                go_simp
                all_goals with_reducible rfl
              simp only [Act.put, List.setIfInBounds_toArray, List.set_cons_zero, List.set_cons_succ, List.getElem_toArray, List.getElem_cons_zero, List.getElem_cons_succ]
              refine wpAnyL_takeS (i := 2) (v := ?_) rfl (by kernel_rfl) (by kernel_rfl) (by kernel_rfl) (by kernel_rfl) (fun _ _ _ h => h) (Or.inl ⟨by rfl, ?_⟩) (by assumption) ?_
              rotate_left 1
              · intro wz ⟨y0, yv, y1, y2, y3, y4⟩
                go_simp
                all_goals with_reducible rfl
              simp only [Act.put, List.setIfInBounds_toArray, List.set_cons_zero, List.set_cons_succ, List.getElem_toArray, List.getElem_cons_zero, List.getElem_cons_succ]
              refine wpAnyL_take [4, 9, 11] (i := 3) (v := ?_) rfl (by kernel_rfl) (by kernel_rfl) (by kernel_rfl) (by kernel_rfl) (fun _ _ _ h => h) (Or.inl ⟨by rfl, ?_⟩) (by assumption) ?_
              rotate_left 1
              · intro wz ⟨⟨y0, yv, y1, y2, y3, y4⟩, t0⟩
                go_simp
                all_goals with_reducible rfl
              simp only [Act.put, List.setIfInBounds_toArray, List.set_cons_zero, List.set_cons_succ, List.getElem_toArray, List.getElem_cons_zero, List.getElem_cons_succ]
              refine wpAnyL_takeS (i := 4) (v := ?_) rfl (by kernel_rfl) (by kernel_rfl) (by kernel_rfl) (by kernel_rfl) (fun _ _ _ h => h) (Or.inl ⟨by rfl, ?_⟩) (by assumption) ?_
              rotate_left 1
              · intro wz ⟨y0, yv, y1, y2, y3, y4⟩
                go_simp
                all_goals with_reducible rfl
              simp only [Act.put, List.setIfInBounds_toArray, List.set_cons_zero, List.set_cons_succ, List.getElem_toArray, List.getElem_cons_zero, List.getElem_cons_succ]
              refine wpAnyL_takeS (i := 5) (v := undef) rfl (by kernel_rfl) (by kernel_rfl) (by kernel_rfl) (by kernel_rfl) (fun _ _ _ h => h) (Or.inr ⟨by rfl, rfl⟩) (by assumption) ?_
              simp only [Act.put, List.setIfInBounds_toArray, List.set_cons_zero, List.set_cons_succ, List.getElem_toArray, List.getElem_cons_zero, List.getElem_cons_succ]
              refine wpAnyL_takeS (i := 6) (v := undef) rfl (by kernel_rfl) (by kernel_rfl) (by kernel_rfl) (by kernel_rfl) (fun _ _ _ h => h) (Or.inr ⟨by rfl, rfl⟩) (by assumption) ?_
              simp only [Act.put, List.setIfInBounds_toArray, List.set_cons_zero, List.set_cons_succ, List.getElem_toArray, List.getElem_cons_zero, List.getElem_cons_succ]
              refine wpAnyL_takeS (i := 7) (v := undef) rfl (by kernel_rfl) (by kernel_rfl) (by kernel_rfl) (by kernel_rfl) (fun _ _ _ h => h) (Or.inr ⟨by rfl, rfl⟩) (by assumption) ?_
              simp only [Act.put, List.setIfInBounds_toArray, List.set_cons_zero, List.set_cons_succ, List.getElem_toArray, List.getElem_cons_zero, List.getElem_cons_succ]
              refine wpAnyL_takeS (i := 8) (v := undef) rfl (by kernel_rfl) (by kernel_rfl) (by kernel_rfl) (by kernel_rfl) (fun _ _ _ h => h) (Or.inr ⟨by rfl, rfl⟩) (by assumption) ?_
              simp only [Act.put, List.setIfInBounds_toArray, List.set_cons_zero, List.set_cons_succ, List.getElem_toArray, List.getElem_cons_zero, List.getElem_cons_succ]
              refine wpAnyL_takeS (i := 9) (v := ?_) rfl (by kernel_rfl) (by kernel_rfl) (by kernel_rfl) (by kernel_rfl) (fun _ _ _ h => h) (Or.inl ⟨by rfl, ?_⟩) (by assumption) ?_
              rotate_left 1
              · intro wz ⟨y0, yv, y1, y2, y3, y4⟩
                go_simp
                all_goals with_reducible rfl
              simp only [Act.put, List.setIfInBounds_toArray, List.set_cons_zero, List.set_cons_succ, List.getElem_toArray, List.getElem_cons_zero, List.getElem_cons_succ]
              refine wpAnyL_takeS (i := 10) (v := ?_) rfl (by kernel_rfl) (by kernel_rfl) (by kernel_rfl) (by kernel_rfl) (fun _ _ _ h => h) (Or.inl ⟨by rfl, ?_⟩) (by assumption) ?_
              rotate_left 1
              · intro wz ⟨y0, yv, y1, y2, y3, y4⟩
                go_simp
                all_goals with_reducible rfl
              simp only [Act.put, List.setIfInBounds_toArray, List.set_cons_zero, List.set_cons_succ, List.getElem_toArray, List.getElem_cons_zero, List.getElem_cons_succ]
              refine wpAnyL_ready (rs := [11]) (by kernel_rfl) (by simp) (AllReadyL.last rfl (by kernel_rfl) (fun K hK => ?_) AllReadyL.nil)
              go_simp
              refine hK.out _ _ ?_ (fun hHeld => ?_)
              · exact ⟨(World.cell?_setCell_other _ _ _ _ (blkNe (by omega))).trans c6, hvZ.other (p := ⟨w1.heap.size + 1, 2, none⟩) hnw _, (World.cell?_setCell_other _ _ _ _ (blkNe (hnx.symm))).trans p0, (World.cell?_setCell_other _ _ _ _ (blkNe (hnx.symm))).trans p1', (World.cell?_setCell_other _ _ _ _ (blkNe (hnx.symm))).trans p2, (World.cell?_setCell_other _ _ _ _ (blkNe (hnx.symm))).trans p3'⟩
              clear hK K
              refine wpAnyL_done (by kernel_rfl) ?_ _
              dsimp only [noPO]
              have HM5 := hideIt (HBl.out _ _ _ (HM3.out.put (m := 2) (by omega) true (by omega) (by omega) hnx) (below_drew1 _))
              have HE := hideIt (HFi.out _ _ HM5.out (fun k hk => by
                by_cases e2 : k = 2
                · subst e2
                  rw [if_pos rfl, hc2]; rfl
                · rw [if_neg e2]
                  by_cases e1 : k = 1
                  · subst e1; rfl
                  · rw [if_neg e1, if_neg e1, if_neg e2, Bool.or_false]))
              gi_wp2
              exact HE.out
        --ENDBODY
      case done =>
        --DONE
        rintro D ys W hD hS ⟨hE, hk, hb⟩ hKd
        rw [rdAll hS] at hE
        have hsW := hb.size
        have HM0 : Hid (FinS W w w1.heap.size s.txs.length (.slice a1 s.txs.length p1) (.slice a2 s.txs.length p2) (.slice a3 s.txs.length p3) (ovB s) (seB s) (anB s) D (fndL s (rdI s))) := ⟨hE, (World.cell?_of_block (a := ⟨w1.heap.size + 1 + 1, 0, none⟩) (hk (w1.heap.size + 1 + 1) (World.block_lt_of_cell? W5 _ k6) (by omega))).trans k6, (hk w1.heap.size (lt_of_heap hbe5) (by omega)).trans hbe5, HX1.out.keep hk, HX2.out.keep hk, HX3.out.keep hk, hKd, by omega, hw1, HB5.out.trans hb⟩
        clear hE hk hb hKd HX1 HX2 HX3 hbe5 k6 k0 k1 k2 f0 f1 hfc5 hfq5 HV5 HBf HRd
        have HTo := hideIt (together_any s.txs.length (by omega) (ovB s) (seB s) _ _ W HM0.out.x1.readM HM0.out.x2.readM)
        obtain ⟨y0, y1, y2, y3⟩ := HM0.out.cells
        go_wp2_with fail
        refine HTo.out.mono ?_
        rintro e V1 ⟨Bb, rbb, rfl, mb, hbb⟩
        have HM1 := hideIt (HM0.out.below hbb)
        have HXb := hideIt (mb.apart (g := w1.heap.size + 1) (HM0.out.bits.lt))
        clear HTo mb hbb y0 y1 y2 y3 HM0
        go_upto_region 13 with fail
        refine wp_region_held_drew (S := (fun w' => w'.cell? ⟨w1.heap.size + 1 + 1, 0, none⟩ = some (.slice (some ⟨w1.heap.size + 1, 0, none⟩) 6 6) ∧ w'.cell? ⟨w1.heap.size, 0, none⟩ = some (.slice a1 s.txs.length p1) ∧ w'.cell? ⟨w1.heap.size, 1, none⟩ = some (.slice a2 s.txs.length p2) ∧ w'.cell? ⟨w1.heap.size, 2, none⟩ = some (.slice a3 s.txs.length p3))) (by kernel_rfl) HM1.out.cells (fun hHeld => ?_)
        refine wpAnyH_take (i := 0) (v := ?_) rfl (by kernel_rfl) (by kernel_rfl) (by kernel_rfl) (fun _ _ _ h => h) (Or.inl ⟨by rfl, ?_⟩) (by assumption) ?_
        rotate_left 1
        · intro wz sb
          obtain ⟨y0, y1, y2, y3⟩ := sb
          go_simp
          all_goals with_reducible rfl
        simp only [Act.put, List.setIfInBounds_toArray, List.set_cons_zero, List.set_cons_succ, List.getElem_toArray, List.getElem_cons_zero]
        refine wpAnyH_take (i := 1) (v := ?_) rfl (by kernel_rfl) (by kernel_rfl) (by kernel_rfl) (fun _ _ _ h => h) (Or.inl ⟨by rfl, ?_⟩) (by assumption) ?_
        rotate_left 1
        · intro wz sb
          obtain ⟨y0, y1, y2, y3⟩ := sb
          go_simp
          all_goals with_reducible rfl
        simp only [Act.put, List.setIfInBounds_toArray, List.set_cons_zero, List.set_cons_succ, List.getElem_toArray, List.getElem_cons_zero, List.getElem_cons_succ]
        refine wpAnyH_take (i := 2) (v := ?_) rfl (by kernel_rfl) (by kernel_rfl) (by kernel_rfl) (fun _ _ _ h => h) (Or.inl ⟨by rfl, ?_⟩) (by assumption) ?_
        rotate_left 1
        · intro wz sb
          obtain ⟨y0, y1, y2, y3⟩ := sb
          go_simp
          all_goals with_reducible rfl
        simp only [Act.put, List.setIfInBounds_toArray, List.set_cons_zero, List.set_cons_succ, List.getElem_toArray, List.getElem_cons_zero, List.getElem_cons_succ]
        have HM1d := hideIt (HM1.out.below (below_drew1 V1))
        refine wpAnyH_ready (rs := [3]) (by kernel_rfl) (by simp) (AllReadyH.cons rfl (fun K hK => ?_) AllReadyH.nil)
        go_simp
        refine (goesRound_any s.txs.length (by omega) (ovB s) _ V1.drew HM1d.out.x1.readM).mono ?_
        rintro e V2 ⟨rfl, hbc⟩
        have HM1dn3 := hideIt (HM1d.out.below hbc)
        have HXb := hideIt ((HXb.out.below (below_drew1 V1)).below hbc)
        refine hK.out _ _ ?_ (fun hHeld => ?_)
        · exact HM1dn3.out.cells
        clear hK K
        refine wpAnyH_take (i := 4) (v := ?_) rfl (by kernel_rfl) (by kernel_rfl) (by kernel_rfl) (fun _ _ _ h => h) (Or.inl ⟨by rfl, ?_⟩) (by assumption) ?_
        rotate_left 1
        · intro wz sb
          obtain ⟨y0, y1, y2, y3⟩ := sb
          go_simp
          all_goals with_reducible rfl
        simp only [Act.put, List.setIfInBounds_toArray, List.set_cons_zero, List.set_cons_succ, List.getElem_toArray, List.getElem_cons_zero, List.getElem_cons_succ]
        have bt := HM1dn3.out.bits.bit 0 (by omega)
        have bz := HM1dn3.out.bits.fz 0
        have HM3 := hideIt (HM1dn3.out.put (m := 0) (by omega) (rndB (ovB s) s.txs.length))
        refine wpAnyH_ready (rs := [5]) (by kernel_rfl) (by simp) (AllReadyH.cons rfl (fun K hK => ?_) AllReadyH.nil)
        go_simp
        refine hK.out _ _ ?_ (fun hHeld => ?_)
        · exact HM3.out.cells
        clear hK K
        have HXb := hideIt (HXb.out.set 0 (.bool (rndB (ovB s) s.txs.length)))
        refine wpAnyH_done (by kernel_rfl) ?_ _
        clear bt bz hHeld
        go_upto_region 14 with fail
        generalize V2.setCell _ _ = V3 at HM3 HXb ⊢
        refine wp_region_held_drew (S := (fun w' => w'.cell? ⟨w1.heap.size + 1 + 1, 0, none⟩ = some (.slice (some ⟨w1.heap.size + 1, 0, none⟩) 6 6) ∧ w'.cell? ⟨w1.heap.size, 0, none⟩ = some (.slice a1 s.txs.length p1) ∧ w'.cell? ⟨w1.heap.size, 1, none⟩ = some (.slice a2 s.txs.length p2) ∧ w'.cell? ⟨w1.heap.size, 2, none⟩ = some (.slice a3 s.txs.length p3))) (by kernel_rfl) HM3.out.cells (fun hHeld => ?_)
        refine wpAnyH_take (i := 0) (v := ?_) rfl (by kernel_rfl) (by kernel_rfl) (by kernel_rfl) (fun _ _ _ h => h) (Or.inl ⟨by rfl, ?_⟩) (by assumption) ?_
        rotate_left 1
        · intro wz sb
          obtain ⟨y0, y1, y2, y3⟩ := sb
          go_simp
          all_goals with_reducible rfl
        simp only [Act.put, List.setIfInBounds_toArray, List.set_cons_zero, List.set_cons_succ, List.getElem_toArray, List.getElem_cons_zero]
        refine wpAnyH_take (i := 1) (v := ?_) rfl (by kernel_rfl) (by kernel_rfl) (by kernel_rfl) (fun _ _ _ h => h) (Or.inl ⟨by rfl, ?_⟩) (by assumption) ?_
        rotate_left 1
        · intro wz sb
          obtain ⟨y0, y1, y2, y3⟩ := sb
          go_simp
          all_goals with_reducible rfl
        simp only [Act.put, List.setIfInBounds_toArray, List.set_cons_zero, List.set_cons_succ, List.getElem_toArray, List.getElem_cons_zero, List.getElem_cons_succ]
        have HM3d := hideIt (HM3.out.below (below_drew1 V3))
        refine wpAnyH_ready (rs := [2]) (by kernel_rfl) (by simp) (AllReadyH.cons rfl (fun K hK => ?_) AllReadyH.nil)
        go_simp
        refine (goesRound_any s.txs.length (by omega) (orR (ovB s) (seB s)) _ V3.drew (HXb.out.below (below_drew1 V3)).readM).mono ?_
        rintro e V4 ⟨rfl, hbc⟩
        have HM3dn2 := hideIt (HM3d.out.below hbc)
        have HXb := hideIt ((HXb.out.below (below_drew1 V3)).below hbc)
        refine hK.out _ _ ?_ (fun hHeld => ?_)
        · exact HM3dn2.out.cells
        clear hK K
        refine wpAnyH_take (i := 3) (v := ?_) rfl (by kernel_rfl) (by kernel_rfl) (by kernel_rfl) (fun _ _ _ h => h) (Or.inl ⟨by rfl, ?_⟩) (by assumption) ?_
        rotate_left 1
        · intro wz sb
          obtain ⟨y0, y1, y2, y3⟩ := sb
          go_simp
          all_goals with_reducible rfl
        simp only [Act.put, List.setIfInBounds_toArray, List.set_cons_zero, List.set_cons_succ, List.getElem_toArray, List.getElem_cons_zero, List.getElem_cons_succ]
        have bt := HM3dn2.out.bits.bit 3 (by omega)
        have bz := HM3dn2.out.bits.fz 3
        have HM5 := hideIt (HM3dn2.out.put (m := 3) (by omega) (rndB (orR (ovB s) (seB s)) s.txs.length))
        refine wpAnyH_ready (rs := [4]) (by kernel_rfl) (by simp) (AllReadyH.cons rfl (fun K hK => ?_) AllReadyH.nil)
        go_simp
        refine hK.out _ _ ?_ (fun hHeld => ?_)
        · exact HM5.out.cells
        clear hK K
        have HXb := hideIt (HXb.out.set 3 (.bool (rndB (orR (ovB s) (seB s)) s.txs.length)))
        refine wpAnyH_done (by kernel_rfl) ?_ _
        clear bt bz hHeld
        go_upto_region 15 with fail
        generalize V4.setCell _ _ = V5 at HM5 HXb ⊢
        refine wp_region_held_drew (S := (fun w' => w'.cell? ⟨w1.heap.size + 1 + 1, 0, none⟩ = some (.slice (some ⟨w1.heap.size + 1, 0, none⟩) 6 6) ∧ w'.cell? ⟨w1.heap.size, 0, none⟩ = some (.slice a1 s.txs.length p1) ∧ w'.cell? ⟨w1.heap.size, 1, none⟩ = some (.slice a2 s.txs.length p2) ∧ w'.cell? ⟨w1.heap.size, 2, none⟩ = some (.slice a3 s.txs.length p3))) (by kernel_rfl) HM5.out.cells (fun hHeld => ?_)
        refine wpAnyH_take (i := 0) (v := ?_) rfl (by kernel_rfl) (by kernel_rfl) (by kernel_rfl) (fun _ _ _ h => h) (Or.inl ⟨by rfl, ?_⟩) (by assumption) ?_
        rotate_left 1
        · intro wz sb
          obtain ⟨y0, y1, y2, y3⟩ := sb
          go_simp
          all_goals with_reducible rfl
        simp only [Act.put, List.setIfInBounds_toArray, List.set_cons_zero, List.set_cons_succ, List.getElem_toArray, List.getElem_cons_zero]
        refine wpAnyH_take (i := 1) (v := ?_) rfl (by kernel_rfl) (by kernel_rfl) (by kernel_rfl) (fun _ _ _ h => h) (Or.inl ⟨by rfl, ?_⟩) (by assumption) ?_
        rotate_left 1
        · intro wz sb
          obtain ⟨y0, y1, y2, y3⟩ := sb
          go_simp
          all_goals with_reducible rfl
        simp only [Act.put, List.setIfInBounds_toArray, List.set_cons_zero, List.set_cons_succ, List.getElem_toArray, List.getElem_cons_zero, List.getElem_cons_succ]
        refine wpAnyH_take (i := 2) (v := ?_) rfl (by kernel_rfl) (by kernel_rfl) (by kernel_rfl) (fun _ _ _ h => h) (Or.inl ⟨by rfl, ?_⟩) (by assumption) ?_
        rotate_left 1
        · intro wz sb
          obtain ⟨y0, y1, y2, y3⟩ := sb
          go_simp
          all_goals with_reducible rfl
        simp only [Act.put, List.setIfInBounds_toArray, List.set_cons_zero, List.set_cons_succ, List.getElem_toArray, List.getElem_cons_zero, List.getElem_cons_succ]
        refine wpAnyH_take (i := 3) (v := ?_) rfl (by kernel_rfl) (by kernel_rfl) (by kernel_rfl) (fun _ _ _ h => h) (Or.inl ⟨by rfl, ?_⟩) (by assumption) ?_
        rotate_left 1
        · intro wz sb
          obtain ⟨y0, y1, y2, y3⟩ := sb
          go_simp
          all_goals with_reducible rfl
        simp only [Act.put, List.setIfInBounds_toArray, List.set_cons_zero, List.set_cons_succ, List.getElem_toArray, List.getElem_cons_zero, List.getElem_cons_succ]
        have HM5d := hideIt (HM5.out.below (below_drew1 V5))
        refine wpAnyH_ready (rs := [4]) (by kernel_rfl) (by simp) (AllReadyH.cons rfl (fun K hK => ?_) AllReadyH.nil)
        go_simp
        refine (leadsBack_any s.txs.length (by omega) (anB s) (orR (ovB s) (seB s)) _ _ V5.drew HM5d.out.x3.readM (HXb.out.below (below_drew1 V5)).readM).mono ?_
        rintro e V6 ⟨rfl, hbc⟩
        have HM5dn4 := hideIt (HM5d.out.below hbc)
        have HXb := hideIt ((HXb.out.below (below_drew1 V5)).below hbc)
        refine hK.out _ _ ?_ (fun hHeld => ?_)
        · exact HM5dn4.out.cells
        clear hK K
        refine wpAnyH_take (i := 5) (v := ?_) rfl (by kernel_rfl) (by kernel_rfl) (by kernel_rfl) (fun _ _ _ h => h) (Or.inl ⟨by rfl, ?_⟩) (by assumption) ?_
        rotate_left 1
        · intro wz sb
          obtain ⟨y0, y1, y2, y3⟩ := sb
          go_simp
          all_goals with_reducible rfl
        simp only [Act.put, List.setIfInBounds_toArray, List.set_cons_zero, List.set_cons_succ, List.getElem_toArray, List.getElem_cons_zero, List.getElem_cons_succ]
        have bt := HM5dn4.out.bits.bit 4 (by omega)
        have bz := HM5dn4.out.bits.fz 4
        have HM7 := hideIt (HM5dn4.out.put (m := 4) (by omega) (ldbB (anB s) (orR (ovB s) (seB s)) s.txs.length))
        refine wpAnyH_ready (rs := [6]) (by kernel_rfl) (by simp) (AllReadyH.cons rfl (fun K hK => ?_) AllReadyH.nil)
        go_simp
        refine hK.out _ _ ?_ (fun hHeld => ?_)
        · exact HM7.out.cells
        clear hK K
        have HXb := hideIt (HXb.out.set 4 (.bool (ldbB (anB s) (orR (ovB s) (seB s)) s.txs.length)))
        refine wpAnyH_done (by kernel_rfl) ?_ _
        clear bt bz hHeld
        go_upto_region 16 with fail
        generalize V6.setCell _ _ = V7 at HM7 HXb ⊢
        refine wp_region_held_drew (S := (fun w' => w'.cell? ⟨w1.heap.size + 1 + 1, 0, none⟩ = some (.slice (some ⟨w1.heap.size + 1, 0, none⟩) 6 6) ∧ w'.cell? ⟨w1.heap.size, 0, none⟩ = some (.slice a1 s.txs.length p1) ∧ w'.cell? ⟨w1.heap.size, 1, none⟩ = some (.slice a2 s.txs.length p2) ∧ w'.cell? ⟨w1.heap.size, 2, none⟩ = some (.slice a3 s.txs.length p3))) (by kernel_rfl) HM7.out.cells (fun hHeld => ?_)
        refine wpAnyH_take (i := 0) (v := ?_) rfl (by kernel_rfl) (by kernel_rfl) (by kernel_rfl) (fun _ _ _ h => h) (Or.inl ⟨by rfl, ?_⟩) (by assumption) ?_
        rotate_left 1
        · intro wz sb
          obtain ⟨y0, y1, y2, y3⟩ := sb
          go_simp
          all_goals with_reducible rfl
        simp only [Act.put, List.setIfInBounds_toArray, List.set_cons_zero, List.set_cons_succ, List.getElem_toArray, List.getElem_cons_zero]
        refine wpAnyH_take (i := 1) (v := ?_) rfl (by kernel_rfl) (by kernel_rfl) (by kernel_rfl) (fun _ _ _ h => h) (Or.inl ⟨by rfl, ?_⟩) (by assumption) ?_
        rotate_left 1
        · intro wz sb
          obtain ⟨y0, y1, y2, y3⟩ := sb
          go_simp
          all_goals with_reducible rfl
        simp only [Act.put, List.setIfInBounds_toArray, List.set_cons_zero, List.set_cons_succ, List.getElem_toArray, List.getElem_cons_zero, List.getElem_cons_succ]
        refine wpAnyH_take (i := 2) (v := ?_) rfl (by kernel_rfl) (by kernel_rfl) (by kernel_rfl) (fun _ _ _ h => h) (Or.inl ⟨by rfl, ?_⟩) (by assumption) ?_
        rotate_left 1
        · intro wz sb
          obtain ⟨y0, y1, y2, y3⟩ := sb
          go_simp
          all_goals with_reducible rfl
        simp only [Act.put, List.setIfInBounds_toArray, List.set_cons_zero, List.set_cons_succ, List.getElem_toArray, List.getElem_cons_zero, List.getElem_cons_succ]
        refine wpAnyH_take (i := 3) (v := ?_) rfl (by kernel_rfl) (by kernel_rfl) (by kernel_rfl) (fun _ _ _ h => h) (Or.inl ⟨by rfl, ?_⟩) (by assumption) ?_
        rotate_left 1
        · intro wz sb
          obtain ⟨y0, y1, y2, y3⟩ := sb
          go_simp
          all_goals with_reducible rfl
        simp only [Act.put, List.setIfInBounds_toArray, List.set_cons_zero, List.set_cons_succ, List.getElem_toArray, List.getElem_cons_zero, List.getElem_cons_succ]
        refine wpAnyH_take (i := 4) (v := ?_) rfl (by kernel_rfl) (by kernel_rfl) (by kernel_rfl) (fun _ _ _ h => h) (Or.inl ⟨by rfl, ?_⟩) (by assumption) ?_
        rotate_left 1
        · intro wz sb
          obtain ⟨y0, y1, y2, y3⟩ := sb
          go_simp
          all_goals with_reducible rfl
        simp only [Act.put, List.setIfInBounds_toArray, List.set_cons_zero, List.set_cons_succ, List.getElem_toArray, List.getElem_cons_zero, List.getElem_cons_succ]
        refine wpAnyH_take (i := 5) (v := ?_) rfl (by kernel_rfl) (by kernel_rfl) (by kernel_rfl) (fun _ _ _ h => h) (Or.inl ⟨by rfl, ?_⟩) (by assumption) ?_
        rotate_left 1
        · intro wz sb
          obtain ⟨y0, y1, y2, y3⟩ := sb
          go_simp
          all_goals with_reducible rfl
        simp only [Act.put, List.setIfInBounds_toArray, List.set_cons_zero, List.set_cons_succ, List.getElem_toArray, List.getElem_cons_zero, List.getElem_cons_succ]
        have HM7d := hideIt (HM7.out.below (below_drew1 V7))
        refine wpAnyH_ready (rs := [6]) (by kernel_rfl) (by simp) (AllReadyH.cons rfl (fun K hK => ?_) AllReadyH.nil)
        go_simp
        refine (together_any s.txs.length (by omega) (orR (ovB s) (seB s)) (anB s) _ _ V7.drew (HXb.out.below (below_drew1 V7)).readM HM7d.out.x3.readM).mono ?_
        rintro e V8 ⟨Bg, rg, rfl, mg, hbc⟩
        have HM7dn6 := hideIt (HM7d.out.below hbc)
        have HXb := hideIt ((HXb.out.below (below_drew1 V7)).below hbc)
        refine hK.out _ _ ?_ (fun hHeld => ?_)
        · exact HM7dn6.out.cells
        clear hK K
        refine wpAnyH_ready (rs := [7]) (by kernel_rfl) (by simp) (AllReadyH.cons rfl (fun K hK => ?_) AllReadyH.nil)
        go_simp
        refine (leadsBack_any s.txs.length (by omega) (anB s) (edB s) _ _ V8 HM7dn6.out.x3.readM mg.readM).mono ?_
        rintro e V9 ⟨rfl, hbd⟩
        have HM7dn6n7 := hideIt (HM7dn6.out.below hbd)
        have HXb := hideIt (HXb.out.below (by exact hbd))
        refine hK.out _ _ ?_ (fun hHeld => ?_)
        · exact HM7dn6n7.out.cells
        clear hK K
        refine wpAnyH_take (i := 8) (v := ?_) rfl (by kernel_rfl) (by kernel_rfl) (by kernel_rfl) (fun _ _ _ h => h) (Or.inl ⟨by rfl, ?_⟩) (by assumption) ?_
        rotate_left 1
        · intro wz sb
          obtain ⟨y0, y1, y2, y3⟩ := sb
          go_simp
          all_goals with_reducible rfl
        simp only [Act.put, List.setIfInBounds_toArray, List.set_cons_zero, List.set_cons_succ, List.getElem_toArray, List.getElem_cons_zero, List.getElem_cons_succ]
        have bt := HM7dn6n7.out.bits.bit 5 (by omega)
        have bz := HM7dn6n7.out.bits.fz 5
        have HM10 := hideIt (HM7dn6n7.out.put (m := 5) (by omega) (ldbB (anB s) (edB s) s.txs.length))
        refine wpAnyH_ready (rs := [9]) (by kernel_rfl) (by simp) (AllReadyH.cons rfl (fun K hK => ?_) AllReadyH.nil)
        go_simp
        refine hK.out _ _ ?_ (fun hHeld => ?_)
        · exact HM10.out.cells
        clear hK K
        have HXb := hideIt (HXb.out.set 5 (.bool (ldbB (anB s) (edB s) s.txs.length)))
        refine wpAnyH_done (by kernel_rfl) ?_ _
        clear bt bz hHeld
        go_upto_region 17 with fail
        generalize V9.setCell _ _ = V10 at HM10 HXb ⊢
        obtain ⟨y0, _, _, _⟩ := HM10.out.cells
        go_wp2
        refine ⟨by simp, .inl ⟨_, _, rfl, run_takeDeferred HM10.out.dfr, ?_⟩⟩
        refine ⟨_, results_tmp2 rfl _ _ _, ?_⟩
        refine ⟨_, by rw [hf]; rfl, fun _ => ⟨w1.heap.size + 1, rfl, ?_⟩, fun h0 => absurd hf h0, HM10.out.bel.trans (belowK_b (w := w) (Nat.le_refl _) V10 D _ _ (by have := HM10.out.far; have := HM10.out.lo; omega) HM10.out.dfr rfl rfl)⟩
        refine (HM10.out.bits.block (World.putObj_heap_other (by have := HM10.out.far; omega))).same fun k hk => ?_
        unfold fndB fndL
        match k, hk with
        | 0, _ => rfl
        | 1, _ => rfl
        | 2, _ => rfl
        | 3, _ => rfl
        | 4, _ => rfl
        | 5, _ => rfl
        --ENDDONE
      case stop =>
        rintro D c pre W _ _ h _
        exact h.elim
  · obtain rfl := (hN hf).1
    obtain rfl := (hN hf).2.1
    obtain rfl := (hN hf).2.2
    have HBE := hideIt (belA HB1.out (.cells #[.slice none 0 0, .slice none 0 0, .slice none 0 0] 58))
    clear hR hN d0 d1
    rw [told_ne hf]
    go_wp2
    refine ⟨_, results_tmp2 rfl _ _ _, ?_⟩
    exact ⟨_, by rw [told_ne hf]; rfl, fun h0 => absurd h0 hf, fun _ => rfl, HBE.out⟩
end Go.Proofs.YtaopigjhdkdklaaDoor
