/-
  The program's Serial, walked.
-/
import Derived.Test.YtodanhjookgbeaaIaW
import Derived.Test.YtodanhjookgbeaaDlW
namespace Go.Proofs.Ytodanhjookgbeaa
open Go.RowKit

set_option maxRecDepth 100000 in
theorem ser1_any (s : ISt) (a b : Option Addr) (ca cb Bc q i : Nat) (w : World) (h : StyQ w a ca b cb s) (hc : w.cell? ⟨Bc, 0, none⟩ = some (.func (.func 27) #[] #[.pointer (some ⟨q, 0, none⟩)])) (hq : w.cell? ⟨q, 0, none⟩ = some (.slice a s.txs.length ca)) (hi : i < s.txs.length) :
    Calls Try.prog 21 #[.int .i64 (i : Int), .pointer (some ⟨Bc, 0, none⟩)] w fun e w' => e = .returned (.bool (!comI s i)) ∧ w' = w := by
  have HC := hideIt (commits_any s a b ca cb q i w h hq hi)
  clear h hq
  go_enter Try.func21, Try.ntmps21
  go_wp2_with fail
  refine HC.out.mono ?_
  rintro e w1 ⟨rfl, rfl⟩
  go_wp2
  go_ret
  exact ⟨rfl, rfl⟩
/-- All edges together. -/
def edB (s : ISt) : Nat → Nat → Bool := orR (orR (ovB s) (seB s)) (anB s)
def serR (s : ISt) : List (List Bool) := matN s.txs.length (edB s)
/-- What Serial tells: an error, or those that commit, in order. -/
def serG (s : ISt) : Int := if fltI s = 0 then oG (serR s) else fltI s
def serV (s : ISt) : List Int := if serG s = 0 then (natI (oL (serR s))).filter (comI s) else []
def SerTold (s : ISt) (w : World) (e : Ending) (w' : World) : Prop :=
  ∃ v, e = .returned (.tuple #[v, toldV (serG s)]) ∧ HasI w' v (serV s) ∧ Below w.heap.size w w'

set_option maxRecDepth 100000 in
set_option maxHeartbeats 4000000 in
theorem serial_any (s : ISt) (a b : Option Addr) (ca cb : Nat) (w : World) (h : StyQ w a ca b cb s) :
    Calls Try.prog 7 #[.agg #[.slice a s.txs.length ca, .slice b s.ord.length cb]] w fun e w' => SerTold s w e w' := by
  have HS := hideIt h
  have HB : Hid (Below w.heap.size w (w.alloc (.cells #[.slice a s.txs.length ca, .slice b s.ord.length cb] 25))) := belA (Below.refl _ _) _
  obtain ⟨c0, c1⟩ := box2 w (.slice a s.txs.length ca) (.slice b s.ord.length cb) 25
  have HA := hideIt (all_any s a b ca cb _ (h.below HB.out))
  clear h
  unfold AllTold at HA
  go_enter Try.func7, Try.ntmps7
  go_wp2_with fail
  refine HA.out.mono ?_
  rintro e w1 ⟨v1, v2, v3, rfl, hR, hN, hb1⟩
  have HB1 := hideIt (belJ HB.out hb1)
  have d0 := (hb1.cell (p := ⟨w.heap.size, 0, none⟩) (World.block_lt_of_cell? _ _ c0)).trans c0
  have d1 := (hb1.cell (p := ⟨w.heap.size, 1, none⟩) (World.block_lt_of_cell? _ _ c1)).trans c1
  clear HA hb1 c0 c1 HB
  by_cases hf : fltI s = 0
  · have ok := iOk_of hf
    have h8 := ok.few
    obtain ⟨R1, R2, R3⟩ := hR hf
    clear hN hR
    have HG : Hid (serG s = oG (serR s)) := by unfold serG; rw [if_pos hf]; rfl
    rw [hf, show toldV 0 = .nilIface from rfl]
    have HR1 := hideIt (R1.below (belA (Below.refl _ _) (.cells #[v1, v2, v3] 47)))
    have HR2 := hideIt (R2.below (belA (Below.refl _ _) (.cells #[v1, v2, v3] 47)))
    have HR3 := hideIt (R3.below (belA (Below.refl _ _) (.cells #[v1, v2, v3] 47)))
    have HB2 := hideIt (belA HB1.out (.cells #[v1, v2, v3] 47))
    have f0 := cellA (o := .cells #[v1, v2, v3] 47) d0
    have f1 := cellA (o := .cells #[v1, v2, v3] 47) d1
    have hbe := heap_alloc_new w1 (.cells #[v1, v2, v3] 47)
    obtain ⟨a1, p1, e1, _⟩ := R1
    obtain ⟨a2, p2, e2, _⟩ := R2
    obtain ⟨a3, p3, e3, _⟩ := R3
    subst e1 e2 e3
    clear d0 d1
    go_upto_region 2 with fail
    generalize w1.alloc _ = W2 at HR1 HR2 HR3 HB2 f0 f1 hbe ⊢
    have x0 : W2.cell? ⟨w1.heap.size, 0, none⟩ = some (.slice a1 s.txs.length p1) := cell_of_row _ _ _ _ 47 _ hbe
    have x1 : W2.cell? ⟨w1.heap.size, 1, none⟩ = some (.slice a2 s.txs.length p2) := cell_of_row _ _ _ _ 47 _ hbe
    have x2 : W2.cell? ⟨w1.heap.size, 2, none⟩ = some (.slice a3 s.txs.length p3) := cell_of_row _ _ _ _ 47 _ hbe
    have HX : Hid (∀ Z, Below W2.heap.size W2 Z → Z.cell? ⟨w1.heap.size, 0, none⟩ = some (.slice a1 s.txs.length p1) ∧ Z.cell? ⟨w1.heap.size, 1, none⟩ = some (.slice a2 s.txs.length p2) ∧ Z.cell? ⟨w1.heap.size, 2, none⟩ = some (.slice a3 s.txs.length p3)) := fun Z hZ => ⟨(hZ.cell (p := ⟨w1.heap.size, 0, none⟩) (lt_of_heap hbe)).trans x0, (hZ.cell (p := ⟨w1.heap.size, 1, none⟩) (lt_of_heap hbe)).trans x1, (hZ.cell (p := ⟨w1.heap.size, 2, none⟩) (lt_of_heap hbe)).trans x2⟩
    clear x0 x1 x2 hbe
    go_upto_region 4 with fail
    go_cut [6, 5] from 16 to 27 (fun x y wx => ∃ vo, x = vo ∧ y = toldV (oG (serR s)) ∧ RowAt wx W2.heap.size vo (natI (oL (serR s))) ∧ Below W2.heap.size W2 wx)
    case first =>
      refine wp_region_held_drew (S := (fun w' => Below W2.heap.size W2 w')) (by kernel_rfl) (Below.refl _ _).drew (fun hHeld => ?_)
      refine wpAnyH_take (i := 0) (v := ?_) rfl (by kernel_rfl) (by kernel_rfl) (by kernel_rfl) (fun _ _ _ h => h) (Or.inl ⟨by rfl, ?_⟩) (by assumption) ?_
      rotate_left 1
      · intro wz sb
        obtain ⟨y0, y1, y2⟩ := HX.out wz sb
        go_simp
        all_goals with_reducible rfl
      simp only [Act.put, List.setIfInBounds_toArray, List.set_cons_zero, List.set_cons_succ, List.getElem_toArray, List.getElem_cons_zero]
      refine wpAnyH_take (i := 1) (v := ?_) rfl (by kernel_rfl) (by kernel_rfl) (by kernel_rfl) (fun _ _ _ h => h) (Or.inl ⟨by rfl, ?_⟩) (by assumption) ?_
      rotate_left 1
      · intro wz sb
        obtain ⟨y0, y1, y2⟩ := HX.out wz sb
        go_simp
        all_goals with_reducible rfl
      simp only [Act.put, List.setIfInBounds_toArray, List.set_cons_zero, List.set_cons_succ, List.getElem_toArray, List.getElem_cons_zero, List.getElem_cons_succ]
      refine wpAnyH_take (i := 2) (v := ?_) rfl (by kernel_rfl) (by kernel_rfl) (by kernel_rfl) (fun _ _ _ h => h) (Or.inl ⟨by rfl, ?_⟩) (by assumption) ?_
      rotate_left 1
      · intro wz sb
        obtain ⟨y0, y1, y2⟩ := HX.out wz sb
        go_simp
        all_goals with_reducible rfl
      simp only [Act.put, List.setIfInBounds_toArray, List.set_cons_zero, List.set_cons_succ, List.getElem_toArray, List.getElem_cons_zero, List.getElem_cons_succ]
      refine wpAnyH_take (i := 3) (v := ?_) rfl (by kernel_rfl) (by kernel_rfl) (by kernel_rfl) (fun _ _ _ h => h) (Or.inl ⟨by rfl, ?_⟩) (by assumption) ?_
      rotate_left 1
      · intro wz sb
        obtain ⟨y0, y1, y2⟩ := HX.out wz sb
        go_simp
        all_goals with_reducible rfl
      simp only [Act.put, List.setIfInBounds_toArray, List.set_cons_zero, List.set_cons_succ, List.getElem_toArray, List.getElem_cons_zero, List.getElem_cons_succ]
      refine wpAnyH_take (i := 5) (v := ?_) rfl (by kernel_rfl) (by kernel_rfl) (by kernel_rfl) (fun _ _ _ h => h) (Or.inl ⟨by rfl, ?_⟩) (by assumption) ?_
      rotate_left 1
      · intro wz sb
        obtain ⟨y0, y1, y2⟩ := HX.out wz sb
        go_simp
        all_goals with_reducible rfl
      simp only [Act.put, List.setIfInBounds_toArray, List.set_cons_zero, List.set_cons_succ, List.getElem_toArray, List.getElem_cons_zero, List.getElem_cons_succ]
      refine wpAnyH_take (i := 6) (v := ?_) rfl (by kernel_rfl) (by kernel_rfl) (by kernel_rfl) (fun _ _ _ h => h) (Or.inl ⟨by rfl, ?_⟩) (by assumption) ?_
      rotate_left 1
      · intro wz sb
        obtain ⟨y0, y1, y2⟩ := HX.out wz sb
        go_simp
        all_goals with_reducible rfl
      simp only [Act.put, List.setIfInBounds_toArray, List.set_cons_zero, List.set_cons_succ, List.getElem_toArray, List.getElem_cons_zero, List.getElem_cons_succ]
      generalize W2.drew = Y0 at hHeld ⊢
      refine wpAnyH_ready (rs := [4]) (by kernel_rfl) (by simp) (AllReadyH.cons rfl (fun K hK => ?_) AllReadyH.nil)
      go_simp
      refine (together_any s.txs.length (by omega) (ovB s) (seB s) _ _ Y0 (HR1.out.below hHeld) (HR2.out.below hHeld)).mono ?_
      rintro e Y1 ⟨Ba, ra, rfl, ma, hba⟩
      refine hK.out _ _ ?_ (fun hHeld => ?_)
      · exact belJ hHeld hba
      clear hK K
      refine wpAnyH_ready (rs := [7]) (by kernel_rfl) (by simp) (AllReadyH.cons rfl (fun K hK => ?_) AllReadyH.nil)
      go_simp
      refine (together_any s.txs.length (by omega) (orR (ovB s) (seB s)) (anB s) _ _ Y1 ma.readM (HR3.out.below hHeld)).mono ?_
      rintro e Y2 ⟨Bb, rb, rfl, mb, hbb⟩
      refine hK.out _ _ ?_ (fun hHeld => ?_)
      · exact belJ hHeld hbb
      clear hK K
      obtain ⟨ga, gc, eg, hgq⟩ := grQ_readN mb.readM
      injection eg with eg _ eg2
      subst eg eg2
      have hOr := gOrder_any (matN s.txs.length (orR (orR (ovB s) (seB s)) (anB s))) (some ⟨Bb, 0, none⟩) s.txs.length Y2 (matN_max (by omega) _).1 (matN_max (by omega) _).2 hgq
      rw [matN_len] at hOr
      refine wpAnyH_ready (rs := [8]) (by kernel_rfl) (by simp) (AllReadyH.cons rfl (fun K hK => ?_) AllReadyH.nil)
      go_simp
      refine hOr.mono ?_
      rintro e Y3 ⟨vo, rfl, hRo, hbo⟩
      refine hK.out _ _ ?_ (fun hHeld => ?_)
      · exact belJ hHeld hbo
      clear hK K hOr
      have hYs : W2.heap.size ≤ Y2.heap.size := by have h1 := hba.size; have h2 := hbb.size; have h3 := (show Below W2.heap.size W2 Y2 by assumption).size; omega
      refine wpAnyH_take (i := 9) (v := ?_) rfl (by kernel_rfl) (by kernel_rfl) (by kernel_rfl) (fun _ _ _ h => h) (Or.inl ⟨by rfl, ?_⟩) (by assumption) ?_
      rotate_left 1
      · intro wz sb
        clear sb
        go_simp
        all_goals with_reducible rfl
      simp only [Act.put, List.setIfInBounds_toArray, List.set_cons_zero, List.set_cons_succ, List.getElem_toArray, List.getElem_cons_zero, List.getElem_cons_succ]
      refine wpAnyH_take (i := 10) (v := ?_) rfl (by kernel_rfl) (by kernel_rfl) (by kernel_rfl) (fun _ _ _ h => h) (Or.inl ⟨by rfl, ?_⟩) (by assumption) ?_
      rotate_left 1
      · intro wz sb
        clear sb
        go_simp
        all_goals with_reducible rfl
      simp only [Act.put, List.setIfInBounds_toArray, List.set_cons_zero, List.set_cons_succ, List.getElem_toArray, List.getElem_cons_zero, List.getElem_cons_succ]
      refine wpAnyH_take (i := 11) (v := ?_) rfl (by kernel_rfl) (by kernel_rfl) (by kernel_rfl) (fun _ _ _ h => h) (Or.inl ⟨by rfl, ?_⟩) (by assumption) ?_
      rotate_left 1
      · intro wz sb
        clear sb
        go_simp
        all_goals with_reducible rfl
      simp only [Act.put, List.setIfInBounds_toArray, List.set_cons_zero, List.set_cons_succ, List.getElem_toArray, List.getElem_cons_zero, List.getElem_cons_succ]
      refine wpAnyH_ready (rs := [12]) (by kernel_rfl) (by simp) (AllReadyH.cons rfl (fun K hK => ?_) AllReadyH.nil)
      go_simp
      refine hK.out _ _ ?_ (fun hHeld => ?_)
      · exact hHeld
      clear hK K
      refine wpAnyH_ready (rs := [13]) (by kernel_rfl) (by simp) (AllReadyH.cons rfl (fun K hK => ?_) AllReadyH.nil)
      go_simp
      refine hK.out _ _ ?_ (fun hHeld => ?_)
      · exact hHeld
      clear hK K
      refine wpAnyH_done (by kernel_rfl) ?_ _
      go_wp2
      go_meet
      exact ⟨_, rfl, rfl, hRo.base hYs, hHeld⟩
    case rest =>
      rename World => W3
      obtain ⟨vo, rfl, rfl, hRo, hb3⟩ := hcut
      have HRo := hideIt hRo
      have HB3 := hideIt (belJ HB2.out hb3)
      have g0 := (hb3.cell (p := ⟨w.heap.size, 0, none⟩) (World.block_lt_of_cell? W2 _ f0)).trans f0
      have g1 := (hb3.cell (p := ⟨w.heap.size, 1, none⟩) (World.block_lt_of_cell? W2 _ f1)).trans f1
      have hs23 := hb3.size
      have hlo : w.heap.size < W2.heap.size := World.block_lt_of_cell? W2 _ f0
      clear HX HR1 HR2 HR3 f0 f1 hRo hb3
      by_cases ho : oG (serR s) = 0
      · have HG0 : Hid (serG s = 0) := by rw [HG.out]; exact ho
        have HV : Hid (serV s = (natI (oL (serR s))).filter (comI s)) := by unfold serV; rw [if_pos HG0.out]; rfl
        rw [ho, show toldV 0 = .nilIface from rfl]
        have hord : ∃ L, ordG (gB (serR s)) s.txs.length s.txs.length = some L ∧ oL (serR s) = L := by
          have hk : ckG (serR s) = 0 := matN_ok (by omega) _
          unfold oG at ho
          unfold oL
          rw [if_pos hk] at ho ⊢
          rw [show (serR s).length = s.txs.length from matN_len _ _] at ho ⊢
          cases hq : ordG (gB (serR s)) s.txs.length s.txs.length with
          | none => rw [hq] at ho; simp at ho
          | some L => exact ⟨L, rfl, rfl⟩
        obtain ⟨L, hL, hLe⟩ := hord
        rw [hLe] at HRo HV
        have hlt := (ordG_ok hL).2.lt
        have hll := (ordG_ok hL).1
        have HCm := hideIt (committing_any _ a b s.txs.length ca s.ord.length cb W3 rfl)
        clear ho hLe
        go_wp2_with fail
        refine HCm.out.mono ?_
        rintro e w4 ⟨rfl, rfl⟩
        have hb34 : Below W3.heap.size W3 ((W3.alloc (.cells #[.slice a s.txs.length ca, .slice b s.ord.length cb] 25)).alloc (.cells #[.func (.func 27) #[] #[.pointer (some ⟨W3.heap.size, 0, none⟩)]] 50)) := belA (belA (Below.refl _ _) _) _
        have HB4 := hideIt (belJ HB3.out hb34)
        have HR4 := hideIt (HRo.out.belowR hb34)
        have k0 := cellA (o := .cells #[.func (.func 27) #[] #[.pointer (some ⟨W3.heap.size, 0, none⟩)]] 50) (box2 W3 (.slice a s.txs.length ca) (.slice b s.ord.length cb) 25).1
        have k1 := box1 (W3.alloc (.cells #[.slice a s.txs.length ca, .slice b s.ord.length cb] 25)) (.func (.func 27) #[] #[.pointer (some ⟨W3.heap.size, 0, none⟩)]) 50
        rw [World.size_alloc] at k1
        have hs4 : W3.heap.size ≤ ((W3.alloc (.cells #[.slice a s.txs.length ca, .slice b s.ord.length cb] 25)).alloc (.cells #[.func (.func 27) #[] #[.pointer (some ⟨W3.heap.size, 0, none⟩)]] 50)).heap.size := hb34.size
        have HOb : Hid (∀ x, u6.ownBlock = some x → x < W3.heap.size) := fun x hx => (HRo.out.lt x hx).2
        have HDl := hideIt (deleteFunc_any (fun x => !comI s x) (natI L) (by simp [natI]; omega) W2.heap.size u6 (W3.heap.size + 1) ((W3.alloc (.cells #[.slice a s.txs.length ca, .slice b s.ord.length cb] 25)).alloc (.cells #[.func (.func 27) #[] #[.pointer (some ⟨W3.heap.size, 0, none⟩)]] 50)) HR4.out (by omega) (fun Z hZ hbZ x hx => by
          obtain ⟨t, ht, rfl⟩ : ∃ t, t ∈ L ∧ (t : Int) = x := by simpa [natI] using hx
          refine ser1_any s a b ca cb (W3.heap.size + 1) W3.heap.size t Z (HS.out.below (HB4.out.trans (hbZ.mono (by omega)))) ?_ ?_ (hlt t ht)
          · exact (World.cell?_of_block (a := ⟨W3.heap.size + 1, 0, none⟩) (hZ (W3.heap.size + 1) (fun e => by have := HOb.out _ e; omega))).trans k1
          · exact (World.cell?_of_block (a := ⟨W3.heap.size, 0, none⟩) (hZ W3.heap.size (fun e => by have := HOb.out _ e; omega))).trans k0))
        unfold DelTold at HDl
        have HFl : Hid ((natI L).filter (fun x => !!comI s x) = serV s) := by
          rw [HV.out]
          show _ = _
          congr 1
          funext x
          simp
        clear HR4 HRo k0 k1 hb34 HCm g0 g1 hlt hL hll
        go_wp2_with fail
        refine HDl.out.mono ?_
        rintro e w5 ⟨v5, rfl, hR5, hb5⟩
        have HR5 := hideIt hR5
        have HB5 := hideIt (HB4.out.trans (hb5.mono (by omega)))
        clear HDl hR5 hb5
        go_wp2
        go_ret2
        exact ⟨_, by rw [HG0.out]; rfl, by rw [← HFl.out]; exact HR5.out.hasI, HB5.out⟩
      · have HG0 : Hid (serG s ≠ 0) := by rw [HG.out]; exact ho
        have HV : Hid (serV s = []) := by unfold serV; rw [if_neg HG0.out]; rfl
        rw [told_ne ho]
        go_wp2
        go_ret2
        exact ⟨_, by rw [HG.out, told_ne ho]; rfl, by rw [HV.out]; exact hasI_nil _, HB3.out⟩
  · obtain ⟨rfl, rfl, rfl⟩ := hN hf
    have HG : Hid (serG s = fltI s) := by unfold serG; rw [if_neg hf]; rfl
    have HV : Hid (serV s = []) := by unfold serV; rw [if_neg (by rw [HG.out]; exact hf)]; rfl
    have HBE := hideIt (belA HB1.out (.cells #[.slice none 0 0, .slice none 0 0, .slice none 0 0] 47))
    rw [told_ne hf]
    clear hR hN d0 d1
    go_wp2
    go_ret2
    exact ⟨_, by rw [HG.out, told_ne hf]; rfl, by rw [HV.out]; exact hasI_nil _, HBE.out⟩
end Go.Proofs.Ytodanhjookgbeaa
