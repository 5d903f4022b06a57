/-
  The program's All, walked: the edges of a story.
-/
import Derived.Test.YtaopigjhdkdklaaDoorIaMZ
namespace Go.Proofs.YtaopigjhdkdklaaDoor
open Go.RowKit Go.Shelf
attribute [local go_sem] Oper.semAt_some

/-- What All tells. -/
def AllTold (s : ISt) (w : World) (e : Ending) (w' : World) : Prop :=
  ∃ v1 v2 v3, e = .returned (.tuple #[.agg #[v1, v2, v3], toldV (fltI s)]) ∧
    (fltI s = 0 → ReadM w' v1 s.txs.length (ovB s) ∧ ReadM w' v2 s.txs.length (seB s) ∧ ReadM w' v3 s.txs.length (anB s)) ∧
    (fltI s ≠ 0 → v1 = .slice none 0 0 ∧ v2 = .slice none 0 0 ∧ v3 = .slice none 0 0) ∧ Below w.heap.size w w'

/-- As asked, and never a panic. -/
def noPan (Q : Exit → Act → World → Prop) : Exit → Act → World → Prop := fun e a w => match e with
  | .panic _ => False
  | e => Q e a w
theorem noPan_spec {Q : Exit → Act → World → Prop} : ∀ e a w, noPan Q e a w → Q e a w := fun e a w h => by
  cases e <;> first | exact h | exact h.elim
theorem rdAll {s : ISt} {ys : List (RdI s)} (h : ys.map (fun x => x.1) = List.range (rdI s).length) : ys.map (rdA s) = rdI s := by
  have hl : ys.length = (rdI s).length := by have := congrArg List.length h; simpa using this
  refine List.ext_getElem (by simpa using hl) fun i h1 h2 => ?_
  rw [List.getElem_map]
  unfold rdA
  have h3 : i < ys.length := by simpa using h1
  have h4 : (ys.map (fun x => x.1))[i]'(by simpa using h3) = i := by simp only [h]; simp
  rw [List.getElem_map] at h4
  simp only [h4]
theorem tri_set {w : World} {g : Nat} {t : TypeId} {x y z : Value} (h : w.heap[g]? = some (.cells #[x, y, z] t (0, 0))) (x' y' z' : Value) : (((w.setCell ⟨g, 0, none⟩ x').setCell ⟨g, 1, none⟩ y').setCell ⟨g, 2, none⟩ z').heap[g]? = some (.cells #[x', y', z'] t (0, 0)) := by
  have h1 := heap_setCell_same w g 0 _ t x' h
  have h2 := heap_setCell_same _ g 1 _ t y' h1
  have h3 := heap_setCell_same _ g 2 _ t z' h2
  rw [h3]
  simp
theorem tri_load {w : World} {g : Nat} {t : TypeId} {x y z : Value} (h : w.heap[g]? = some (.cells #[x, y, z] t (0, 0))) : (loadVar 58 ⟨g, 0, none⟩).run Tryd.prog w = .ok (.agg #[x, y, z]) w :=
  run_loadVar_mid w g 0 58 [x, y, z] _ (fun j v hv => by rw [Nat.zero_add, cell_of_row _ _ _ _ t _ h]; simpa using hv) Tryd.underlying58 rfl (by kernel_rfl)
theorem results_two {fn : Func} {p u : Tmp} {ty : TypeId} (h : fn.results = #[.cell p ty, .tmp u]) (tmps : Array Value) (w : World) (g : Nat) (v : Value)
    (hp : tmps.getD p undef = .pointer (some ⟨g, 0, none⟩)) (hl : (loadVar ty ⟨g, 0, none⟩).run Tryd.prog w = .ok v w) : (results fn tmps).run Tryd.prog w = .ok (.tuple #[v, tmps.getD u undef]) w := by
  rw [results_cell_tmp h]
  simp only [hp, asAddr, Sem.run_pure, Result.andThen_ok, hl]

set_option maxRecDepth 100000 in
set_option maxHeartbeats 8000000 in
theorem all_any (s : ISt) (a b : Option Addr) (ca cb : Nat) (w : World) (h : StyQ w a ca b cb s) :
    Calls Tryd.prog 20 #[.agg #[.slice a s.txs.length ca, .slice b s.ord.length cb]] w fun e w' => AllTold s w e w' := by
  have HS := hideIt h
  have HB : Hid (Below w.heap.size w ((w.alloc (.cells #[.slice a s.txs.length ca, .slice b s.ord.length cb] 44)).alloc (.cells #[.slice none 0 0, .slice none 0 0, .slice none 0 0] 58))) := belA (belA (Below.refl _ _) _) _
  have c0 := cellA (o := .cells #[.slice none 0 0, .slice none 0 0, .slice none 0 0] 58) (box2 w (.slice a s.txs.length ca) (.slice b s.ord.length cb) 44).1
  have c1 := cellA (o := .cells #[.slice none 0 0, .slice none 0 0, .slice none 0 0] 58) (box2 w (.slice a s.txs.length ca) (.slice b s.ord.length cb) 44).2
  have hrb := heap_alloc_new (w.alloc (.cells #[.slice a s.txs.length ca, .slice b s.ord.length cb] 44)) (.cells #[.slice none 0 0, .slice none 0 0, .slice none 0 0] 58)
  rw [World.size_alloc] at hrb
  have HC := hideIt (pCheck_any s a b ca cb _ (h.below HB.out))
  clear h
  refine (callsIn_wide (n := 4)).1 ?_
  refine callsIn_of_wp_marks Tryd.func20 rfl trivial ?_ rfl
  simp only [Tryd.ntmps20, List.size_toArray, List.length_cons, List.length_nil, Nat.reduceAdd, Nat.reduceSub, Array.replicate_succ, Array.replicate_zero, List.push_toArray, List.append_toArray, List.nil_append, List.cons_append]
  rw [wpIn_wide]
  refine wp_mono (Q := noPan (bodyPostM Fence.wide 4 Tryd.prog Tryd.f20 (fun e w' => AllTold s w e w'))) ?_ noPan_spec
  go_wp2_with fail
  refine HC.out.mono ?_
  rintro e w1 ⟨rfl, hb1⟩
  have HB1 := hideIt (belJ HB.out hb1)
  have d0 := (hb1.cell (p := ⟨w.heap.size, 0, none⟩) (World.block_lt_of_cell? _ _ c0)).trans c0
  have d1 := (hb1.cell (p := ⟨w.heap.size, 1, none⟩) (World.block_lt_of_cell? _ _ c1)).trans c1
  have hrb1 := (hb1.block (w.heap.size + 1) (by simp)).trans hrb
  clear HC hb1 c0 c1 hrb HB
  by_cases hf : fltI s = 0
  · have ok := iOk_of hf
    have h8 := ok.few
    rw [hf, show toldV 0 = .nilIface from rfl]
    have HX : Hid (∀ Z, Below w1.heap.size w1 Z → Z.cell? ⟨w.heap.size, 0, none⟩ = some (.slice a s.txs.length ca) ∧ Z.cell? ⟨w.heap.size, 1, none⟩ = some (.slice b s.ord.length cb)) := fun Z hZ => ⟨(hZ.cell (p := ⟨w.heap.size, 0, none⟩) (World.block_lt_of_cell? w1 _ d0)).trans d0, (hZ.cell (p := ⟨w.heap.size, 1, none⟩) (World.block_lt_of_cell? w1 _ d1)).trans d1⟩
    go_upto_region 4 with fail
    go_cut [5, 6] from 17 to 20 (fun x y wx => ∃ Bc q Bw, x = .pointer (some ⟨Bc, 0, none⟩) ∧ y = .pointer (some ⟨Bw, 0, none⟩) ∧ wx.cell? ⟨Bc, 0, none⟩ = some (.func (.func 61) #[] #[.pointer (some ⟨q, 0, none⟩)]) ∧ wx.cell? ⟨q, 0, none⟩ = some (.slice a s.txs.length ca) ∧ VerB wx Bw (verF s) ∧ Below w1.heap.size w1 wx)
    case first =>
      have HCm : Hid (∀ Z, Calls Tryd.prog 34 #[.agg #[.slice a s.txs.length ca, .slice b s.ord.length cb]] Z fun e w' => ∃ q, e = .returned (.func (.func 61) #[] #[.pointer (some ⟨q, 0, none⟩)]) ∧ w'.cell? ⟨q, 0, none⟩ = some (.slice a s.txs.length ca) ∧ Below Z.heap.size Z w') := fun Z =>
        (committing_any _ a b s.txs.length ca s.ord.length cb Z rfl).mono fun e w' ⟨h1, h2⟩ => ⟨Z.heap.size, h1, by rw [h2]; exact (box2 Z _ _ _).1, by rw [h2]; exact belA (Below.refl _ _) _⟩
      have HVs : Hid (∀ Z, Below w1.heap.size w1 Z → Calls Tryd.prog 35 #[.agg #[.slice a s.txs.length ca, .slice b s.ord.length cb]] Z fun e w' => e = .returned (verA (verF s)) ∧ Below Z.heap.size Z w') := fun Z hZ => versionsOf_any s a b ca cb Z (HS.out.below (belJ HB1.out hZ)) h8
      have HFin : Hid (∀ (Z : World) (q Bc Bw : Nat), Below w1.heap.size w1 Z → Z.cell? ⟨q, 0, none⟩ = some (.slice a s.txs.length ca) → Z.heap[Bc]? = some (.cells #[.nilFunc] 100 (0, 0)) → VerB Z Bw (fun _ _ => 0) → w1.heap.size ≤ Bc → w1.heap.size ≤ Bw →
          Below w1.heap.size w1 (Z.setCell ⟨Bc, 0, none⟩ (.func (.func 61) #[] #[.pointer (some ⟨q, 0, none⟩)])) ∧ (Z.setCell ⟨Bc, 0, none⟩ (.func (.func 61) #[] #[.pointer (some ⟨q, 0, none⟩)])).there Bw 0 64 ∧
          (let Z' := (Z.setCell ⟨Bc, 0, none⟩ (.func (.func 61) #[] #[.pointer (some ⟨q, 0, none⟩)])).setCells Bw 0 (verL (verF s))
           Z'.cell? ⟨Bc, 0, none⟩ = some (.func (.func 61) #[] #[.pointer (some ⟨q, 0, none⟩)]) ∧ Z'.cell? ⟨q, 0, none⟩ = some (.slice a s.txs.length ca) ∧ VerB Z' Bw (verF s) ∧ Below w1.heap.size w1 Z')) := fun Z q Bc Bw hB hq hc hv h1 h2 => by
        have x0 : Z.cell? ⟨Bc, 0, none⟩ = some .nilFunc := cell_of_row _ _ _ _ 100 _ hc
        have x2 := hv.at (i := 0) (j := 0) (by omega) (by omega)
        have n1 : Bc ≠ q := fun e => by rw [e, hq] at x0; cases x0
        have n2 : Bw ≠ Bc := fun e => by rw [e, x0] at x2; cases x2
        have n3 : q ≠ Bw := fun e => by rw [e] at hq; rw [hq] at x2; cases x2
        have b1 : Below w1.heap.size w1 (Z.setCell ⟨Bc, 0, none⟩ (.func (.func 61) #[] #[.pointer (some ⟨q, 0, none⟩)])) := hB.setCell (by show w1.heap.size ≤ Bc; omega) _
        have v1 : VerB (Z.setCell ⟨Bc, 0, none⟩ (.func (.func 61) #[] #[.pointer (some ⟨q, 0, none⟩)])) Bw (fun _ _ => 0) := hv.other (p := ⟨Bc, 0, none⟩) n2 _
        refine ⟨b1, v1.there, ?_, ?_, v1.store _, b1.grown (grown_setCells _ _ 0 _) (by have := b1.size; omega) (fun k hk => by cases hk; omega)⟩
        · rw [World.cell?_setCells_out _ _ _ _ _ (fun e _ => absurd e.symm n2)]
          exact World.cell?_setCell_same _ _ _ x0
        · rw [World.cell?_setCells_out _ _ _ _ _ (fun e _ => absurd e n3)]
          exact (World.cell?_setCell_other _ _ _ _ (blkNe n1)).trans hq
      have HSy : Hid ((Tryd.prog.info? 104).map (·.size) = some (verL (verF s)).toArray.size) := by rw [verS]; exact size77
      have HOne : Hid ((verL (verF s)).toArray.all (·.oneCell') = true) := all_oneCell_toArray (verL_one _)
      refine wp_region_held_drew (S := (fun w' => Below w1.heap.size w1 w')) (by kernel_rfl) (Below.refl _ _).drew (fun hHeld => ?_)
      --GEN4
      refine wpAnyH_take (i := 0) (v := ?_) rfl (by kernel_rfl) (by kernel_rfl) (by kernel_rfl) (fun _ _ _ h => h) (Or.inl ⟨by rfl, ?_⟩) (by assumption) ?_
      rotate_left 1
      · intro wz sb
        obtain ⟨y0, y1⟩ := HX.out wz sb
        go_simp
        all_goals with_reducible rfl
      simp only [Act.put, List.setIfInBounds_toArray, List.set_cons_zero, List.set_cons_succ, List.getElem_toArray, List.getElem_cons_zero]
      refine wpAnyH_take (i := 2) (v := ?_) rfl (by kernel_rfl) (by kernel_rfl) (by kernel_rfl) (fun _ _ _ h => h) (Or.inl ⟨by rfl, ?_⟩) (by assumption) ?_
      rotate_left 1
      · intro wz sb
        obtain ⟨y0, y1⟩ := HX.out wz sb
        go_simp
        all_goals with_reducible rfl
      simp only [Act.put, List.setIfInBounds_toArray, List.set_cons_zero, List.set_cons_succ, List.getElem_toArray, List.getElem_cons_zero, List.getElem_cons_succ]
      generalize w1.drew = Z0 at hHeld ⊢
      refine wpAnyH_ready (rs := [1, 4, 5]) (by kernel_rfl) (by simp) (AllReadyH.cons rfl (fun K hK => ?_) (AllReadyH.cons rfl (fun K hK => ?_) (AllReadyH.cons rfl (fun K hK => ?_) AllReadyH.nil)))
      · go_simp
        refine (HCm.out Z0).mono ?_
        rintro e Z1 ⟨q, rfl, hq, hbn⟩
        refine hK.out _ _ ?_ (fun hHeld => ?_)
        · exact belJ hHeld hbn
        clear hK K
        refine wpAnyH_ready (rs := [3, 4, 5]) (by kernel_rfl) (by simp) (AllReadyH.cons rfl (fun K hK => ?_) (AllReadyH.cons rfl (fun K hK => ?_) (AllReadyH.cons rfl (fun K hK => ?_) AllReadyH.nil)))
        · go_simp
          refine (HVs.out Z1 hHeld).mono ?_
          rintro e Z2 ⟨rfl, hbn⟩
          refine hK.out _ _ ?_ (fun hHeld => ?_)
          · exact belJ hHeld hbn
          clear hK K
          have hq := (hbn.cell (p := ⟨q, 0, none⟩) (World.block_lt_of_cell? Z1 _ hq)).trans hq
          refine wpAnyH_ready (rs := [4, 5]) (by kernel_rfl) (by simp) (AllReadyH.cons rfl (fun K hK => ?_) (AllReadyH.cons rfl (fun K hK => ?_) AllReadyH.nil))
          · go_simp
            have hcl : w1.heap.size ≤ Z2.heap.size := hHeld.size
            refine hK.out _ _ ?_ (fun hHeld => ?_)
            · exact hHeld.alloc hHeld.size _
            clear hK K
            have hbn := belA (Below.refl Z2.heap.size Z2) (.cells #[.nilFunc] 100)
            have hc := heap_alloc_new Z2 (.cells #[.nilFunc] 100)
            generalize Z2.alloc (.cells #[.nilFunc] 100) = Z3 at hHeld hbn hc ⊢
            have hq := (hbn.cell (p := ⟨q, 0, none⟩) (World.block_lt_of_cell? Z2 _ hq)).trans hq
            refine wpAnyH_ready (rs := [5]) (by kernel_rfl) (by simp) (AllReadyH.cons rfl (fun K hK => ?_) AllReadyH.nil)
            go_simp
            have hvl : w1.heap.size ≤ Z3.heap.size := hHeld.size
            refine hK.out _ _ ?_ (fun hHeld => ?_)
            · exact hHeld.alloc hHeld.size _
            clear hK K
            have hbn := belA (Below.refl Z3.heap.size Z3) (.cells (verL fun _ _ => 0).toArray 104)
            have hv := verB_new Z3 (fun _ _ => 0) 104
            rw [zeros77] at hHeld ⊢
            generalize Z3.alloc (.cells (verL fun _ _ => 0).toArray 104) = Z4 at hHeld hbn hv ⊢
            have hq := (hbn.cell (p := ⟨q, 0, none⟩) (World.block_lt_of_cell? Z3 _ hq)).trans hq
            have hc := (hbn.block _ (lt_of_heap hc)).trans hc
            have hfin := HFin.out Z4 q (Z2.heap.size) (Z3.heap.size) hHeld hq hc hv hcl hvl
            have x0 : Z4.cell? ⟨Z2.heap.size, 0, none⟩ = some .nilFunc := cell_of_row _ _ _ _ 100 _ hc
            have x1 := frozen_of_row Z4 (Z2.heap.size) 0 _ 100 hc
            refine wpAnyH_ready (rs := [6]) (by kernel_rfl) (by simp) (AllReadyH.cons rfl (fun K hK => ?_) AllReadyH.nil)
            go_simp
            refine hK.out _ _ ?_ (fun hHeld => ?_)
            · exact hfin.1
            clear hK K
            refine wpAnyH_ready (rs := [7]) (by kernel_rfl) (by simp) (AllReadyH.cons rfl (fun K hK => ?_) AllReadyH.nil)
            rw [if_pos (by rfl)]
            refine wp_store_mid 104 (.tmp 6) (.tmp 20) rfl (Z3.heap.size) 0 (verL (verF s)).toArray rfl rfl (by rw [verS]; exact hfin.2.1) HSy.out HOne.out ?_
            refine hK.out _ _ ?_ (fun hHeld => ?_)
            · exact hfin.2.2.2.2.2
            clear hK K
            refine wpAnyH_done (by kernel_rfl) ?_ _
            go_wp2
            go_meet
            exact ⟨_, q, _, rfl, rfl, hfin.2.2.1, hfin.2.2.2.1, hfin.2.2.2.2.1, hfin.2.2.2.2.2⟩
          · go_simp
            have hvl : w1.heap.size ≤ Z2.heap.size := hHeld.size
            refine hK.out _ _ ?_ (fun hHeld => ?_)
            · exact hHeld.alloc hHeld.size _
            clear hK K
            have hbn := belA (Below.refl Z2.heap.size Z2) (.cells (verL fun _ _ => 0).toArray 104)
            have hv := verB_new Z2 (fun _ _ => 0) 104
            rw [zeros77] at hHeld ⊢
            generalize Z2.alloc (.cells (verL fun _ _ => 0).toArray 104) = Z5 at hHeld hbn hv ⊢
            have hq := (hbn.cell (p := ⟨q, 0, none⟩) (World.block_lt_of_cell? Z2 _ hq)).trans hq
            refine wpAnyH_ready (rs := [4]) (by kernel_rfl) (by simp) (AllReadyH.cons rfl (fun K hK => ?_) AllReadyH.nil)
            go_simp
            have hcl : w1.heap.size ≤ Z5.heap.size := hHeld.size
            refine hK.out _ _ ?_ (fun hHeld => ?_)
            · exact hHeld.alloc hHeld.size _
            clear hK K
            have hbn := belA (Below.refl Z5.heap.size Z5) (.cells #[.nilFunc] 100)
            have hc := heap_alloc_new Z5 (.cells #[.nilFunc] 100)
            generalize Z5.alloc (.cells #[.nilFunc] 100) = Z6 at hHeld hbn hc ⊢
            have hq := (hbn.cell (p := ⟨q, 0, none⟩) (World.block_lt_of_cell? Z5 _ hq)).trans hq
            have hv := hv.below hbn hv.lt
            have hfin := HFin.out Z6 q (Z5.heap.size) (Z2.heap.size) hHeld hq hc hv hcl hvl
            have x0 : Z6.cell? ⟨Z5.heap.size, 0, none⟩ = some .nilFunc := cell_of_row _ _ _ _ 100 _ hc
            have x1 := frozen_of_row Z6 (Z5.heap.size) 0 _ 100 hc
            refine wpAnyH_ready (rs := [6]) (by kernel_rfl) (by simp) (AllReadyH.cons rfl (fun K hK => ?_) AllReadyH.nil)
            go_simp
            refine hK.out _ _ ?_ (fun hHeld => ?_)
            · exact hfin.1
            clear hK K
            refine wpAnyH_ready (rs := [7]) (by kernel_rfl) (by simp) (AllReadyH.cons rfl (fun K hK => ?_) AllReadyH.nil)
            rw [if_pos (by rfl)]
            refine wp_store_mid 104 (.tmp 6) (.tmp 20) rfl (Z2.heap.size) 0 (verL (verF s)).toArray rfl rfl (by rw [verS]; exact hfin.2.1) HSy.out HOne.out ?_
            refine hK.out _ _ ?_ (fun hHeld => ?_)
            · exact hfin.2.2.2.2.2
            clear hK K
            refine wpAnyH_done (by kernel_rfl) ?_ _
            go_wp2
            go_meet
            exact ⟨_, q, _, rfl, rfl, hfin.2.2.1, hfin.2.2.2.1, hfin.2.2.2.2.1, hfin.2.2.2.2.2⟩
        · go_simp
          have hcl : w1.heap.size ≤ Z1.heap.size := hHeld.size
          refine hK.out _ _ ?_ (fun hHeld => ?_)
          · exact hHeld.alloc hHeld.size _
          clear hK K
          have hbn := belA (Below.refl Z1.heap.size Z1) (.cells #[.nilFunc] 100)
          have hc := heap_alloc_new Z1 (.cells #[.nilFunc] 100)
          generalize Z1.alloc (.cells #[.nilFunc] 100) = Z7 at hHeld hbn hc ⊢
          have hq := (hbn.cell (p := ⟨q, 0, none⟩) (World.block_lt_of_cell? Z1 _ hq)).trans hq
          refine wpAnyH_ready (rs := [3, 5]) (by kernel_rfl) (by simp) (AllReadyH.cons rfl (fun K hK => ?_) (AllReadyH.cons rfl (fun K hK => ?_) AllReadyH.nil))
          · go_simp
            refine (HVs.out Z7 hHeld).mono ?_
            rintro e Z8 ⟨rfl, hbn⟩
            refine hK.out _ _ ?_ (fun hHeld => ?_)
            · exact belJ hHeld hbn
            clear hK K
            have hq := (hbn.cell (p := ⟨q, 0, none⟩) (World.block_lt_of_cell? Z7 _ hq)).trans hq
            have hc := (hbn.block _ (lt_of_heap hc)).trans hc
            refine wpAnyH_ready (rs := [5]) (by kernel_rfl) (by simp) (AllReadyH.cons rfl (fun K hK => ?_) AllReadyH.nil)
            go_simp
            have hvl : w1.heap.size ≤ Z8.heap.size := hHeld.size
            refine hK.out _ _ ?_ (fun hHeld => ?_)
            · exact hHeld.alloc hHeld.size _
            clear hK K
            have hbn := belA (Below.refl Z8.heap.size Z8) (.cells (verL fun _ _ => 0).toArray 104)
            have hv := verB_new Z8 (fun _ _ => 0) 104
            rw [zeros77] at hHeld ⊢
            generalize Z8.alloc (.cells (verL fun _ _ => 0).toArray 104) = Z9 at hHeld hbn hv ⊢
            have hq := (hbn.cell (p := ⟨q, 0, none⟩) (World.block_lt_of_cell? Z8 _ hq)).trans hq
            have hc := (hbn.block _ (lt_of_heap hc)).trans hc
            have hfin := HFin.out Z9 q (Z1.heap.size) (Z8.heap.size) hHeld hq hc hv hcl hvl
            have x0 : Z9.cell? ⟨Z1.heap.size, 0, none⟩ = some .nilFunc := cell_of_row _ _ _ _ 100 _ hc
            have x1 := frozen_of_row Z9 (Z1.heap.size) 0 _ 100 hc
            refine wpAnyH_ready (rs := [6]) (by kernel_rfl) (by simp) (AllReadyH.cons rfl (fun K hK => ?_) AllReadyH.nil)
            go_simp
            refine hK.out _ _ ?_ (fun hHeld => ?_)
            · exact hfin.1
            clear hK K
            refine wpAnyH_ready (rs := [7]) (by kernel_rfl) (by simp) (AllReadyH.cons rfl (fun K hK => ?_) AllReadyH.nil)
            rw [if_pos (by rfl)]
            refine wp_store_mid 104 (.tmp 6) (.tmp 20) rfl (Z8.heap.size) 0 (verL (verF s)).toArray rfl rfl (by rw [verS]; exact hfin.2.1) HSy.out HOne.out ?_
            refine hK.out _ _ ?_ (fun hHeld => ?_)
            · exact hfin.2.2.2.2.2
            clear hK K
            refine wpAnyH_done (by kernel_rfl) ?_ _
            go_wp2
            go_meet
            exact ⟨_, q, _, rfl, rfl, hfin.2.2.1, hfin.2.2.2.1, hfin.2.2.2.2.1, hfin.2.2.2.2.2⟩
          · go_simp
            have hvl : w1.heap.size ≤ Z7.heap.size := hHeld.size
            refine hK.out _ _ ?_ (fun hHeld => ?_)
            · exact hHeld.alloc hHeld.size _
            clear hK K
            have hbn := belA (Below.refl Z7.heap.size Z7) (.cells (verL fun _ _ => 0).toArray 104)
            have hv := verB_new Z7 (fun _ _ => 0) 104
            rw [zeros77] at hHeld ⊢
            generalize Z7.alloc (.cells (verL fun _ _ => 0).toArray 104) = Z10 at hHeld hbn hv ⊢
            have hq := (hbn.cell (p := ⟨q, 0, none⟩) (World.block_lt_of_cell? Z7 _ hq)).trans hq
            have hc := (hbn.block _ (lt_of_heap hc)).trans hc
            refine wpAnyH_ready (rs := [3]) (by kernel_rfl) (by simp) (AllReadyH.cons rfl (fun K hK => ?_) AllReadyH.nil)
            go_simp
            refine (HVs.out Z10 hHeld).mono ?_
            rintro e Z11 ⟨rfl, hbn⟩
            refine hK.out _ _ ?_ (fun hHeld => ?_)
            · exact belJ hHeld hbn
            clear hK K
            have hq := (hbn.cell (p := ⟨q, 0, none⟩) (World.block_lt_of_cell? Z10 _ hq)).trans hq
            have hc := (hbn.block _ (lt_of_heap hc)).trans hc
            have hv := hv.below hbn hv.lt
            have hfin := HFin.out Z11 q (Z1.heap.size) (Z7.heap.size) hHeld hq hc hv hcl hvl
            have x0 : Z11.cell? ⟨Z1.heap.size, 0, none⟩ = some .nilFunc := cell_of_row _ _ _ _ 100 _ hc
            have x1 := frozen_of_row Z11 (Z1.heap.size) 0 _ 100 hc
            refine wpAnyH_ready (rs := [6]) (by kernel_rfl) (by simp) (AllReadyH.cons rfl (fun K hK => ?_) AllReadyH.nil)
            go_simp
            refine hK.out _ _ ?_ (fun hHeld => ?_)
            · exact hfin.1
            clear hK K
            refine wpAnyH_ready (rs := [7]) (by kernel_rfl) (by simp) (AllReadyH.cons rfl (fun K hK => ?_) AllReadyH.nil)
            rw [if_pos (by rfl)]
            refine wp_store_mid 104 (.tmp 6) (.tmp 20) rfl (Z7.heap.size) 0 (verL (verF s)).toArray rfl rfl (by rw [verS]; exact hfin.2.1) HSy.out HOne.out ?_
            refine hK.out _ _ ?_ (fun hHeld => ?_)
            · exact hfin.2.2.2.2.2
            clear hK K
            refine wpAnyH_done (by kernel_rfl) ?_ _
            go_wp2
            go_meet
            exact ⟨_, q, _, rfl, rfl, hfin.2.2.1, hfin.2.2.2.1, hfin.2.2.2.2.1, hfin.2.2.2.2.2⟩
        · go_simp
          have hvl : w1.heap.size ≤ Z1.heap.size := hHeld.size
          refine hK.out _ _ ?_ (fun hHeld => ?_)
          · exact hHeld.alloc hHeld.size _
          clear hK K
          have hbn := belA (Below.refl Z1.heap.size Z1) (.cells (verL fun _ _ => 0).toArray 104)
          have hv := verB_new Z1 (fun _ _ => 0) 104
          rw [zeros77] at hHeld ⊢
          generalize Z1.alloc (.cells (verL fun _ _ => 0).toArray 104) = Z12 at hHeld hbn hv ⊢
          have hq := (hbn.cell (p := ⟨q, 0, none⟩) (World.block_lt_of_cell? Z1 _ hq)).trans hq
          refine wpAnyH_ready (rs := [3, 4]) (by kernel_rfl) (by simp) (AllReadyH.cons rfl (fun K hK => ?_) (AllReadyH.cons rfl (fun K hK => ?_) AllReadyH.nil))
          · go_simp
            refine (HVs.out Z12 hHeld).mono ?_
            rintro e Z13 ⟨rfl, hbn⟩
            refine hK.out _ _ ?_ (fun hHeld => ?_)
            · exact belJ hHeld hbn
            clear hK K
            have hq := (hbn.cell (p := ⟨q, 0, none⟩) (World.block_lt_of_cell? Z12 _ hq)).trans hq
            have hv := hv.below hbn hv.lt
            refine wpAnyH_ready (rs := [4]) (by kernel_rfl) (by simp) (AllReadyH.cons rfl (fun K hK => ?_) AllReadyH.nil)
            go_simp
            have hcl : w1.heap.size ≤ Z13.heap.size := hHeld.size
            refine hK.out _ _ ?_ (fun hHeld => ?_)
            · exact hHeld.alloc hHeld.size _
            clear hK K
            have hbn := belA (Below.refl Z13.heap.size Z13) (.cells #[.nilFunc] 100)
            have hc := heap_alloc_new Z13 (.cells #[.nilFunc] 100)
            generalize Z13.alloc (.cells #[.nilFunc] 100) = Z14 at hHeld hbn hc ⊢
            have hq := (hbn.cell (p := ⟨q, 0, none⟩) (World.block_lt_of_cell? Z13 _ hq)).trans hq
            have hv := hv.below hbn hv.lt
            have hfin := HFin.out Z14 q (Z13.heap.size) (Z1.heap.size) hHeld hq hc hv hcl hvl
            have x0 : Z14.cell? ⟨Z13.heap.size, 0, none⟩ = some .nilFunc := cell_of_row _ _ _ _ 100 _ hc
            have x1 := frozen_of_row Z14 (Z13.heap.size) 0 _ 100 hc
            refine wpAnyH_ready (rs := [6]) (by kernel_rfl) (by simp) (AllReadyH.cons rfl (fun K hK => ?_) AllReadyH.nil)
            go_simp
            refine hK.out _ _ ?_ (fun hHeld => ?_)
            · exact hfin.1
            clear hK K
            refine wpAnyH_ready (rs := [7]) (by kernel_rfl) (by simp) (AllReadyH.cons rfl (fun K hK => ?_) AllReadyH.nil)
            rw [if_pos (by rfl)]
            refine wp_store_mid 104 (.tmp 6) (.tmp 20) rfl (Z1.heap.size) 0 (verL (verF s)).toArray rfl rfl (by rw [verS]; exact hfin.2.1) HSy.out HOne.out ?_
            refine hK.out _ _ ?_ (fun hHeld => ?_)
            · exact hfin.2.2.2.2.2
            clear hK K
            refine wpAnyH_done (by kernel_rfl) ?_ _
            go_wp2
            go_meet
            exact ⟨_, q, _, rfl, rfl, hfin.2.2.1, hfin.2.2.2.1, hfin.2.2.2.2.1, hfin.2.2.2.2.2⟩
          · go_simp
            have hcl : w1.heap.size ≤ Z12.heap.size := hHeld.size
            refine hK.out _ _ ?_ (fun hHeld => ?_)
            · exact hHeld.alloc hHeld.size _
            clear hK K
            have hbn := belA (Below.refl Z12.heap.size Z12) (.cells #[.nilFunc] 100)
            have hc := heap_alloc_new Z12 (.cells #[.nilFunc] 100)
            generalize Z12.alloc (.cells #[.nilFunc] 100) = Z15 at hHeld hbn hc ⊢
            have hq := (hbn.cell (p := ⟨q, 0, none⟩) (World.block_lt_of_cell? Z12 _ hq)).trans hq
            have hv := hv.below hbn hv.lt
            refine wpAnyH_ready (rs := [3]) (by kernel_rfl) (by simp) (AllReadyH.cons rfl (fun K hK => ?_) AllReadyH.nil)
            go_simp
            refine (HVs.out Z15 hHeld).mono ?_
            rintro e Z16 ⟨rfl, hbn⟩
            refine hK.out _ _ ?_ (fun hHeld => ?_)
            · exact belJ hHeld hbn
            clear hK K
            have hq := (hbn.cell (p := ⟨q, 0, none⟩) (World.block_lt_of_cell? Z15 _ hq)).trans hq
            have hc := (hbn.block _ (lt_of_heap hc)).trans hc
            have hv := hv.below hbn hv.lt
            have hfin := HFin.out Z16 q (Z12.heap.size) (Z1.heap.size) hHeld hq hc hv hcl hvl
            have x0 : Z16.cell? ⟨Z12.heap.size, 0, none⟩ = some .nilFunc := cell_of_row _ _ _ _ 100 _ hc
            have x1 := frozen_of_row Z16 (Z12.heap.size) 0 _ 100 hc
            refine wpAnyH_ready (rs := [6]) (by kernel_rfl) (by simp) (AllReadyH.cons rfl (fun K hK => ?_) AllReadyH.nil)
            go_simp
            refine hK.out _ _ ?_ (fun hHeld => ?_)
            · exact hfin.1
            clear hK K
            refine wpAnyH_ready (rs := [7]) (by kernel_rfl) (by simp) (AllReadyH.cons rfl (fun K hK => ?_) AllReadyH.nil)
            rw [if_pos (by rfl)]
            refine wp_store_mid 104 (.tmp 6) (.tmp 20) rfl (Z1.heap.size) 0 (verL (verF s)).toArray rfl rfl (by rw [verS]; exact hfin.2.1) HSy.out HOne.out ?_
            refine hK.out _ _ ?_ (fun hHeld => ?_)
            · exact hfin.2.2.2.2.2
            clear hK K
            refine wpAnyH_done (by kernel_rfl) ?_ _
            go_wp2
            go_meet
            exact ⟨_, q, _, rfl, rfl, hfin.2.2.1, hfin.2.2.2.1, hfin.2.2.2.2.1, hfin.2.2.2.2.2⟩
      · go_simp
        have hcl : w1.heap.size ≤ Z0.heap.size := hHeld.size
        refine hK.out _ _ ?_ (fun hHeld => ?_)
        · exact hHeld.alloc hHeld.size _
        clear hK K
        have hbn := belA (Below.refl Z0.heap.size Z0) (.cells #[.nilFunc] 100)
        have hc := heap_alloc_new Z0 (.cells #[.nilFunc] 100)
        generalize Z0.alloc (.cells #[.nilFunc] 100) = Z17 at hHeld hbn hc ⊢
        refine wpAnyH_ready (rs := [1, 5]) (by kernel_rfl) (by simp) (AllReadyH.cons rfl (fun K hK => ?_) (AllReadyH.cons rfl (fun K hK => ?_) AllReadyH.nil))
        · go_simp
          refine (HCm.out Z17).mono ?_
          rintro e Z18 ⟨q, rfl, hq, hbn⟩
          refine hK.out _ _ ?_ (fun hHeld => ?_)
          · exact belJ hHeld hbn
          clear hK K
          have hc := (hbn.block _ (lt_of_heap hc)).trans hc
          refine wpAnyH_ready (rs := [3, 5]) (by kernel_rfl) (by simp) (AllReadyH.cons rfl (fun K hK => ?_) (AllReadyH.cons rfl (fun K hK => ?_) AllReadyH.nil))
          · go_simp
            refine (HVs.out Z18 hHeld).mono ?_
            rintro e Z19 ⟨rfl, hbn⟩
            refine hK.out _ _ ?_ (fun hHeld => ?_)
            · exact belJ hHeld hbn
            clear hK K
            have hq := (hbn.cell (p := ⟨q, 0, none⟩) (World.block_lt_of_cell? Z18 _ hq)).trans hq
            have hc := (hbn.block _ (lt_of_heap hc)).trans hc
            refine wpAnyH_ready (rs := [5]) (by kernel_rfl) (by simp) (AllReadyH.cons rfl (fun K hK => ?_) AllReadyH.nil)
            go_simp
            have hvl : w1.heap.size ≤ Z19.heap.size := hHeld.size
            refine hK.out _ _ ?_ (fun hHeld => ?_)
            · exact hHeld.alloc hHeld.size _
            clear hK K
            have hbn := belA (Below.refl Z19.heap.size Z19) (.cells (verL fun _ _ => 0).toArray 104)
            have hv := verB_new Z19 (fun _ _ => 0) 104
            rw [zeros77] at hHeld ⊢
            generalize Z19.alloc (.cells (verL fun _ _ => 0).toArray 104) = Z20 at hHeld hbn hv ⊢
            have hq := (hbn.cell (p := ⟨q, 0, none⟩) (World.block_lt_of_cell? Z19 _ hq)).trans hq
            have hc := (hbn.block _ (lt_of_heap hc)).trans hc
            have hfin := HFin.out Z20 q (Z0.heap.size) (Z19.heap.size) hHeld hq hc hv hcl hvl
            have x0 : Z20.cell? ⟨Z0.heap.size, 0, none⟩ = some .nilFunc := cell_of_row _ _ _ _ 100 _ hc
            have x1 := frozen_of_row Z20 (Z0.heap.size) 0 _ 100 hc
            refine wpAnyH_ready (rs := [6]) (by kernel_rfl) (by simp) (AllReadyH.cons rfl (fun K hK => ?_) AllReadyH.nil)
            go_simp
            refine hK.out _ _ ?_ (fun hHeld => ?_)
            · exact hfin.1
            clear hK K
            refine wpAnyH_ready (rs := [7]) (by kernel_rfl) (by simp) (AllReadyH.cons rfl (fun K hK => ?_) AllReadyH.nil)
            rw [if_pos (by rfl)]
            refine wp_store_mid 104 (.tmp 6) (.tmp 20) rfl (Z19.heap.size) 0 (verL (verF s)).toArray rfl rfl (by rw [verS]; exact hfin.2.1) HSy.out HOne.out ?_
            refine hK.out _ _ ?_ (fun hHeld => ?_)
            · exact hfin.2.2.2.2.2
            clear hK K
            refine wpAnyH_done (by kernel_rfl) ?_ _
            go_wp2
            go_meet
            exact ⟨_, q, _, rfl, rfl, hfin.2.2.1, hfin.2.2.2.1, hfin.2.2.2.2.1, hfin.2.2.2.2.2⟩
          · go_simp
            have hvl : w1.heap.size ≤ Z18.heap.size := hHeld.size
            refine hK.out _ _ ?_ (fun hHeld => ?_)
            · exact hHeld.alloc hHeld.size _
            clear hK K
            have hbn := belA (Below.refl Z18.heap.size Z18) (.cells (verL fun _ _ => 0).toArray 104)
            have hv := verB_new Z18 (fun _ _ => 0) 104
            rw [zeros77] at hHeld ⊢
            generalize Z18.alloc (.cells (verL fun _ _ => 0).toArray 104) = Z21 at hHeld hbn hv ⊢
            have hq := (hbn.cell (p := ⟨q, 0, none⟩) (World.block_lt_of_cell? Z18 _ hq)).trans hq
            have hc := (hbn.block _ (lt_of_heap hc)).trans hc
            refine wpAnyH_ready (rs := [3]) (by kernel_rfl) (by simp) (AllReadyH.cons rfl (fun K hK => ?_) AllReadyH.nil)
            go_simp
            refine (HVs.out Z21 hHeld).mono ?_
            rintro e Z22 ⟨rfl, hbn⟩
            refine hK.out _ _ ?_ (fun hHeld => ?_)
            · exact belJ hHeld hbn
            clear hK K
            have hq := (hbn.cell (p := ⟨q, 0, none⟩) (World.block_lt_of_cell? Z21 _ hq)).trans hq
            have hc := (hbn.block _ (lt_of_heap hc)).trans hc
            have hv := hv.below hbn hv.lt
            have hfin := HFin.out Z22 q (Z0.heap.size) (Z18.heap.size) hHeld hq hc hv hcl hvl
            have x0 : Z22.cell? ⟨Z0.heap.size, 0, none⟩ = some .nilFunc := cell_of_row _ _ _ _ 100 _ hc
            have x1 := frozen_of_row Z22 (Z0.heap.size) 0 _ 100 hc
            refine wpAnyH_ready (rs := [6]) (by kernel_rfl) (by simp) (AllReadyH.cons rfl (fun K hK => ?_) AllReadyH.nil)
            go_simp
            refine hK.out _ _ ?_ (fun hHeld => ?_)
            · exact hfin.1
            clear hK K
            refine wpAnyH_ready (rs := [7]) (by kernel_rfl) (by simp) (AllReadyH.cons rfl (fun K hK => ?_) AllReadyH.nil)
            rw [if_pos (by rfl)]
            refine wp_store_mid 104 (.tmp 6) (.tmp 20) rfl (Z18.heap.size) 0 (verL (verF s)).toArray rfl rfl (by rw [verS]; exact hfin.2.1) HSy.out HOne.out ?_
            refine hK.out _ _ ?_ (fun hHeld => ?_)
            · exact hfin.2.2.2.2.2
            clear hK K
            refine wpAnyH_done (by kernel_rfl) ?_ _
            go_wp2
            go_meet
            exact ⟨_, q, _, rfl, rfl, hfin.2.2.1, hfin.2.2.2.1, hfin.2.2.2.2.1, hfin.2.2.2.2.2⟩
        · go_simp
          have hvl : w1.heap.size ≤ Z17.heap.size := hHeld.size
          refine hK.out _ _ ?_ (fun hHeld => ?_)
          · exact hHeld.alloc hHeld.size _
          clear hK K
          have hbn := belA (Below.refl Z17.heap.size Z17) (.cells (verL fun _ _ => 0).toArray 104)
          have hv := verB_new Z17 (fun _ _ => 0) 104
          rw [zeros77] at hHeld ⊢
          generalize Z17.alloc (.cells (verL fun _ _ => 0).toArray 104) = Z23 at hHeld hbn hv ⊢
          have hc := (hbn.block _ (lt_of_heap hc)).trans hc
          refine wpAnyH_ready (rs := [1]) (by kernel_rfl) (by simp) (AllReadyH.cons rfl (fun K hK => ?_) AllReadyH.nil)
          go_simp
          refine (HCm.out Z23).mono ?_
          rintro e Z24 ⟨q, rfl, hq, hbn⟩
          refine hK.out _ _ ?_ (fun hHeld => ?_)
          · exact belJ hHeld hbn
          clear hK K
          have hc := (hbn.block _ (lt_of_heap hc)).trans hc
          have hv := hv.below hbn hv.lt
          refine wpAnyH_ready (rs := [3]) (by kernel_rfl) (by simp) (AllReadyH.cons rfl (fun K hK => ?_) AllReadyH.nil)
          go_simp
          refine (HVs.out Z24 hHeld).mono ?_
          rintro e Z25 ⟨rfl, hbn⟩
          refine hK.out _ _ ?_ (fun hHeld => ?_)
          · exact belJ hHeld hbn
          clear hK K
          have hq := (hbn.cell (p := ⟨q, 0, none⟩) (World.block_lt_of_cell? Z24 _ hq)).trans hq
          have hc := (hbn.block _ (lt_of_heap hc)).trans hc
          have hv := hv.below hbn hv.lt
          have hfin := HFin.out Z25 q (Z0.heap.size) (Z17.heap.size) hHeld hq hc hv hcl hvl
          have x0 : Z25.cell? ⟨Z0.heap.size, 0, none⟩ = some .nilFunc := cell_of_row _ _ _ _ 100 _ hc
          have x1 := frozen_of_row Z25 (Z0.heap.size) 0 _ 100 hc
          refine wpAnyH_ready (rs := [6]) (by kernel_rfl) (by simp) (AllReadyH.cons rfl (fun K hK => ?_) AllReadyH.nil)
          go_simp
          refine hK.out _ _ ?_ (fun hHeld => ?_)
          · exact hfin.1
          clear hK K
          refine wpAnyH_ready (rs := [7]) (by kernel_rfl) (by simp) (AllReadyH.cons rfl (fun K hK => ?_) AllReadyH.nil)
          rw [if_pos (by rfl)]
          refine wp_store_mid 104 (.tmp 6) (.tmp 20) rfl (Z17.heap.size) 0 (verL (verF s)).toArray rfl rfl (by rw [verS]; exact hfin.2.1) HSy.out HOne.out ?_
          refine hK.out _ _ ?_ (fun hHeld => ?_)
          · exact hfin.2.2.2.2.2
          clear hK K
          refine wpAnyH_done (by kernel_rfl) ?_ _
          go_wp2
          go_meet
          exact ⟨_, q, _, rfl, rfl, hfin.2.2.1, hfin.2.2.2.1, hfin.2.2.2.2.1, hfin.2.2.2.2.2⟩
      · go_simp
        have hvl : w1.heap.size ≤ Z0.heap.size := hHeld.size
        refine hK.out _ _ ?_ (fun hHeld => ?_)
        · exact hHeld.alloc hHeld.size _
        clear hK K
        have hbn := belA (Below.refl Z0.heap.size Z0) (.cells (verL fun _ _ => 0).toArray 104)
        have hv := verB_new Z0 (fun _ _ => 0) 104
        rw [zeros77] at hHeld ⊢
        generalize Z0.alloc (.cells (verL fun _ _ => 0).toArray 104) = Z26 at hHeld hbn hv ⊢
        refine wpAnyH_ready (rs := [1, 4]) (by kernel_rfl) (by simp) (AllReadyH.cons rfl (fun K hK => ?_) (AllReadyH.cons rfl (fun K hK => ?_) AllReadyH.nil))
        · go_simp
          refine (HCm.out Z26).mono ?_
          rintro e Z27 ⟨q, rfl, hq, hbn⟩
          refine hK.out _ _ ?_ (fun hHeld => ?_)
          · exact belJ hHeld hbn
          clear hK K
          have hv := hv.below hbn hv.lt
          refine wpAnyH_ready (rs := [3, 4]) (by kernel_rfl) (by simp) (AllReadyH.cons rfl (fun K hK => ?_) (AllReadyH.cons rfl (fun K hK => ?_) AllReadyH.nil))
          · go_simp
            refine (HVs.out Z27 hHeld).mono ?_
            rintro e Z28 ⟨rfl, hbn⟩
            refine hK.out _ _ ?_ (fun hHeld => ?_)
            · exact belJ hHeld hbn
            clear hK K
            have hq := (hbn.cell (p := ⟨q, 0, none⟩) (World.block_lt_of_cell? Z27 _ hq)).trans hq
            have hv := hv.below hbn hv.lt
            refine wpAnyH_ready (rs := [4]) (by kernel_rfl) (by simp) (AllReadyH.cons rfl (fun K hK => ?_) AllReadyH.nil)
            go_simp
            have hcl : w1.heap.size ≤ Z28.heap.size := hHeld.size
            refine hK.out _ _ ?_ (fun hHeld => ?_)
            · exact hHeld.alloc hHeld.size _
            clear hK K
            have hbn := belA (Below.refl Z28.heap.size Z28) (.cells #[.nilFunc] 100)
            have hc := heap_alloc_new Z28 (.cells #[.nilFunc] 100)
            generalize Z28.alloc (.cells #[.nilFunc] 100) = Z29 at hHeld hbn hc ⊢
            have hq := (hbn.cell (p := ⟨q, 0, none⟩) (World.block_lt_of_cell? Z28 _ hq)).trans hq
            have hv := hv.below hbn hv.lt
            have hfin := HFin.out Z29 q (Z28.heap.size) (Z0.heap.size) hHeld hq hc hv hcl hvl
            have x0 : Z29.cell? ⟨Z28.heap.size, 0, none⟩ = some .nilFunc := cell_of_row _ _ _ _ 100 _ hc
            have x1 := frozen_of_row Z29 (Z28.heap.size) 0 _ 100 hc
            refine wpAnyH_ready (rs := [6]) (by kernel_rfl) (by simp) (AllReadyH.cons rfl (fun K hK => ?_) AllReadyH.nil)
            go_simp
            refine hK.out _ _ ?_ (fun hHeld => ?_)
            · exact hfin.1
            clear hK K
            refine wpAnyH_ready (rs := [7]) (by kernel_rfl) (by simp) (AllReadyH.cons rfl (fun K hK => ?_) AllReadyH.nil)
            rw [if_pos (by rfl)]
            refine wp_store_mid 104 (.tmp 6) (.tmp 20) rfl (Z0.heap.size) 0 (verL (verF s)).toArray rfl rfl (by rw [verS]; exact hfin.2.1) HSy.out HOne.out ?_
            refine hK.out _ _ ?_ (fun hHeld => ?_)
            · exact hfin.2.2.2.2.2
            clear hK K
            refine wpAnyH_done (by kernel_rfl) ?_ _
            go_wp2
            go_meet
            exact ⟨_, q, _, rfl, rfl, hfin.2.2.1, hfin.2.2.2.1, hfin.2.2.2.2.1, hfin.2.2.2.2.2⟩
          · go_simp
            have hcl : w1.heap.size ≤ Z27.heap.size := hHeld.size
            refine hK.out _ _ ?_ (fun hHeld => ?_)
            · exact hHeld.alloc hHeld.size _
            clear hK K
            have hbn := belA (Below.refl Z27.heap.size Z27) (.cells #[.nilFunc] 100)
            have hc := heap_alloc_new Z27 (.cells #[.nilFunc] 100)
            generalize Z27.alloc (.cells #[.nilFunc] 100) = Z30 at hHeld hbn hc ⊢
            have hq := (hbn.cell (p := ⟨q, 0, none⟩) (World.block_lt_of_cell? Z27 _ hq)).trans hq
            have hv := hv.below hbn hv.lt
            refine wpAnyH_ready (rs := [3]) (by kernel_rfl) (by simp) (AllReadyH.cons rfl (fun K hK => ?_) AllReadyH.nil)
            go_simp
            refine (HVs.out Z30 hHeld).mono ?_
            rintro e Z31 ⟨rfl, hbn⟩
            refine hK.out _ _ ?_ (fun hHeld => ?_)
            · exact belJ hHeld hbn
            clear hK K
            have hq := (hbn.cell (p := ⟨q, 0, none⟩) (World.block_lt_of_cell? Z30 _ hq)).trans hq
            have hc := (hbn.block _ (lt_of_heap hc)).trans hc
            have hv := hv.below hbn hv.lt
            have hfin := HFin.out Z31 q (Z27.heap.size) (Z0.heap.size) hHeld hq hc hv hcl hvl
            have x0 : Z31.cell? ⟨Z27.heap.size, 0, none⟩ = some .nilFunc := cell_of_row _ _ _ _ 100 _ hc
            have x1 := frozen_of_row Z31 (Z27.heap.size) 0 _ 100 hc
            refine wpAnyH_ready (rs := [6]) (by kernel_rfl) (by simp) (AllReadyH.cons rfl (fun K hK => ?_) AllReadyH.nil)
            go_simp
            refine hK.out _ _ ?_ (fun hHeld => ?_)
            · exact hfin.1
            clear hK K
            refine wpAnyH_ready (rs := [7]) (by kernel_rfl) (by simp) (AllReadyH.cons rfl (fun K hK => ?_) AllReadyH.nil)
            rw [if_pos (by rfl)]
            refine wp_store_mid 104 (.tmp 6) (.tmp 20) rfl (Z0.heap.size) 0 (verL (verF s)).toArray rfl rfl (by rw [verS]; exact hfin.2.1) HSy.out HOne.out ?_
            refine hK.out _ _ ?_ (fun hHeld => ?_)
            · exact hfin.2.2.2.2.2
            clear hK K
            refine wpAnyH_done (by kernel_rfl) ?_ _
            go_wp2
            go_meet
            exact ⟨_, q, _, rfl, rfl, hfin.2.2.1, hfin.2.2.2.1, hfin.2.2.2.2.1, hfin.2.2.2.2.2⟩
        · go_simp
          have hcl : w1.heap.size ≤ Z26.heap.size := hHeld.size
          refine hK.out _ _ ?_ (fun hHeld => ?_)
          · exact hHeld.alloc hHeld.size _
          clear hK K
          have hbn := belA (Below.refl Z26.heap.size Z26) (.cells #[.nilFunc] 100)
          have hc := heap_alloc_new Z26 (.cells #[.nilFunc] 100)
          generalize Z26.alloc (.cells #[.nilFunc] 100) = Z32 at hHeld hbn hc ⊢
          have hv := hv.below hbn hv.lt
          refine wpAnyH_ready (rs := [1]) (by kernel_rfl) (by simp) (AllReadyH.cons rfl (fun K hK => ?_) AllReadyH.nil)
          go_simp
          refine (HCm.out Z32).mono ?_
          rintro e Z33 ⟨q, rfl, hq, hbn⟩
          refine hK.out _ _ ?_ (fun hHeld => ?_)
          · exact belJ hHeld hbn
          clear hK K
          have hc := (hbn.block _ (lt_of_heap hc)).trans hc
          have hv := hv.below hbn hv.lt
          refine wpAnyH_ready (rs := [3]) (by kernel_rfl) (by simp) (AllReadyH.cons rfl (fun K hK => ?_) AllReadyH.nil)
          go_simp
          refine (HVs.out Z33 hHeld).mono ?_
          rintro e Z34 ⟨rfl, hbn⟩
          refine hK.out _ _ ?_ (fun hHeld => ?_)
          · exact belJ hHeld hbn
          clear hK K
          have hq := (hbn.cell (p := ⟨q, 0, none⟩) (World.block_lt_of_cell? Z33 _ hq)).trans hq
          have hc := (hbn.block _ (lt_of_heap hc)).trans hc
          have hv := hv.below hbn hv.lt
          have hfin := HFin.out Z34 q (Z26.heap.size) (Z0.heap.size) hHeld hq hc hv hcl hvl
          have x0 : Z34.cell? ⟨Z26.heap.size, 0, none⟩ = some .nilFunc := cell_of_row _ _ _ _ 100 _ hc
          have x1 := frozen_of_row Z34 (Z26.heap.size) 0 _ 100 hc
          refine wpAnyH_ready (rs := [6]) (by kernel_rfl) (by simp) (AllReadyH.cons rfl (fun K hK => ?_) AllReadyH.nil)
          go_simp
          refine hK.out _ _ ?_ (fun hHeld => ?_)
          · exact hfin.1
          clear hK K
          refine wpAnyH_ready (rs := [7]) (by kernel_rfl) (by simp) (AllReadyH.cons rfl (fun K hK => ?_) AllReadyH.nil)
          rw [if_pos (by rfl)]
          refine wp_store_mid 104 (.tmp 6) (.tmp 20) rfl (Z0.heap.size) 0 (verL (verF s)).toArray rfl rfl (by rw [verS]; exact hfin.2.1) HSy.out HOne.out ?_
          refine hK.out _ _ ?_ (fun hHeld => ?_)
          · exact hfin.2.2.2.2.2
          clear hK K
          refine wpAnyH_done (by kernel_rfl) ?_ _
          go_wp2
          go_meet
          exact ⟨_, q, _, rfl, rfl, hfin.2.2.1, hfin.2.2.2.1, hfin.2.2.2.2.1, hfin.2.2.2.2.2⟩
      --END4
    case rest =>
      rename World => W2
      obtain ⟨Bc, q, Bw, rfl, rfl, hfc, hfq, hvw, hbx⟩ := hcut
      have HB2 := hideIt (belJ HB1.out hbx)
      have e0 := (HX.out W2 hbx).1
      have e1 := (HX.out W2 hbx).2
      have hrb2 := (hbx.block _ (lt_of_heap hrb1)).trans hrb1
      have HLt2 : Hid (w.heap.size + 1 < W2.heap.size) := lt_of_heap hrb2
      clear HX d0 d1 hrb1 hbx HB1
      have HX2 : Hid (∀ Z, Below W2.heap.size W2 Z → Z.cell? ⟨w.heap.size, 0, none⟩ = some (.slice a s.txs.length ca) ∧ Z.cell? ⟨w.heap.size, 1, none⟩ = some (.slice b s.ord.length cb)) := fun Z hZ => ⟨(hZ.cell (p := ⟨w.heap.size, 0, none⟩) (World.block_lt_of_cell? W2 _ e0)).trans e0, (hZ.cell (p := ⟨w.heap.size, 1, none⟩) (World.block_lt_of_cell? W2 _ e1)).trans e1⟩
      go_upto_region 5 with fail
      go_cut [7] from 21 to 31 (fun x wx => ∃ Be B1 r1 B2 r2 B3 r3, x = .pointer (some ⟨Be, 0, none⟩) ∧ EdgAt wx W2.heap.size s.txs.length B1 r1 B2 r2 B3 r3 (ovB s) (fun _ _ => false) (fun _ _ => false) ∧ wx.heap[Be]? = some (.cells #[.slice (some ⟨B1, 0, none⟩) s.txs.length s.txs.length, .slice (some ⟨B2, 0, none⟩) s.txs.length s.txs.length, .slice (some ⟨B3, 0, none⟩) s.txs.length s.txs.length] 58 (0, 0)) ∧ Below W2.heap.size W2 wx)
      case first =>
        have HOv : Hid (∀ Z, Below W2.heap.size W2 Z → Calls Tryd.prog 46 #[.agg #[.slice a s.txs.length ca, .slice b s.ord.length cb]] Z fun e w' => MatTold s.txs.length (ovB s) Z e w') := fun Z hZ => over_any s ok a b ca cb Z (HS.out.below (belJ HB2.out hZ))
        have HFin5 : Hid (∀ (Z : World) (Be B1 B2 B3 l1 l2 l3 : Nat) (r1 r2 r3 : Nat → Nat), Below W2.heap.size W2 Z → MatAt Z l1 B1 s.txs.length s.txs.length r1 (ovB s) → MatAt Z l2 B2 s.txs.length s.txs.length r2 (fun _ _ => false) → MatAt Z l3 B3 s.txs.length s.txs.length r3 (fun _ _ => false) →
            W2.heap.size ≤ l1 → W2.heap.size ≤ l2 → W2.heap.size ≤ l3 → (∀ i, i < s.txs.length → r1 i < l2) → (∀ i, i < s.txs.length → r1 i < l3) → (∀ i, i < s.txs.length → r2 i < l3) → Z.heap[Be]? = some (.cells #[.slice none 0 0, .slice none 0 0, .slice none 0 0] 58 (0, 0)) → W2.heap.size ≤ Be →
            (let Z' := ((Z.setCell ⟨Be, 0, none⟩ (.slice (some ⟨B1, 0, none⟩) s.txs.length s.txs.length)).setCell ⟨Be, 1, none⟩ (.slice (some ⟨B2, 0, none⟩) s.txs.length s.txs.length)).setCell ⟨Be, 2, none⟩ (.slice (some ⟨B3, 0, none⟩) s.txs.length s.txs.length)
             EdgAt Z' W2.heap.size s.txs.length B1 r1 B2 r2 B3 r3 (ovB s) (fun _ _ => false) (fun _ _ => false) ∧ Z'.heap[Be]? = some (.cells #[.slice (some ⟨B1, 0, none⟩) s.txs.length s.txs.length, .slice (some ⟨B2, 0, none⟩) s.txs.length s.txs.length, .slice (some ⟨B3, 0, none⟩) s.txs.length s.txs.length] 58 (0, 0)) ∧ Below W2.heap.size W2 Z')) := fun Z Be B1 B2 B3 l1 l2 l3 r1 r2 r3 hB m1 m2 m3 h1 h2 h3 g12 g13 g23 hbk hel => by
          have nb : ∀ {g n : Nat} {f : Nat → Bool}, BitsAt Z g n f → g ≠ Be := fun {g n f} hg e => by
            obtain ⟨cur, hc⟩ := hg.blk
            rw [e, hbk] at hc
            injection hc with hc
            injection hc with _ hc
            cases hc
          have nm : ∀ {l B n m : Nat} {rb : Nat → Nat} {M : Nat → Nat → Bool}, MatAt Z l B n m rb M → B ≠ Be := fun {l B n m rb M} hm e => by
            obtain ⟨cur, hc⟩ := hm.blk
            rw [e, hbk] at hc
            injection hc with hc
            injection hc with _ hc
            cases hc
          have kp : ∀ {l B : Nat} {rb : Nat → Nat} {M : Nat → Nat → Bool}, MatAt Z l B s.txs.length s.txs.length rb M → W2.heap.size ≤ l → ∀ x y z, MatAt (((Z.setCell ⟨Be, 0, none⟩ x).setCell ⟨Be, 1, none⟩ y).setCell ⟨Be, 2, none⟩ z) W2.heap.size B s.txs.length s.txs.length rb M := fun {l B rb M} hm hl x y z =>
            (((hm.mono hl).keep (p := ⟨Be, 0, none⟩) (nm hm) (fun i hi => nb (hm.row i hi)) x).keep (p := ⟨Be, 1, none⟩) (nm hm) (fun i hi => nb (hm.row i hi)) y).keep (p := ⟨Be, 2, none⟩) (nm hm) (fun i hi => nb (hm.row i hi)) z
          refine ⟨⟨kp m1 h1 _ _ _, kp m2 h2 _ _ _, kp m3 h3 _ _ _, fun i j hi hj e => ?_, fun i j hi hj e => ?_, fun i j hi hj e => ?_⟩, tri_set hbk _ _ _, ((hB.setCell hel _).setCell hel _).setCell hel _⟩
          · have := g12 i hi; have := (m2.from_ j hj).1; omega
          · have := g13 i hi; have := (m3.from_ j hj).1; omega
          · have := g23 i hi; have := (m3.from_ j hj).1; omega
        clear hfc hfq hvw hrb2 e0 e1
        refine wp_region_held_drew (S := (fun w' => Below W2.heap.size W2 w')) (by kernel_rfl) (Below.refl _ _).drew (fun hHeld => ?_)
      --GEN5
        refine wpAnyH_take (i := 0) (v := ?_) rfl (by kernel_rfl) (by kernel_rfl) (by kernel_rfl) (fun _ _ _ h => h) (Or.inl ⟨by rfl, ?_⟩) (by assumption) ?_
        rotate_left 1
        · intro wz sb
          obtain ⟨y0, y1⟩ := HX2.out wz sb
          go_simp
          all_goals with_reducible rfl
        simp only [Act.put, List.setIfInBounds_toArray, List.set_cons_zero, List.set_cons_succ, List.getElem_toArray, List.getElem_cons_zero]
        refine wpAnyH_take (i := 2) (v := ?_) rfl (by kernel_rfl) (by kernel_rfl) (by kernel_rfl) (fun _ _ _ h => h) (Or.inl ⟨by rfl, ?_⟩) (by assumption) ?_
        rotate_left 1
        · intro wz sb
          obtain ⟨y0, y1⟩ := HX2.out wz sb
          go_simp
          all_goals with_reducible rfl
        simp only [Act.put, List.setIfInBounds_toArray, List.set_cons_zero, List.set_cons_succ, List.getElem_toArray, List.getElem_cons_zero, List.getElem_cons_succ]
        refine wpAnyH_take (i := 3) (v := ?_) rfl (by kernel_rfl) (by kernel_rfl) (by kernel_rfl) (fun _ _ _ h => h) (Or.inl ⟨by rfl, ?_⟩) (by assumption) ?_
        rotate_left 1
        · intro wz sb
          obtain ⟨y0, y1⟩ := HX2.out wz sb
          go_simp
          all_goals with_reducible rfl
        simp only [Act.put, List.setIfInBounds_toArray, List.set_cons_zero, List.set_cons_succ, List.getElem_toArray, List.getElem_cons_zero, List.getElem_cons_succ]
        refine wpAnyH_take (i := 4) (v := ?_) rfl (by kernel_rfl) (by kernel_rfl) (by kernel_rfl) (fun _ _ _ h => h) (Or.inl ⟨by rfl, ?_⟩) (by assumption) ?_
        rotate_left 1
        · intro wz sb
          obtain ⟨y0, y1⟩ := HX2.out wz sb
          go_simp
          all_goals with_reducible rfl
        simp only [Act.put, List.setIfInBounds_toArray, List.set_cons_zero, List.set_cons_succ, List.getElem_toArray, List.getElem_cons_zero, List.getElem_cons_succ]
        refine wpAnyH_take (i := 6) (v := ?_) rfl (by kernel_rfl) (by kernel_rfl) (by kernel_rfl) (fun _ _ _ h => h) (Or.inl ⟨by rfl, ?_⟩) (by assumption) ?_
        rotate_left 1
        · intro wz sb
          obtain ⟨y0, y1⟩ := HX2.out wz sb
          go_simp
          all_goals with_reducible rfl
        simp only [Act.put, List.setIfInBounds_toArray, List.set_cons_zero, List.set_cons_succ, List.getElem_toArray, List.getElem_cons_zero, List.getElem_cons_succ]
        refine wpAnyH_take (i := 7) (v := ?_) rfl (by kernel_rfl) (by kernel_rfl) (by kernel_rfl) (fun _ _ _ h => h) (Or.inl ⟨by rfl, ?_⟩) (by assumption) ?_
        rotate_left 1
        · intro wz sb
          obtain ⟨y0, y1⟩ := HX2.out wz sb
          go_simp
          all_goals with_reducible rfl
        simp only [Act.put, List.setIfInBounds_toArray, List.set_cons_zero, List.set_cons_succ, List.getElem_toArray, List.getElem_cons_zero, List.getElem_cons_succ]
        refine wpAnyH_take (i := 8) (v := ?_) rfl (by kernel_rfl) (by kernel_rfl) (by kernel_rfl) (fun _ _ _ h => h) (Or.inl ⟨by rfl, ?_⟩) (by assumption) ?_
        rotate_left 1
        · intro wz sb
          obtain ⟨y0, y1⟩ := HX2.out wz sb
          go_simp
          all_goals with_reducible rfl
        simp only [Act.put, List.setIfInBounds_toArray, List.set_cons_zero, List.set_cons_succ, List.getElem_toArray, List.getElem_cons_zero, List.getElem_cons_succ]
        generalize W2.drew = Y0 at hHeld ⊢
        refine wpAnyH_ready (rs := [1, 11]) (by kernel_rfl) (by simp) (AllReadyH.cons rfl (fun K hK => ?_) (AllReadyH.cons rfl (fun K hK => ?_) AllReadyH.nil))
        · go_simp
          refine (HOv.out Y0 hHeld).mono ?_
          rintro e Y1 ⟨B1, r1, rfl, m1, hbn⟩
          have hl1 : W2.heap.size ≤ Y0.heap.size := hHeld.size
          refine hK.out _ _ ?_ (fun hHeld => ?_)
          · exact belJ hHeld hbn
          clear hK K
          refine wpAnyH_ready (rs := [5, 11]) (by kernel_rfl) (by simp) (AllReadyH.cons rfl (fun K hK => ?_) (AllReadyH.cons rfl (fun K hK => ?_) AllReadyH.nil))
          · go_simp
            refine (blankP_any s.txs.length (by omega) Y1).mono ?_
            rintro e Y2 ⟨B2, r2, rfl, m2, hbn⟩
            have hl2 : W2.heap.size ≤ Y1.heap.size := hHeld.size
            have g12 : ∀ i, i < s.txs.length → r1 i < Y1.heap.size := fun i hi => (m1.row i hi).lt
            refine hK.out _ _ ?_ (fun hHeld => ?_)
            · exact belJ hHeld hbn
            clear hK K
            have m1 := m1.below hbn
            refine wpAnyH_ready (rs := [9, 11]) (by kernel_rfl) (by simp) (AllReadyH.cons rfl (fun K hK => ?_) (AllReadyH.cons rfl (fun K hK => ?_) AllReadyH.nil))
            · go_simp
              refine (blankP_any s.txs.length (by omega) Y2).mono ?_
              rintro e Y3 ⟨B3, r3, rfl, m3, hbn⟩
              have hl3 : W2.heap.size ≤ Y2.heap.size := hHeld.size
              have g13 : ∀ i, i < s.txs.length → r1 i < Y2.heap.size := fun i hi => (m1.row i hi).lt
              have g23 : ∀ i, i < s.txs.length → r2 i < Y2.heap.size := fun i hi => (m2.row i hi).lt
              refine hK.out _ _ ?_ (fun hHeld => ?_)
              · exact belJ hHeld hbn
              clear hK K
              have m1 := m1.below hbn
              have m2 := m2.below hbn
              refine wpAnyH_ready (rs := [10, 11]) (by kernel_rfl) (by simp) (AllReadyH.cons rfl (fun K hK => ?_) (AllReadyH.cons rfl (fun K hK => ?_) AllReadyH.nil))
              · go_simp
                refine hK.out _ _ ?_ (fun hHeld => ?_)
                · exact hHeld
                clear hK K
                refine wpAnyH_ready (rs := [11]) (by kernel_rfl) (by simp) (AllReadyH.cons rfl (fun K hK => ?_) AllReadyH.nil)
                go_simp
                have hel : W2.heap.size ≤ Y3.heap.size := hHeld.size
                refine hK.out _ _ ?_ (fun hHeld => ?_)
                · exact hHeld.alloc hHeld.size _
                clear hK K
                have hbn := belA (Below.refl Y3.heap.size Y3) (.cells #[.slice none 0 0, .slice none 0 0, .slice none 0 0] 58)
                have hbk := heap_alloc_new Y3 (.cells #[.slice none 0 0, .slice none 0 0, .slice none 0 0] 58)
                generalize Y3.alloc (.cells #[.slice none 0 0, .slice none 0 0, .slice none 0 0] 58) = Y5 at hHeld hbn hbk ⊢
                have m1 := m1.below hbn
                have m2 := m2.below hbn
                have m3 := m3.below hbn
                have hfin := HFin5.out Y5 (Y3.heap.size) B1 B2 B3 _ _ _ r1 r2 r3 hHeld m1 m2 m3 hl1 hl2 hl3 g12 g13 g23 hbk hel
                have x0 : Y5.cell? ⟨Y3.heap.size, 0, none⟩ = some (.slice none 0 0) := cell_of_row _ _ _ _ 58 _ hbk
                have x1 : Y5.cell? ⟨Y3.heap.size, 1, none⟩ = some (.slice none 0 0) := cell_of_row _ _ _ _ 58 _ hbk
                have x2 : Y5.cell? ⟨Y3.heap.size, 2, none⟩ = some (.slice none 0 0) := cell_of_row _ _ _ _ 58 _ hbk
                have z0 := frozen_of_row Y5 (Y3.heap.size) 0 _ 58 hbk
                have z1 := frozen_of_row Y5 (Y3.heap.size) 1 _ 58 hbk
                have z2 := frozen_of_row Y5 (Y3.heap.size) 2 _ 58 hbk
                refine wpAnyH_ready (rs := [12]) (by kernel_rfl) (by simp) (AllReadyH.cons rfl (fun K hK => ?_) AllReadyH.nil)
                go_simp
                refine hK.out _ _ ?_ (fun hHeld => ?_)
                · exact hfin.2.2
                clear hK K
                refine wpAnyH_done (by kernel_rfl) ?_ _
                go_wp2
                go_meet
                exact ⟨_, B1, r1, B2, r2, B3, r3, rfl, hfin.1, hfin.2.1, hfin.2.2⟩
              · go_simp
                have hel : W2.heap.size ≤ Y3.heap.size := hHeld.size
                refine hK.out _ _ ?_ (fun hHeld => ?_)
                · exact hHeld.alloc hHeld.size _
                clear hK K
                have hbn := belA (Below.refl Y3.heap.size Y3) (.cells #[.slice none 0 0, .slice none 0 0, .slice none 0 0] 58)
                have hbk := heap_alloc_new Y3 (.cells #[.slice none 0 0, .slice none 0 0, .slice none 0 0] 58)
                generalize Y3.alloc (.cells #[.slice none 0 0, .slice none 0 0, .slice none 0 0] 58) = Y6 at hHeld hbn hbk ⊢
                have m1 := m1.below hbn
                have m2 := m2.below hbn
                have m3 := m3.below hbn
                refine wpAnyH_ready (rs := [10]) (by kernel_rfl) (by simp) (AllReadyH.cons rfl (fun K hK => ?_) AllReadyH.nil)
                go_simp
                refine hK.out _ _ ?_ (fun hHeld => ?_)
                · exact hHeld
                clear hK K
                have hfin := HFin5.out Y6 (Y3.heap.size) B1 B2 B3 _ _ _ r1 r2 r3 hHeld m1 m2 m3 hl1 hl2 hl3 g12 g13 g23 hbk hel
                have x0 : Y6.cell? ⟨Y3.heap.size, 0, none⟩ = some (.slice none 0 0) := cell_of_row _ _ _ _ 58 _ hbk
                have x1 : Y6.cell? ⟨Y3.heap.size, 1, none⟩ = some (.slice none 0 0) := cell_of_row _ _ _ _ 58 _ hbk
                have x2 : Y6.cell? ⟨Y3.heap.size, 2, none⟩ = some (.slice none 0 0) := cell_of_row _ _ _ _ 58 _ hbk
                have z0 := frozen_of_row Y6 (Y3.heap.size) 0 _ 58 hbk
                have z1 := frozen_of_row Y6 (Y3.heap.size) 1 _ 58 hbk
                have z2 := frozen_of_row Y6 (Y3.heap.size) 2 _ 58 hbk
                refine wpAnyH_ready (rs := [12]) (by kernel_rfl) (by simp) (AllReadyH.cons rfl (fun K hK => ?_) AllReadyH.nil)
                go_simp
                refine hK.out _ _ ?_ (fun hHeld => ?_)
                · exact hfin.2.2
                clear hK K
                refine wpAnyH_done (by kernel_rfl) ?_ _
                go_wp2
                go_meet
                exact ⟨_, B1, r1, B2, r2, B3, r3, rfl, hfin.1, hfin.2.1, hfin.2.2⟩
            · go_simp
              have hel : W2.heap.size ≤ Y2.heap.size := hHeld.size
              refine hK.out _ _ ?_ (fun hHeld => ?_)
              · exact hHeld.alloc hHeld.size _
              clear hK K
              have hbn := belA (Below.refl Y2.heap.size Y2) (.cells #[.slice none 0 0, .slice none 0 0, .slice none 0 0] 58)
              have hbk := heap_alloc_new Y2 (.cells #[.slice none 0 0, .slice none 0 0, .slice none 0 0] 58)
              generalize Y2.alloc (.cells #[.slice none 0 0, .slice none 0 0, .slice none 0 0] 58) = Y8 at hHeld hbn hbk ⊢
              have m1 := m1.below hbn
              have m2 := m2.below hbn
              refine wpAnyH_ready (rs := [9]) (by kernel_rfl) (by simp) (AllReadyH.cons rfl (fun K hK => ?_) AllReadyH.nil)
              go_simp
              refine (blankP_any s.txs.length (by omega) Y8).mono ?_
              rintro e Y9 ⟨B3, r3, rfl, m3, hbn⟩
              have hl3 : W2.heap.size ≤ Y8.heap.size := hHeld.size
              have g13 : ∀ i, i < s.txs.length → r1 i < Y8.heap.size := fun i hi => (m1.row i hi).lt
              have g23 : ∀ i, i < s.txs.length → r2 i < Y8.heap.size := fun i hi => (m2.row i hi).lt
              refine hK.out _ _ ?_ (fun hHeld => ?_)
              · exact belJ hHeld hbn
              clear hK K
              have m1 := m1.below hbn
              have m2 := m2.below hbn
              have hbk := (hbn.block _ (lt_of_heap hbk)).trans hbk
              refine wpAnyH_ready (rs := [10]) (by kernel_rfl) (by simp) (AllReadyH.cons rfl (fun K hK => ?_) AllReadyH.nil)
              go_simp
              refine hK.out _ _ ?_ (fun hHeld => ?_)
              · exact hHeld
              clear hK K
              have hfin := HFin5.out Y9 (Y2.heap.size) B1 B2 B3 _ _ _ r1 r2 r3 hHeld m1 m2 m3 hl1 hl2 hl3 g12 g13 g23 hbk hel
              have x0 : Y9.cell? ⟨Y2.heap.size, 0, none⟩ = some (.slice none 0 0) := cell_of_row _ _ _ _ 58 _ hbk
              have x1 : Y9.cell? ⟨Y2.heap.size, 1, none⟩ = some (.slice none 0 0) := cell_of_row _ _ _ _ 58 _ hbk
              have x2 : Y9.cell? ⟨Y2.heap.size, 2, none⟩ = some (.slice none 0 0) := cell_of_row _ _ _ _ 58 _ hbk
              have z0 := frozen_of_row Y9 (Y2.heap.size) 0 _ 58 hbk
              have z1 := frozen_of_row Y9 (Y2.heap.size) 1 _ 58 hbk
              have z2 := frozen_of_row Y9 (Y2.heap.size) 2 _ 58 hbk
              refine wpAnyH_ready (rs := [12]) (by kernel_rfl) (by simp) (AllReadyH.cons rfl (fun K hK => ?_) AllReadyH.nil)
              go_simp
              refine hK.out _ _ ?_ (fun hHeld => ?_)
              · exact hfin.2.2
              clear hK K
              refine wpAnyH_done (by kernel_rfl) ?_ _
              go_wp2
              go_meet
              exact ⟨_, B1, r1, B2, r2, B3, r3, rfl, hfin.1, hfin.2.1, hfin.2.2⟩
          · go_simp
            have hel : W2.heap.size ≤ Y1.heap.size := hHeld.size
            refine hK.out _ _ ?_ (fun hHeld => ?_)
            · exact hHeld.alloc hHeld.size _
            clear hK K
            have hbn := belA (Below.refl Y1.heap.size Y1) (.cells #[.slice none 0 0, .slice none 0 0, .slice none 0 0] 58)
            have hbk := heap_alloc_new Y1 (.cells #[.slice none 0 0, .slice none 0 0, .slice none 0 0] 58)
            generalize Y1.alloc (.cells #[.slice none 0 0, .slice none 0 0, .slice none 0 0] 58) = Y11 at hHeld hbn hbk ⊢
            have m1 := m1.below hbn
            refine wpAnyH_ready (rs := [5]) (by kernel_rfl) (by simp) (AllReadyH.cons rfl (fun K hK => ?_) AllReadyH.nil)
            go_simp
            refine (blankP_any s.txs.length (by omega) Y11).mono ?_
            rintro e Y12 ⟨B2, r2, rfl, m2, hbn⟩
            have hl2 : W2.heap.size ≤ Y11.heap.size := hHeld.size
            have g12 : ∀ i, i < s.txs.length → r1 i < Y11.heap.size := fun i hi => (m1.row i hi).lt
            refine hK.out _ _ ?_ (fun hHeld => ?_)
            · exact belJ hHeld hbn
            clear hK K
            have m1 := m1.below hbn
            have hbk := (hbn.block _ (lt_of_heap hbk)).trans hbk
            refine wpAnyH_ready (rs := [9]) (by kernel_rfl) (by simp) (AllReadyH.cons rfl (fun K hK => ?_) AllReadyH.nil)
            go_simp
            refine (blankP_any s.txs.length (by omega) Y12).mono ?_
            rintro e Y13 ⟨B3, r3, rfl, m3, hbn⟩
            have hl3 : W2.heap.size ≤ Y12.heap.size := hHeld.size
            have g13 : ∀ i, i < s.txs.length → r1 i < Y12.heap.size := fun i hi => (m1.row i hi).lt
            have g23 : ∀ i, i < s.txs.length → r2 i < Y12.heap.size := fun i hi => (m2.row i hi).lt
            refine hK.out _ _ ?_ (fun hHeld => ?_)
            · exact belJ hHeld hbn
            clear hK K
            have m1 := m1.below hbn
            have m2 := m2.below hbn
            have hbk := (hbn.block _ (lt_of_heap hbk)).trans hbk
            refine wpAnyH_ready (rs := [10]) (by kernel_rfl) (by simp) (AllReadyH.cons rfl (fun K hK => ?_) AllReadyH.nil)
            go_simp
            refine hK.out _ _ ?_ (fun hHeld => ?_)
            · exact hHeld
            clear hK K
            have hfin := HFin5.out Y13 (Y1.heap.size) B1 B2 B3 _ _ _ r1 r2 r3 hHeld m1 m2 m3 hl1 hl2 hl3 g12 g13 g23 hbk hel
            have x0 : Y13.cell? ⟨Y1.heap.size, 0, none⟩ = some (.slice none 0 0) := cell_of_row _ _ _ _ 58 _ hbk
            have x1 : Y13.cell? ⟨Y1.heap.size, 1, none⟩ = some (.slice none 0 0) := cell_of_row _ _ _ _ 58 _ hbk
            have x2 : Y13.cell? ⟨Y1.heap.size, 2, none⟩ = some (.slice none 0 0) := cell_of_row _ _ _ _ 58 _ hbk
            have z0 := frozen_of_row Y13 (Y1.heap.size) 0 _ 58 hbk
            have z1 := frozen_of_row Y13 (Y1.heap.size) 1 _ 58 hbk
            have z2 := frozen_of_row Y13 (Y1.heap.size) 2 _ 58 hbk
            refine wpAnyH_ready (rs := [12]) (by kernel_rfl) (by simp) (AllReadyH.cons rfl (fun K hK => ?_) AllReadyH.nil)
            go_simp
            refine hK.out _ _ ?_ (fun hHeld => ?_)
            · exact hfin.2.2
            clear hK K
            refine wpAnyH_done (by kernel_rfl) ?_ _
            go_wp2
            go_meet
            exact ⟨_, B1, r1, B2, r2, B3, r3, rfl, hfin.1, hfin.2.1, hfin.2.2⟩
        · go_simp
          have hel : W2.heap.size ≤ Y0.heap.size := hHeld.size
          refine hK.out _ _ ?_ (fun hHeld => ?_)
          · exact hHeld.alloc hHeld.size _
          clear hK K
          have hbn := belA (Below.refl Y0.heap.size Y0) (.cells #[.slice none 0 0, .slice none 0 0, .slice none 0 0] 58)
          have hbk := heap_alloc_new Y0 (.cells #[.slice none 0 0, .slice none 0 0, .slice none 0 0] 58)
          generalize Y0.alloc (.cells #[.slice none 0 0, .slice none 0 0, .slice none 0 0] 58) = Y15 at hHeld hbn hbk ⊢
          refine wpAnyH_ready (rs := [1]) (by kernel_rfl) (by simp) (AllReadyH.cons rfl (fun K hK => ?_) AllReadyH.nil)
          go_simp
          refine (HOv.out Y15 hHeld).mono ?_
          rintro e Y16 ⟨B1, r1, rfl, m1, hbn⟩
          have hl1 : W2.heap.size ≤ Y15.heap.size := hHeld.size
          refine hK.out _ _ ?_ (fun hHeld => ?_)
          · exact belJ hHeld hbn
          clear hK K
          have hbk := (hbn.block _ (lt_of_heap hbk)).trans hbk
          refine wpAnyH_ready (rs := [5]) (by kernel_rfl) (by simp) (AllReadyH.cons rfl (fun K hK => ?_) AllReadyH.nil)
          go_simp
          refine (blankP_any s.txs.length (by omega) Y16).mono ?_
          rintro e Y17 ⟨B2, r2, rfl, m2, hbn⟩
          have hl2 : W2.heap.size ≤ Y16.heap.size := hHeld.size
          have g12 : ∀ i, i < s.txs.length → r1 i < Y16.heap.size := fun i hi => (m1.row i hi).lt
          refine hK.out _ _ ?_ (fun hHeld => ?_)
          · exact belJ hHeld hbn
          clear hK K
          have m1 := m1.below hbn
          have hbk := (hbn.block _ (lt_of_heap hbk)).trans hbk
          refine wpAnyH_ready (rs := [9]) (by kernel_rfl) (by simp) (AllReadyH.cons rfl (fun K hK => ?_) AllReadyH.nil)
          go_simp
          refine (blankP_any s.txs.length (by omega) Y17).mono ?_
          rintro e Y18 ⟨B3, r3, rfl, m3, hbn⟩
          have hl3 : W2.heap.size ≤ Y17.heap.size := hHeld.size
          have g13 : ∀ i, i < s.txs.length → r1 i < Y17.heap.size := fun i hi => (m1.row i hi).lt
          have g23 : ∀ i, i < s.txs.length → r2 i < Y17.heap.size := fun i hi => (m2.row i hi).lt
          refine hK.out _ _ ?_ (fun hHeld => ?_)
          · exact belJ hHeld hbn
          clear hK K
          have m1 := m1.below hbn
          have m2 := m2.below hbn
          have hbk := (hbn.block _ (lt_of_heap hbk)).trans hbk
          refine wpAnyH_ready (rs := [10]) (by kernel_rfl) (by simp) (AllReadyH.cons rfl (fun K hK => ?_) AllReadyH.nil)
          go_simp
          refine hK.out _ _ ?_ (fun hHeld => ?_)
          · exact hHeld
          clear hK K
          have hfin := HFin5.out Y18 (Y0.heap.size) B1 B2 B3 _ _ _ r1 r2 r3 hHeld m1 m2 m3 hl1 hl2 hl3 g12 g13 g23 hbk hel
          have x0 : Y18.cell? ⟨Y0.heap.size, 0, none⟩ = some (.slice none 0 0) := cell_of_row _ _ _ _ 58 _ hbk
          have x1 : Y18.cell? ⟨Y0.heap.size, 1, none⟩ = some (.slice none 0 0) := cell_of_row _ _ _ _ 58 _ hbk
          have x2 : Y18.cell? ⟨Y0.heap.size, 2, none⟩ = some (.slice none 0 0) := cell_of_row _ _ _ _ 58 _ hbk
          have z0 := frozen_of_row Y18 (Y0.heap.size) 0 _ 58 hbk
          have z1 := frozen_of_row Y18 (Y0.heap.size) 1 _ 58 hbk
          have z2 := frozen_of_row Y18 (Y0.heap.size) 2 _ 58 hbk
          refine wpAnyH_ready (rs := [12]) (by kernel_rfl) (by simp) (AllReadyH.cons rfl (fun K hK => ?_) AllReadyH.nil)
          go_simp
          refine hK.out _ _ ?_ (fun hHeld => ?_)
          · exact hfin.2.2
          clear hK K
          refine wpAnyH_done (by kernel_rfl) ?_ _
          go_wp2
          go_meet
          exact ⟨_, B1, r1, B2, r2, B3, r3, rfl, hfin.1, hfin.2.1, hfin.2.2⟩
      --END5
      case rest =>
        rename World => W3
        obtain ⟨Be, B1, r1, B2, r2, B3, r3, rfl, hE, hbe, hb3⟩ := hcut
        have HE := hideIt hE
        have HB3 := hideIt (belJ HB2.out hb3)
        have f0 := (HX2.out W3 hb3).1
        have f1 := (HX2.out W3 hb3).2
        have hrb3 := (hb3.block _ (lt_of_heap hrb2)).trans hrb2
        have hfc3 := (hb3.cell (p := ⟨Bc, 0, none⟩) (World.block_lt_of_cell? W2 _ hfc)).trans hfc
        have hfq3 := (hb3.cell (p := ⟨q, 0, none⟩) (World.block_lt_of_cell? W2 _ hfq)).trans hfq
        have HV3 := hideIt (hvw.below hb3 hvw.lt)
        clear HX2 e0 e1 hrb2 hb3 hfc hfq hvw hE
        go_wp2_with fail
        refine (reads_any s a b ca cb _).mono ?_
        rintro e w5 ⟨rfl, rfl⟩
        have HE4 := hideIt (HE.out.below (belA (belA (belA (Below.refl _ _) (.cells #[.slice a s.txs.length ca, .slice b s.ord.length cb] 44)) (.cells #[.slice a s.txs.length ca, .slice b s.ord.length cb] 44)) (.cells #[.func (.func 61) #[] #[.pointer (some ⟨W3.heap.size + 1, 0, none⟩)]] 100)))
        have HB4 := hideIt (belJ HB3.out (belA (belA (belA (Below.refl _ _) (.cells #[.slice a s.txs.length ca, .slice b s.ord.length cb] 44)) (.cells #[.slice a s.txs.length ca, .slice b s.ord.length cb] 44)) (.cells #[.func (.func 61) #[] #[.pointer (some ⟨W3.heap.size + 1, 0, none⟩)]] 100)))
        have hs4 : (((W3.alloc (.cells #[.slice a s.txs.length ca, .slice b s.ord.length cb] 44)).alloc (.cells #[.slice a s.txs.length ca, .slice b s.ord.length cb] 44)).alloc (.cells #[.func (.func 61) #[] #[.pointer (some ⟨W3.heap.size + 1, 0, none⟩)]] 100)).heap.size = W3.heap.size + 1 + 1 + 1 := by simp
        have k0 := cellA (o := .cells #[.func (.func 61) #[] #[.pointer (some ⟨W3.heap.size + 1, 0, none⟩)]] 100) (cellA (o := .cells #[.slice a s.txs.length ca, .slice b s.ord.length cb] 44) (box2 W3 (.slice a s.txs.length ca) (.slice b s.ord.length cb) 44).1)
        have k1 := cellA (o := .cells #[.func (.func 61) #[] #[.pointer (some ⟨W3.heap.size + 1, 0, none⟩)]] 100) (box2 (W3.alloc (.cells #[.slice a s.txs.length ca, .slice b s.ord.length cb] 44)) (.slice a s.txs.length ca) (.slice b s.ord.length cb) 44).1
        have k2 := box1 ((W3.alloc (.cells #[.slice a s.txs.length ca, .slice b s.ord.length cb] 44)).alloc (.cells #[.slice a s.txs.length ca, .slice b s.ord.length cb] 44)) (.func (.func 61) #[] #[.pointer (some ⟨W3.heap.size + 1, 0, none⟩)]) 100
        simp only [World.size_alloc] at k1 k2
        have hb34 : Below W3.heap.size W3 (((W3.alloc (.cells #[.slice a s.txs.length ca, .slice b s.ord.length cb] 44)).alloc (.cells #[.slice a s.txs.length ca, .slice b s.ord.length cb] 44)).alloc (.cells #[.func (.func 61) #[] #[.pointer (some ⟨W3.heap.size + 1, 0, none⟩)]] 100)) := belA (belA (belA (Below.refl _ _) _) _) _
        have f0 := (hb34.cell (p := ⟨w.heap.size, 0, none⟩) (World.block_lt_of_cell? W3 _ f0)).trans f0
        have f1 := (hb34.cell (p := ⟨w.heap.size, 1, none⟩) (World.block_lt_of_cell? W3 _ f1)).trans f1
        have hrb4 := (hb34.block _ (lt_of_heap hrb3)).trans hrb3
        have hbe4 := (hb34.block _ (lt_of_heap hbe)).trans hbe
        have hfc4 := (hb34.cell (p := ⟨Bc, 0, none⟩) (World.block_lt_of_cell? W3 _ hfc3)).trans hfc3
        have hfq4 := (hb34.cell (p := ⟨q, 0, none⟩) (World.block_lt_of_cell? W3 _ hfq3)).trans hfq3
        have HV4 := hideIt (HV3.out.below hb34 HV3.out.lt)
        have hW23 : w.heap.size ≤ W2.heap.size := HB2.out.size
        have HTop : Hid (B1 < W3.heap.size ∧ B2 < W3.heap.size ∧ B3 < W3.heap.size ∧ ∀ i, i < s.txs.length → r1 i < W3.heap.size ∧ r2 i < W3.heap.size ∧ r3 i < W3.heap.size) := ⟨HE.out.m1.lt, HE.out.m2.lt, HE.out.m3.lt, fun i hi => ⟨(HE.out.m1.row i hi).lt, (HE.out.m2.row i hi).lt, (HE.out.m3.row i hi).lt⟩⟩
        clear hb34 hrb3 hbe hfc3 hfq3 HV3 HE HB3
        go_wp2
        generalize ((W3.alloc (.cells #[.slice a s.txs.length ca, .slice b s.ord.length cb] 44)).alloc (.cells #[.slice a s.txs.length ca, .slice b s.ord.length cb] 44)).alloc (.cells #[.func (.func 61) #[] #[.pointer (some ⟨W3.heap.size + 1, 0, none⟩)]] 100) = W4 at HE4 HB4 hs4 k0 k1 k2 f0 f1 hrb4 hbe4 hfc4 hfq4 HV4 ⊢
        have HRd : Hid (RdAt W4 a b ca cb s w.heap.size W3.heap.size (W3.heap.size + 1 + 1 + 1) W3.heap.size (W3.heap.size + 1 + 1) (W3.heap.size + 1)) := ⟨HS.out.below HB4.out, by omega, k0, k2, k1⟩
        rw [← wpIn_wide (n := 4)]
        refine wpIn_rangeFunc_ownH rfl (by omega) (gf := 63) (lb := #[.pointer (some ⟨W3.heap.size, 0, none⟩), .pointer (some ⟨W3.heap.size + 1 + 1, 0, none⟩)]) rfl trivial (enters_of (P := Tryd.prog) Tryd.func63 (by kernel_rfl) rfl)
          (reads_stops s a b ca cb w.heap.size W3.heap.size (W3.heap.size + 1 + 1 + 1) W3.heap.size (W3.heap.size + 1 + 1) (W3.heap.size + 1) 3 (by omega) w W4 HS.out rfl HB4.out (by omega) HRd.out) keptR_t (keptR_b HB4.out.size (by omega)) (Below.refl _ _) (fun _ => rfl)
          (fun pre W => EdgAt W W2.heap.size s.txs.length B1 r1 B2 r2 B3 r3 (ovB s) (seeL s (pre.map (rdA s))) (anwL s (pre.map (rdA s))) ∧ KeepX W4 W s.txs.length r2 r3 ∧ Below w.heap.size W4 W)
          (fun _ _ _ => False)
          (fun pre X Y row hI hg hr => by
            obtain ⟨hE, hk, hb⟩ := hI
            have hsz := hb.size
            have hblk : ∀ x, x < W4.heap.size → Y.heap[x]? = X.heap[x]? := fun x hx => hg.block x (by omega) (fun e => by have := (hr x e.symm).1; omega)
            exact ⟨hE.blocks (top := W4.heap.size) (fun x _ h => hblk x h) ⟨by have := HTop.out.1; omega, by have := HTop.out.2.1; omega, by have := HTop.out.2.2.1; omega, fun i hi => by have := HTop.out.2.2.2 i hi; omega⟩, fun x hx hn => (hblk x hx).trans (hk x hx hn), hb.grown hg (by have := HB4.out.size; omega) (fun k e => by have := (hr k e).1; have := HB4.out.size; omega)⟩)
          (fun _ _ _ _ _ hs _ _ => hs)
          ⟨HE4.out.same (fun _ _ _ _ => rfl) (fun _ _ _ _ => rfl) (fun _ _ _ _ => rfl), KeepX.refl _ _ _ _, Below.refl _ _⟩
          (fun x a' W => ∃ Bx, W4.heap.size ≤ Bx ∧ W.heap[Bx]? = some (.cells #[.bool (rdA s x).2.wr, .int .i64 (rdA s x).2.key, .int .i64 (rdA s x).2.frm, .int .i64 (rdA s x).2.num] 84 (0, 0)) ∧ a' = { tmps := #[.agg #[.slice a s.txs.length ca, .slice b s.ord.length cb], .pointer (some ⟨w.heap.size, 0, none⟩), .pointer (some ⟨w.heap.size + 1, 0, none⟩), .nilIface, .nilIface, .pointer (some ⟨Bc, 0, none⟩), .pointer (some ⟨Bw, 0, none⟩), .pointer (some ⟨Be, 0, none⟩), .int .i64 ((rdA s x).1 : Int), .pointer (some ⟨Bx, 0, none⟩), undef, .agg #[.slice a s.txs.length ca, .slice b s.ord.length cb], .nilIface, .nilIface, .bool false, undef, undef, u17, u18, u19, u20, u21, u22, u23, u24, u25, u26, u27, u28, u29, u30, u31, .agg #[.slice a s.txs.length ca, .slice b s.ord.length cb], .func (.func 63) #[] #[.pointer (some ⟨W3.heap.size, 0, none⟩), .pointer (some ⟨W3.heap.size + 1 + 1, 0, none⟩)], .int .i64 ((rdA s x).1 : Int), (rdA s x).2.agg, undef, undef, undef, undef, undef, undef, undef, undef, undef, undef, undef, undef, undef, undef, undef, undef, undef, undef, undef, undef, undef, undef, undef, undef, undef, undef, undef, undef, undef, undef, undef, undef, undef, undef, undef, undef, undef, undef, undef, undef, undef, undef, undef, undef, undef, undef, undef, undef, undef, undef], defers := [] })
          (fun x a' _ X Y row hs hg hr => by
            obtain ⟨Bx, h1, h2, h3⟩ := hs
            exact ⟨Bx, h1, (hg.block Bx (lt_of_heap h2) (fun e => by obtain ⟨_, o, ho, hc⟩ := hr Bx e.symm; rw [h2] at ho; cases ho; cases hc)).trans h2, h3⟩)
          ?assign ?body ?done ?stop
        case assign =>
          rintro l pre x W K ⟨hE, hk, hb⟩ hK
          have hsz := hb.size
          have hs0 := HB4.out.size
          unfold encR IOp.agg
          gi_wp2
          exact hK _ _ ((KeepsOthers.alloc _ _).from _) ⟨(Below.refl _ W).alloc (by omega) _, fun x _ hx => Below.heap_alloc _ _ _ (by omega)⟩ ⟨hE.below (belA (Below.refl _ _) _), hk.below hsz (belA (Below.refl _ _) _), hb.alloc (by omega) _⟩ ⟨W.heap.size, hsz, heap_alloc_new W _, rfl⟩
        case body =>
          rintro l pre x a' W hl _ ⟨hE, hk, hb⟩ ⟨Bx, hBx, hbx, rfl⟩ hlt
          have hmem : rdA s x ∈ rdI s := List.getElem_mem _
          have HSz : Hid ((Tryd.prog.info? 104).map (·.size) = some (verL (verF s)).length) := by rw [verL_len]; exact size77
          have hsW := hb.size
          have hs0 := HB4.out.size
          have HFi : Hid (∀ Z A2 A3, MidS W4 W Z w.heap.size W3.heap.size (W3.heap.size + 1 + 1 + 1) W2.heap.size s.txs.length B1 r1 B2 r2 B3 r3 Bx (ovB s) A2 A3 → (∀ i k, i < s.txs.length → k < s.txs.length → A2 i k = (seeL s (pre.map (rdA s)) i k || seeP s (rdA s x) i k)) → (∀ i k, i < s.txs.length → k < s.txs.length → A3 i k = (anwL s (pre.map (rdA s)) i k || anwP s (rdA s x) i k)) →
              KeepsFrom W4.heap.size W Z ∧ KeptR w.heap.size W3.heap.size (W3.heap.size + 1 + 1 + 1) W Z ∧ EdgAt Z W2.heap.size s.txs.length B1 r1 B2 r2 B3 r3 (ovB s) (seeL s ((pre ++ [x]).map (rdA s))) (anwL s ((pre ++ [x]).map (rdA s))) ∧ KeepX W4 Z s.txs.length r2 r3 ∧ Below w.heap.size W4 Z) := fun Z A2 A3 hM e2 e3 =>
            ⟨hM.oth.from _, ⟨hM.bW, hM.its⟩, hM.edg.same (fun _ _ _ _ => rfl) (fun i k hi hk => by rw [List.map_append, List.map_cons, List.map_nil, seeL_app, e2 i k hi hk]) (fun i k hi hk => by rw [List.map_append, List.map_cons, List.map_nil, anwL_app, e3 i k hi hk]), hM.kx, hM.b4⟩
          have HM0 : Hid (MidS W4 W W w.heap.size W3.heap.size (W3.heap.size + 1 + 1 + 1) W2.heap.size s.txs.length B1 r1 B2 r2 B3 r3 Bx (ovB s) (seeL s (pre.map (rdA s))) (anwL s (pre.map (rdA s)))) := ⟨hE, hk, hb, Below.refl _ _, KeepsOthers.refl _, fun _ _ _ => rfl, rfl⟩
          obtain ⟨ht, hct, hkey, hfrm⟩ := rd_ok ok hmem
          generalize rdA s x = r at *
          obtain ⟨t, owr, okey, ofrm, onum⟩ := r
          dsimp only at ht hct hkey hfrm hbx ⊢
          have HAt : Hid (∀ Z A2 A3, MidS W4 W Z w.heap.size W3.heap.size (W3.heap.size + 1 + 1 + 1) W2.heap.size s.txs.length B1 r1 B2 r2 B3 r3 Bx (ovB s) A2 A3 → (Z.cell? ⟨w.heap.size, 0, none⟩ = some (.slice a s.txs.length ca) ∧ Z.cell? ⟨w.heap.size, 1, none⟩ = some (.slice b s.ord.length cb) ∧ Z.cell? ⟨Bc, 0, none⟩ = some (.func (.func 61) #[] #[.pointer (some ⟨q, 0, none⟩)]) ∧ Z.cell? ⟨q, 0, none⟩ = some (.slice a s.txs.length ca)) ∧
              (Z.cell? ⟨Be, 1, none⟩ = some (.slice (some ⟨B2, 0, none⟩) s.txs.length s.txs.length) ∧ Z.cell? ⟨Be, 2, none⟩ = some (.slice (some ⟨B3, 0, none⟩) s.txs.length s.txs.length)) ∧ VerB Z Bw (verF s) ∧
              (Z.cell? ⟨Bx, 0, none⟩ = some (.bool owr) ∧ Z.cell? ⟨Bx, 1, none⟩ = some (.int .i64 okey) ∧ Z.cell? ⟨Bx, 2, none⟩ = some (.int .i64 ofrm) ∧ Z.cell? ⟨Bx, 3, none⟩ = some (.int .i64 onum)) ∧ StyQ Z a ca b cb s) := fun Z A2 A3 hM => by
            have hE4 : ∀ i, i < s.txs.length → (∃ f, BitsAt W4 (r2 i) s.txs.length f) ∧ ∃ f, BitsAt W4 (r3 i) s.txs.length f := fun i hi => ⟨⟨_, HE4.out.m2.row i hi⟩, ⟨_, HE4.out.m3.row i hi⟩⟩
            have hn : 0 < s.txs.length := by omega
            have old : ∀ {g j : Nat} {u v : Value}, W4.cell? ⟨g, 0, none⟩ = some u → (∀ x, u ≠ .bool x) → W4.cell? ⟨g, j, none⟩ = some v → Z.cell? ⟨g, j, none⟩ = some v := fun {g j u v} h0 hu hv => (World.cell?_of_block (a := ⟨g, j, none⟩) (hM.old hn hE4 h0 hu)).trans hv
            have hbe0 : W4.cell? ⟨Be, 0, none⟩ = some (.slice (some ⟨B1, 0, none⟩) s.txs.length s.txs.length) := cell_of_row _ _ _ _ 58 _ hbe4
            have hbxZ := hM.bx.trans hbx
            refine ⟨⟨old f0 (by simp) f0, old f0 (by simp) f1, old hfc4 (by simp) hfc4, old hfq4 (by simp) hfq4⟩, ⟨old hbe0 (by simp) (cell_of_row _ _ _ _ 58 _ hbe4), old hbe0 (by simp) (cell_of_row _ _ _ _ 58 _ hbe4)⟩, HV4.out.block (hM.old hn hE4 (HV4.out.at (i := 0) (j := 0) (by omega) (by omega)) (by simp)), ⟨cell_of_row _ _ _ _ 84 _ hbxZ, cell_of_row _ _ _ _ 84 _ hbxZ, cell_of_row _ _ _ _ 84 _ hbxZ, cell_of_row _ _ _ _ 84 _ hbxZ⟩, HS.out.below (HB4.out.trans hM.b4)⟩
          have hxW : Bx < W.heap.size := lt_of_heap hbx
          have HBl : Hid (∀ Z Z' A2 A3, MidS W4 W Z w.heap.size W3.heap.size (W3.heap.size + 1 + 1 + 1) W2.heap.size s.txs.length B1 r1 B2 r2 B3 r3 Bx (ovB s) A2 A3 → Below Z.heap.size Z Z' → MidS W4 W Z' w.heap.size W3.heap.size (W3.heap.size + 1 + 1 + 1) W2.heap.size s.txs.length B1 r1 B2 r2 B3 r3 Bx (ovB s) A2 A3) := fun Z Z' A2 A3 hM hb' => hM.below hb' hs0 (by omega) hxW
          clear hE hk hb hbx hmem
          obtain ⟨⟨g0, g1, g2, g3⟩, ⟨g4, g5⟩, hvW, ⟨o0, o1, o2, o3⟩, hsty⟩ := HAt.out _ _ _ HM0.out
          have HCo : Hid (∀ f : Nat, f < s.txs.length → Calls Tryd.prog 61 #[.int .i64 (f : Int), .pointer (some ⟨q, 0, none⟩)] W fun e w' => e = .returned (.bool (comI s f)) ∧ w' = W) := fun f hf => commits_any s a b ca cb q f W hsty g3 hf
          clear hsty hvW
          obtain ⟨ky, rfl⟩ := Int.eq_ofNat_of_zero_le hkey.1
          have hko : ky < s.ord.length := by rw [ok.eight]; omega
          have hko' : (ky : Int) < s.ord.length := by omega
          have HAn : Hid (∀ i k, anwP s (t, ⟨owr, (ky : Int), ofrm, onum⟩) i k = ((ofrm == -1 || comI s ofrm) && (behV (lstK s (ky : Int)) ofrm != -1 && behV (lstK s (ky : Int)) ofrm != (t : Int)) && (t == i && behV (lstK s (ky : Int)) ofrm == (k : Int)))) := fun i k => rfl
          have HSe : Hid (∀ i k, seeP s (t, ⟨owr, (ky : Int), ofrm, onum⟩) i k = ((ofrm == -1 || comI s ofrm) && (othB t ⟨owr, (ky : Int), ofrm, onum⟩ && lastB (verF s) ⟨owr, (ky : Int), ofrm, onum⟩) && (ofrm == (i : Int) && t == k))) := fun i k => rfl
          have HMem : Hid (behV (lstK s (ky : Int)) ofrm ≠ -1 → ∃ nx : Nat, nx < s.txs.length ∧ behV (lstK s (ky : Int)) ofrm = (nx : Int)) := fun hne => by
            unfold behV at hne ⊢
            cases hg : (lstK s (ky : Int))[(idxN (lstK s (ky : Int)) ofrm + 1).toNat]? with
            | none => rw [hg] at hne; exact absurd rfl hne
            | some v =>
              have hv := ((ok.ord.mem (ky : Int) v (by omega) (by omega)).1 (List.mem_of_getElem? hg)).1
              obtain ⟨nx, hx⟩ := Int.eq_ofNat_of_zero_le hv.1
              exact ⟨nx, by omega, by rw [← hx]; rfl⟩
          by_cases hf1 : ofrm = -1
          · have HG : Hid ((ofrm == -1 || comI s ofrm) = true) := by rw [hf1]; rfl
            have hth : othB t ⟨owr, (ky : Int), ofrm, onum⟩ = false := by unfold othB; rw [hf1]; rfl
            have HA2 : Hid (∀ i k, i < s.txs.length → k < s.txs.length → seeL s (pre.map (rdA s)) i k = (seeL s (pre.map (rdA s)) i k || seeP s (t, ⟨owr, (ky : Int), ofrm, onum⟩) i k)) := fun i k _ _ => by rw [HSe.out, hth]; simp
            have HOt := hideIt (isOther_any t ⟨owr, (ky : Int), ofrm, onum⟩ W)
            rw [hth] at HOt
            have e0 : (ofrm != -1) = false := by simp [hf1]
            unfold IOp.agg at HOt ⊢
            dsimp only at HOt ⊢
            clear hf1 hth HSe HCo
            gi_wp2
            refine ⟨fun _ h => (by cases h), ?_⟩
            gi_wp2
            refine ⟨trivial, ?_⟩
            refine (CallsIn.inRound l (callsIn_wide.2 HOt.out)).mono ?_
            rintro e Z1 ⟨rfl, hbZ⟩
            have HM1 := hideIt (HBl.out _ Z1 _ _ HM0.out hbZ)
            clear hbZ HOt HM0 g0 g1 g2 g3 g4 g5 o0 o1 o2 o3
            gi_wp2
            refine ⟨trivial, ?_⟩
            obtain ⟨⟨c0, c1, c2, c3⟩, ⟨c4, c5⟩, _, ⟨p0, p1, p2, p3⟩, hstZ⟩ := HAt.out Z1 _ _ HM1.out
            obtain ⟨gb, ob, rfl, hgb, la, lc, l1, l2, l3, l4⟩ := hstZ.row hko
            have HBh : Hid (∀ n, Calls Tryd.prog 48 #[.slice la s.ord[ky].length lc, .int .i64 ofrm] (Z1.drewN n) fun e w' => e = .returned (.int .i64 (behV s.ord[ky] ofrm)) ∧ w' = Z1.drewN n) := fun n => behind_any _ l3 ofrm la lc _ (l4.below (below_drewN (Below.refl _ _) n))
            rw [← lstK_at hko] at HBh l1
            clear hstZ l4 l2
            generalize behV (lstK s (ky : Int)) ofrm = bv at *
            generalize lstK s (ky : Int) = L at *
            gi_wp2
            refine wpIn_round_quiet (by kernel_rfl) (by kernel_rfl) (by kernel_rfl) ?_
            repeat (quiet_step ((go_at_call 48; exact Calls.quiet_of_same (HBh.out _))))
            refine wpQuiet_nil ?_
            intro _ hw'
            obtain ⟨nq, hw''⟩ := hw'
            subst hw''
            have HMq := hideIt (HBl.out _ (Z1.drewN nq) _ _ HM1.out (below_drewN (Below.refl _ _) nq))
            obtain ⟨_, ⟨_, d5⟩, _, _, _⟩ := HAt.out _ _ _ HMq.out
            clear HBh c0 c1 c2 c3 c4 c5 p0 p1 p2 p3 l1
            generalize Z1.drewN nq = Zq at *
            by_cases hb1 : bv = -1
            · have HN : Hid (∀ i k, anwL s (pre.map (rdA s)) i k = (anwL s (pre.map (rdA s)) i k || anwP s (t, ⟨owr, (ky : Int), ofrm, onum⟩) i k)) := fun i k => by rw [HAn.out, hb1]; simp
              have HE := hideIt (HFi.out _ _ _ HMq.out HA2.out (fun i k _ _ => HN.out i k))
              have e1 : (bv != -1) = false := by simp [hb1]
              clear hb1 HFi HMq HN d5
              gi_wp2
              exact HE.out
            · have e1 : (bv != -1) = true := by simp [hb1]
              by_cases hb2 : bv = (t : Int)
              · have HN : Hid (∀ i k, anwL s (pre.map (rdA s)) i k = (anwL s (pre.map (rdA s)) i k || anwP s (t, ⟨owr, (ky : Int), ofrm, onum⟩) i k)) := fun i k => by rw [HAn.out, hb2]; simp
                have HE := hideIt (HFi.out _ _ _ HMq.out HA2.out (fun i k _ _ => HN.out i k))
                have e2 : (bv != (t : Int)) = false := by simp [hb2]
                clear hb1 hb2 HFi HMq HN d5
                gi_wp2
                exact HE.out
              · have e2 : (bv != (t : Int)) = true := by simp [hb2]
                obtain ⟨nx, hnx, rfl⟩ := HMem.out hb1
                have HN : Hid (∀ i k, (if i = t ∧ k = nx then true else anwL s (pre.map (rdA s)) i k) = (anwL s (pre.map (rdA s)) i k || anwP s (t, ⟨owr, (ky : Int), ofrm, onum⟩) i k)) := or_put fun i k => by
                  rw [HAn.out, HG.out, e1, e2]
                  have h1 : (t == i) = decide (i = t) := by rw [Bool.eq_iff_iff]; simp; exact eq_comm
                  have h2 : ((nx : Int) == (k : Int)) = decide (k = nx) := by rw [Bool.eq_iff_iff]; simp; omega
                  rw [h1, h2]; simp
                have y0 := HMq.out.edg.m3.head t ht
                have y1 := (HMq.out.edg.m3.row t ht).bit nx hnx
                have y2 := (HMq.out.edg.m3.row t ht).fz nx
                have y3 := (HMq.out.edg.m3.from_ t ht).1
                have HMr := hideIt (HMq.out.put3 (i := t) (k := nx) ht hnx (by omega) (HTop.out.2.2.2 t ht).2.2 (by have := (HTop.out.2.2.2 t ht).2.2; omega))
                have HE := hideIt (HFi.out _ _ _ HMr.out HA2.out (fun i k _ _ => HN.out i k))
                have hnx' : (nx : Int) < s.txs.length := by omega
                have ht' : (t : Int) < s.txs.length := by omega
                generalize anwL s (pre.map (rdA s)) t nx = old at y1
                clear hb1 hb2 HFi HMq HMr HN y3
                gi_wp2
                exact HE.out
          · obtain ⟨f0', f1', n0', n1', n2'⟩ : 0 ≤ ofrm ∧ ofrm < s.txs.length ∧ 0 ≤ onum ∧ onum < wroI s ofrm (ky : Int) ∧ wroI s ofrm (ky : Int) ≤ 60 := by
              rcases hfrm with h | h
              · exact absurd h hf1
              · exact h
            have e0 : (ofrm != -1) = true := by simp [hf1]
            have e0' : (ofrm == -1) = false := by simp [hf1]
            obtain ⟨f, rfl⟩ := Int.eq_ofNat_of_zero_le f0'
            have HCf := hideIt (HCo.out f (by omega))
            have HGe : Hid (((f : Int) == -1 || comI s (f : Int)) = comI s (f : Int)) := by rw [e0']; rfl
            unfold IOp.agg
            dsimp only
            clear HCo hfrm hf1 e0'
            gi_wp2
            refine ⟨trivial, ?_⟩
            refine (CallsIn.inRound l (callsIn_wide.2 HCf.out)).mono ?_
            rintro e Z0 ⟨rfl, rfl⟩
            clear HCf
            cases hco : comI s (f : Int)
            · have HE := hideIt (HFi.out _ _ _ HM0.out (fun i k _ _ => by rw [HSe.out, HGe.out, hco]; simp) (fun i k _ _ => by rw [HAn.out, HGe.out, hco]; simp))
              clear HFi HM0 HMem HAn HSe HGe
              gi_wp2
              exact HE.out
            · have HG : Hid (((f : Int) == -1 || comI s (f : Int)) = true) := by rw [HGe.out, hco]; rfl
              have HOt := hideIt (isOther_any t ⟨owr, (ky : Int), (f : Int), onum⟩ Z0)
              unfold IOp.agg at HOt
              dsimp only at HOt
              cases hth : othB t ⟨owr, (ky : Int), (f : Int), onum⟩
              · rw [hth] at HOt
                have HA2 : Hid (∀ i k, i < s.txs.length → k < s.txs.length → seeL s (pre.map (rdA s)) i k = (seeL s (pre.map (rdA s)) i k || seeP s (t, ⟨owr, (ky : Int), (f : Int), onum⟩) i k)) := fun i k _ _ => by rw [HSe.out, hth]; simp
                clear hth HSe HGe
                gi_wp2
                refine ⟨trivial, ?_⟩
                refine (CallsIn.inRound l (callsIn_wide.2 HOt.out)).mono ?_
                rintro e Z1 ⟨rfl, hbZ⟩
                have HM1 := hideIt (HBl.out _ Z1 _ _ HM0.out hbZ)
                clear hbZ HOt HM0 g0 g1 g2 g3 g4 g5 o0 o1 o2 o3
                gi_wp2
                refine ⟨trivial, ?_⟩
                obtain ⟨⟨c0, c1, c2, c3⟩, ⟨c4, c5⟩, _, ⟨p0, p1, p2, p3⟩, hstZ⟩ := HAt.out Z1 _ _ HM1.out
                obtain ⟨gb, ob, rfl, hgb, la, lc, l1, l2, l3, l4⟩ := hstZ.row hko
                have HBh : Hid (∀ n, Calls Tryd.prog 48 #[.slice la s.ord[ky].length lc, .int .i64 (f : Int)] (Z1.drewN n) fun e w' => e = .returned (.int .i64 (behV s.ord[ky] (f : Int))) ∧ w' = Z1.drewN n) := fun n => behind_any _ l3 (f : Int) la lc _ (l4.below (below_drewN (Below.refl _ _) n))
                rw [← lstK_at hko] at HBh l1
                clear hstZ l4 l2
                generalize behV (lstK s (ky : Int)) (f : Int) = bv at *
                generalize lstK s (ky : Int) = L at *
                gi_wp2
                refine wpIn_round_quiet (by kernel_rfl) (by kernel_rfl) (by kernel_rfl) ?_
                repeat (quiet_step ((go_at_call 48; exact Calls.quiet_of_same (HBh.out _))))
                refine wpQuiet_nil ?_
                intro _ hw'
                obtain ⟨nq, hw''⟩ := hw'
                subst hw''
                have HMq := hideIt (HBl.out _ (Z1.drewN nq) _ _ HM1.out (below_drewN (Below.refl _ _) nq))
                obtain ⟨_, ⟨_, d5⟩, _, _, _⟩ := HAt.out _ _ _ HMq.out
                clear HBh c0 c1 c2 c3 c4 c5 p0 p1 p2 p3 l1
                generalize Z1.drewN nq = Zq at *
                by_cases hb1 : bv = -1
                · have HN : Hid (∀ i k, anwL s (pre.map (rdA s)) i k = (anwL s (pre.map (rdA s)) i k || anwP s (t, ⟨owr, (ky : Int), (f : Int), onum⟩) i k)) := fun i k => by rw [HAn.out, hb1]; simp
                  have HE := hideIt (HFi.out _ _ _ HMq.out HA2.out (fun i k _ _ => HN.out i k))
                  have e1 : (bv != -1) = false := by simp [hb1]
                  clear hb1 HFi HMq HN d5
                  gi_wp2
                  exact HE.out
                · have e1 : (bv != -1) = true := by simp [hb1]
                  by_cases hb2 : bv = (t : Int)
                  · have HN : Hid (∀ i k, anwL s (pre.map (rdA s)) i k = (anwL s (pre.map (rdA s)) i k || anwP s (t, ⟨owr, (ky : Int), (f : Int), onum⟩) i k)) := fun i k => by rw [HAn.out, hb2]; simp
                    have HE := hideIt (HFi.out _ _ _ HMq.out HA2.out (fun i k _ _ => HN.out i k))
                    have e2 : (bv != (t : Int)) = false := by simp [hb2]
                    clear hb1 hb2 HFi HMq HN d5
                    gi_wp2
                    exact HE.out
                  · have e2 : (bv != (t : Int)) = true := by simp [hb2]
                    obtain ⟨nx, hnx, rfl⟩ := HMem.out hb1
                    have HN : Hid (∀ i k, (if i = t ∧ k = nx then true else anwL s (pre.map (rdA s)) i k) = (anwL s (pre.map (rdA s)) i k || anwP s (t, ⟨owr, (ky : Int), (f : Int), onum⟩) i k)) := or_put fun i k => by
                      rw [HAn.out, HG.out, e1, e2]
                      have h1 : (t == i) = decide (i = t) := by rw [Bool.eq_iff_iff]; simp; exact eq_comm
                      have h2 : ((nx : Int) == (k : Int)) = decide (k = nx) := by rw [Bool.eq_iff_iff]; simp; omega
                      rw [h1, h2]; simp
                    have y0 := HMq.out.edg.m3.head t ht
                    have y1 := (HMq.out.edg.m3.row t ht).bit nx hnx
                    have y2 := (HMq.out.edg.m3.row t ht).fz nx
                    have y3 := (HMq.out.edg.m3.from_ t ht).1
                    have HMr := hideIt (HMq.out.put3 (i := t) (k := nx) ht hnx (by omega) (HTop.out.2.2.2 t ht).2.2 (by have := (HTop.out.2.2.2 t ht).2.2; omega))
                    have HE := hideIt (HFi.out _ _ _ HMr.out HA2.out (fun i k _ _ => HN.out i k))
                    have hnx' : (nx : Int) < s.txs.length := by omega
                    have ht' : (t : Int) < s.txs.length := by omega
                    generalize anwL s (pre.map (rdA s)) t nx = old at y1
                    clear hb1 hb2 HFi HMq HMr HN y3
                    gi_wp2
                    exact HE.out
              · rw [hth] at HOt
                gi_wp2
                refine ⟨trivial, ?_⟩
                refine (CallsIn.inRound l (callsIn_wide.2 HOt.out)).mono ?_
                rintro e Z1 ⟨rfl, hbZ⟩
                have HM1 := hideIt (HBl.out _ Z1 _ _ HM0.out hbZ)
                clear hbZ HOt HM0 g0 g1 g2 g3 g4 g5 o0 o1 o2 o3
                obtain ⟨⟨c0, c1, c2, c3⟩, ⟨c4, c5⟩, hvZ, ⟨p0, p1, p2, p3⟩, _⟩ := HAt.out Z1 _ _ HM1.out
                have HVZ := hideIt hvZ
                have HLs := hideIt (isLast_any (verF s) ⟨owr, (ky : Int), (f : Int), onum⟩ Z1 (by dsimp only; omega) (by dsimp only; omega) (by dsimp only; omega) (by dsimp only; omega) (by dsimp only [Int.toNat_natCast]; exact Nat.le_trans n2' (by omega)))
                unfold verA IOp.agg at HLs
                dsimp only at HLs
                clear hvZ
                gi_wp2_with (refine wpListIn_load_ver rfl 104 (.tmp 6) rfl Bw rfl (verL (verF s)) _ HVZ.out.range Tryd.underlying104 rfl HSz.out ?_)
                refine ⟨trivial, ?_⟩
                refine (CallsIn.inRound l (callsIn_wide.2 HLs.out)).mono ?_
                rintro e Z2 ⟨rfl, hbZ⟩
                have HM2 := hideIt (HBl.out _ Z2 _ _ HM1.out hbZ)
                clear hbZ HLs HM1 HVZ c0 c1 c2 c3 c4 c5 p0 p1 p2 p3
                cases hla : lastB (verF s) ⟨owr, (ky : Int), (f : Int), onum⟩
                · have HA2 : Hid (∀ i k, i < s.txs.length → k < s.txs.length → seeL s (pre.map (rdA s)) i k = (seeL s (pre.map (rdA s)) i k || seeP s (t, ⟨owr, (ky : Int), (f : Int), onum⟩) i k)) := fun i k _ _ => by rw [HSe.out, hla]; simp
                  clear hth hla HSe HGe
                  gi_wp2
                  obtain ⟨⟨c0, c1, c2, c3⟩, ⟨c4, c5⟩, _, ⟨p0, p1, p2, p3⟩, hstZ⟩ := HAt.out Z2 _ _ HM2.out
                  obtain ⟨gb, ob, rfl, hgb, la, lc, l1, l2, l3, l4⟩ := hstZ.row hko
                  have HBh : Hid (∀ n, Calls Tryd.prog 48 #[.slice la s.ord[ky].length lc, .int .i64 (f : Int)] (Z2.drewN n) fun e w' => e = .returned (.int .i64 (behV s.ord[ky] (f : Int))) ∧ w' = Z2.drewN n) := fun n => behind_any _ l3 (f : Int) la lc _ (l4.below (below_drewN (Below.refl _ _) n))
                  rw [← lstK_at hko] at HBh l1
                  clear hstZ l4 l2
                  generalize behV (lstK s (ky : Int)) (f : Int) = bv at *
                  generalize lstK s (ky : Int) = L at *
                  refine wpIn_round_quiet (by kernel_rfl) (by kernel_rfl) (by kernel_rfl) ?_
                  repeat (quiet_step ((go_at_call 48; exact Calls.quiet_of_same (HBh.out _))))
                  refine wpQuiet_nil ?_
                  intro _ hw'
                  obtain ⟨nq, hw''⟩ := hw'
                  subst hw''
                  have HMq := hideIt (HBl.out _ (Z2.drewN nq) _ _ HM2.out (below_drewN (Below.refl _ _) nq))
                  obtain ⟨_, ⟨_, d5⟩, _, _, _⟩ := HAt.out _ _ _ HMq.out
                  clear HBh c0 c1 c2 c3 c4 c5 p0 p1 p2 p3 l1
                  generalize Z2.drewN nq = Zq at *
                  by_cases hb1 : bv = -1
                  · have HN : Hid (∀ i k, anwL s (pre.map (rdA s)) i k = (anwL s (pre.map (rdA s)) i k || anwP s (t, ⟨owr, (ky : Int), (f : Int), onum⟩) i k)) := fun i k => by rw [HAn.out, hb1]; simp
                    have HE := hideIt (HFi.out _ _ _ HMq.out HA2.out (fun i k _ _ => HN.out i k))
                    have e1 : (bv != -1) = false := by simp [hb1]
                    clear hb1 HFi HMq HN d5
                    gi_wp2
                    exact HE.out
                  · have e1 : (bv != -1) = true := by simp [hb1]
                    by_cases hb2 : bv = (t : Int)
                    · have HN : Hid (∀ i k, anwL s (pre.map (rdA s)) i k = (anwL s (pre.map (rdA s)) i k || anwP s (t, ⟨owr, (ky : Int), (f : Int), onum⟩) i k)) := fun i k => by rw [HAn.out, hb2]; simp
                      have HE := hideIt (HFi.out _ _ _ HMq.out HA2.out (fun i k _ _ => HN.out i k))
                      have e2 : (bv != (t : Int)) = false := by simp [hb2]
                      clear hb1 hb2 HFi HMq HN d5
                      gi_wp2
                      exact HE.out
                    · have e2 : (bv != (t : Int)) = true := by simp [hb2]
                      obtain ⟨nx, hnx, rfl⟩ := HMem.out hb1
                      have HN : Hid (∀ i k, (if i = t ∧ k = nx then true else anwL s (pre.map (rdA s)) i k) = (anwL s (pre.map (rdA s)) i k || anwP s (t, ⟨owr, (ky : Int), (f : Int), onum⟩) i k)) := or_put fun i k => by
                        rw [HAn.out, HG.out, e1, e2]
                        have h1 : (t == i) = decide (i = t) := by rw [Bool.eq_iff_iff]; simp; exact eq_comm
                        have h2 : ((nx : Int) == (k : Int)) = decide (k = nx) := by rw [Bool.eq_iff_iff]; simp; omega
                        rw [h1, h2]; simp
                      have y0 := HMq.out.edg.m3.head t ht
                      have y1 := (HMq.out.edg.m3.row t ht).bit nx hnx
                      have y2 := (HMq.out.edg.m3.row t ht).fz nx
                      have y3 := (HMq.out.edg.m3.from_ t ht).1
                      have HMr := hideIt (HMq.out.put3 (i := t) (k := nx) ht hnx (by omega) (HTop.out.2.2.2 t ht).2.2 (by have := (HTop.out.2.2.2 t ht).2.2; omega))
                      have HE := hideIt (HFi.out _ _ _ HMr.out HA2.out (fun i k _ _ => HN.out i k))
                      have hnx' : (nx : Int) < s.txs.length := by omega
                      have ht' : (t : Int) < s.txs.length := by omega
                      generalize anwL s (pre.map (rdA s)) t nx = old at y1
                      clear hb1 hb2 HFi HMq HMr HN y3
                      gi_wp2
                      exact HE.out
                · have HA2 : Hid (∀ i k, i < s.txs.length → k < s.txs.length → (if i = f ∧ k = t then true else seeL s (pre.map (rdA s)) i k) = (seeL s (pre.map (rdA s)) i k || seeP s (t, ⟨owr, (ky : Int), (f : Int), onum⟩) i k)) := fun i k _ _ => or_put (fun i k => by
                    rw [HSe.out, HG.out, hth, hla]
                    have h1 : ((f : Int) == (i : Int)) = decide (i = f) := by rw [Bool.eq_iff_iff]; simp; omega
                    have h2 : (t == k) = decide (k = t) := by rw [Bool.eq_iff_iff]; simp; exact eq_comm
                    rw [h1, h2]; simp) i k
                  obtain ⟨_, ⟨c4, _⟩, _, ⟨_, _, p2, _⟩, _⟩ := HAt.out Z2 _ _ HM2.out
                  have hfn : f < s.txs.length := by omega
                  have hfn' : (f : Int) < s.txs.length := by omega
                  have ht' : (t : Int) < s.txs.length := by omega
                  have y0 := HM2.out.edg.m2.head f hfn
                  have y1 := (HM2.out.edg.m2.row f hfn).bit t ht
                  have y2 := (HM2.out.edg.m2.row f hfn).fz t
                  have y3 := (HM2.out.edg.m2.from_ f hfn).1
                  have HM3 := hideIt (HM2.out.put2 (i := f) (k := t) hfn ht (by omega) (HTop.out.2.2.2 f hfn).2.1 (by have := (HTop.out.2.2.2 f hfn).2.1; omega))
                  generalize seeL s (pre.map (rdA s)) f t = old at y1
                  clear hth hla HSe HGe HM2 y3
                  gi_wp2
                  clear c4 p2 y0 y1 y2
                  generalize Z2.setCell _ _ = Z3 at HM3 ⊢
                  obtain ⟨⟨c0, c1, c2, c3⟩, ⟨c4, c5⟩, _, ⟨p0, p1, p2, p3⟩, hstZ⟩ := HAt.out Z3 _ _ HM3.out
                  obtain ⟨gb, ob, rfl, hgb, la, lc, l1, l2, l3, l4⟩ := hstZ.row hko
                  have HBh : Hid (∀ n, Calls Tryd.prog 48 #[.slice la s.ord[ky].length lc, .int .i64 (f : Int)] (Z3.drewN n) fun e w' => e = .returned (.int .i64 (behV s.ord[ky] (f : Int))) ∧ w' = Z3.drewN n) := fun n => behind_any _ l3 (f : Int) la lc _ (l4.below (below_drewN (Below.refl _ _) n))
                  rw [← lstK_at hko] at HBh l1
                  clear hstZ l4 l2
                  generalize behV (lstK s (ky : Int)) (f : Int) = bv at *
                  generalize lstK s (ky : Int) = L at *
                  refine wpIn_round_quiet (by kernel_rfl) (by kernel_rfl) (by kernel_rfl) ?_
                  repeat (quiet_step ((go_at_call 48; exact Calls.quiet_of_same (HBh.out _))))
                  refine wpQuiet_nil ?_
                  intro _ hw'
                  obtain ⟨nq, hw''⟩ := hw'
                  subst hw''
                  have HMq := hideIt (HBl.out _ (Z3.drewN nq) _ _ HM3.out (below_drewN (Below.refl _ _) nq))
                  obtain ⟨_, ⟨_, d5⟩, _, _, _⟩ := HAt.out _ _ _ HMq.out
                  clear HBh c0 c1 c2 c3 c4 c5 p0 p1 p2 p3 l1
                  generalize Z3.drewN nq = Zq at *
                  by_cases hb1 : bv = -1
                  · have HN : Hid (∀ i k, anwL s (pre.map (rdA s)) i k = (anwL s (pre.map (rdA s)) i k || anwP s (t, ⟨owr, (ky : Int), (f : Int), onum⟩) i k)) := fun i k => by rw [HAn.out, hb1]; simp
                    have HE := hideIt (HFi.out _ _ _ HMq.out HA2.out (fun i k _ _ => HN.out i k))
                    have e1 : (bv != -1) = false := by simp [hb1]
                    clear hb1 HFi HMq HN d5
                    gi_wp2
                    exact HE.out
                  · have e1 : (bv != -1) = true := by simp [hb1]
                    by_cases hb2 : bv = (t : Int)
                    · have HN : Hid (∀ i k, anwL s (pre.map (rdA s)) i k = (anwL s (pre.map (rdA s)) i k || anwP s (t, ⟨owr, (ky : Int), (f : Int), onum⟩) i k)) := fun i k => by rw [HAn.out, hb2]; simp
                      have HE := hideIt (HFi.out _ _ _ HMq.out HA2.out (fun i k _ _ => HN.out i k))
                      have e2 : (bv != (t : Int)) = false := by simp [hb2]
                      clear hb1 hb2 HFi HMq HN d5
                      gi_wp2
                      exact HE.out
                    · have e2 : (bv != (t : Int)) = true := by simp [hb2]
                      obtain ⟨nx, hnx, rfl⟩ := HMem.out hb1
                      have HN : Hid (∀ i k, (if i = t ∧ k = nx then true else anwL s (pre.map (rdA s)) i k) = (anwL s (pre.map (rdA s)) i k || anwP s (t, ⟨owr, (ky : Int), (f : Int), onum⟩) i k)) := or_put fun i k => by
                        rw [HAn.out, HG.out, e1, e2]
                        have h1 : (t == i) = decide (i = t) := by rw [Bool.eq_iff_iff]; simp; exact eq_comm
                        have h2 : ((nx : Int) == (k : Int)) = decide (k = nx) := by rw [Bool.eq_iff_iff]; simp; omega
                        rw [h1, h2]; simp
                      have y0 := HMq.out.edg.m3.head t ht
                      have y1 := (HMq.out.edg.m3.row t ht).bit nx hnx
                      have y2 := (HMq.out.edg.m3.row t ht).fz nx
                      have y3 := (HMq.out.edg.m3.from_ t ht).1
                      have HMr := hideIt (HMq.out.put3 (i := t) (k := nx) ht hnx (by omega) (HTop.out.2.2.2 t ht).2.2 (by have := (HTop.out.2.2.2 t ht).2.2; omega))
                      have HE := hideIt (HFi.out _ _ _ HMr.out HA2.out (fun i k _ _ => HN.out i k))
                      have hnx' : (nx : Int) < s.txs.length := by omega
                      have ht' : (t : Int) < s.txs.length := by omega
                      generalize anwL s (pre.map (rdA s)) t nx = old at y1
                      clear hb1 hb2 HFi HMq HMr HN y3
                      gi_wp2
                      exact HE.out
        case done =>
          rintro D ys W hD hS ⟨hE, hk, hb⟩ hKd
          rw [rdAll hS] at hE
          have hsW := hb.size
          have hs0 := HB4.out.size
          have hlt1 : w.heap.size + 1 < W4.heap.size := lt_of_heap hrb4
          have old : ∀ {g : Nat} {v : Value}, W4.cell? ⟨g, 0, none⟩ = some v → (∀ x, v ≠ .bool x) → W.heap[g]? = W4.heap[g]? := fun {g v} hc hv => hk g (World.block_lt_of_cell? W4 _ hc) fun i hi => ⟨(HE4.out.m2.row i hi).ne_cell (by omega) hc hv, (HE4.out.m3.row i hi).ne_cell (by omega) hc hv⟩
          have hbeW := (old (cell_of_row _ _ 0 _ 58 _ hbe4) (by simp)).trans hbe4
          have hrbW := (old (cell_of_row _ _ 0 _ 58 _ hrb4) (by simp)).trans hrb4
          have b0 : W.cell? ⟨Be, 0, none⟩ = some (.slice (some ⟨B1, 0, none⟩) s.txs.length s.txs.length) := cell_of_row _ _ _ _ 58 _ hbeW
          have b1 : W.cell? ⟨Be, 1, none⟩ = some (.slice (some ⟨B2, 0, none⟩) s.txs.length s.txs.length) := cell_of_row _ _ _ _ 58 _ hbeW
          have b2 : W.cell? ⟨Be, 2, none⟩ = some (.slice (some ⟨B3, 0, none⟩) s.txs.length s.txs.length) := cell_of_row _ _ _ _ 58 _ hbeW
          have x0 : W.cell? ⟨w.heap.size + 1, 0, none⟩ = some (.slice none 0 0) := cell_of_row _ _ _ _ 58 _ hrbW
          have x1 : W.cell? ⟨w.heap.size + 1, 1, none⟩ = some (.slice none 0 0) := cell_of_row _ _ _ _ 58 _ hrbW
          have x2 : W.cell? ⟨w.heap.size + 1, 2, none⟩ = some (.slice none 0 0) := cell_of_row _ _ _ _ 58 _ hrbW
          have z0 := frozen_of_row W (w.heap.size + 1) 0 _ 58 hrbW
          have z1 := frozen_of_row W (w.heap.size + 1) 1 _ 58 hrbW
          have z2 := frozen_of_row W (w.heap.size + 1) 2 _ 58 hrbW
          have HRb := hideIt (tri_set hrbW (.slice (some ⟨B1, 0, none⟩) s.txs.length s.txs.length) (.slice (some ⟨B2, 0, none⟩) s.txs.length s.txs.length) (.slice (some ⟨B3, 0, none⟩) s.txs.length s.txs.length))
          have HBF : Hid (Below w.heap.size w (((W.setCell ⟨w.heap.size + 1, 0, none⟩ (.slice (some ⟨B1, 0, none⟩) s.txs.length s.txs.length)).setCell ⟨w.heap.size + 1, 1, none⟩ (.slice (some ⟨B2, 0, none⟩) s.txs.length s.txs.length)).setCell ⟨w.heap.size + 1, 2, none⟩ (.slice (some ⟨B3, 0, none⟩) s.txs.length s.txs.length))) :=
            (((HB4.out.trans hb).setCell (by show w.heap.size ≤ w.heap.size + 1; omega) _).setCell (by show w.heap.size ≤ w.heap.size + 1; omega) _).setCell (by show w.heap.size ≤ w.heap.size + 1; omega) _
          have HBk : Hid (∀ g, g ≠ w.heap.size + 1 → (((W.setCell ⟨w.heap.size + 1, 0, none⟩ (.slice (some ⟨B1, 0, none⟩) s.txs.length s.txs.length)).setCell ⟨w.heap.size + 1, 1, none⟩ (.slice (some ⟨B2, 0, none⟩) s.txs.length s.txs.length)).setCell ⟨w.heap.size + 1, 2, none⟩ (.slice (some ⟨B3, 0, none⟩) s.txs.length s.txs.length)).heap[g]? = W.heap[g]?) := fun g hg =>
            ((Below.heap_setCell _ ⟨w.heap.size + 1, 2, none⟩ _ g hg).trans (Below.heap_setCell _ ⟨w.heap.size + 1, 1, none⟩ _ g hg)).trans (Below.heap_setCell _ ⟨w.heap.size + 1, 0, none⟩ _ g hg)
          have HKd := hideIt hKd
          have HE := hideIt hE
          clear hbeW hrbW hbe4 hrb4 f0 f1 k0 k1 k2 hfc4 hfq4 hKd hE hk hb
          go_wp2
          clear b0 b1 b2 x0 x1 x2 z0 z1 z2
          generalize ((W.setCell _ _).setCell _ _).setCell _ _ = V at HRb HBF HBk ⊢
          have hK2 := (HBk.out D (by omega)).trans HKd.out
          refine ⟨by simp, .inl ⟨_, _, rfl, run_takeDeferred hK2, ?_⟩⟩
          have hRb2 := (World.putObj_heap_other (w := V) (r := D) (o := .deferred none) (show w.heap.size + 1 ≠ D by omega)).trans HRb.out
          refine ⟨_, results_two rfl _ _ _ _ rfl (tri_load hRb2), ?_⟩
          have hw2 : w.heap.size + 1 < W2.heap.size := HLt2.out
          have hblk : ∀ g, W2.heap.size ≤ g → g < W3.heap.size → (V.putObj D (.deferred none)).heap[g]? = W.heap[g]? := fun g h1 h2 => (World.putObj_heap_other (w := V) (r := D) (o := .deferred none) (show g ≠ D by omega)).trans (HBk.out g (by omega))
          have hM : ∀ {B : Nat} {rb : Nat → Nat} {A : Nat → Nat → Bool}, MatAt W W2.heap.size B s.txs.length s.txs.length rb A → B < W3.heap.size → (∀ i, i < s.txs.length → rb i < W3.heap.size) → ReadM (V.putObj D (.deferred none)) (.slice (some ⟨B, 0, none⟩) s.txs.length s.txs.length) s.txs.length A := fun {B rb A} hm h1 h2 =>
            (hm.blocks (hblk B hm.lo h1) (fun i hi => hblk (rb i) (hm.from_ i hi).1 (h2 i hi))).readM
          exact ⟨_, _, _, by rw [hf]; rfl, fun _ => ⟨hM HE.out.m1 HTop.out.1 (fun i hi => (HTop.out.2.2.2 i hi).1), hM HE.out.m2 HTop.out.2.1 (fun i hi => (HTop.out.2.2.2 i hi).2.1), hM HE.out.m3 HTop.out.2.2.1 (fun i hi => (HTop.out.2.2.2 i hi).2.2)⟩, fun h0 => absurd hf h0, HBF.out.trans (belowK_b (w := w) (Nat.le_refl _) V D _ _ (by omega) hK2 rfl rfl)⟩
        case stop =>
          rintro D c pre W _ _ h _
          exact h.elim
  · have hT : Hid (AllTold s w = AllTold s w) := rfl
    generalize hff : fltI s = f at *
    rw [told_ne hf]
    have r0 : w1.cell? ⟨w.heap.size + 1, 0, none⟩ = some (.slice none 0 0) := cell_of_row _ _ _ _ 58 _ hrb1
    have r1 : w1.cell? ⟨w.heap.size + 1, 1, none⟩ = some (.slice none 0 0) := cell_of_row _ _ _ _ 58 _ hrb1
    have r2 : w1.cell? ⟨w.heap.size + 1, 2, none⟩ = some (.slice none 0 0) := cell_of_row _ _ _ _ 58 _ hrb1
    have z0 := frozen_of_row w1 (w.heap.size + 1) 0 _ 58 hrb1
    have z1 := frozen_of_row w1 (w.heap.size + 1) 1 _ 58 hrb1
    have z2 := frozen_of_row w1 (w.heap.size + 1) 2 _ 58 hrb1
    have HRb := hideIt (tri_set hrb1 (.slice none 0 0) (.slice none 0 0) (.slice none 0 0))
    have HBF : Hid (Below w.heap.size w (((w1.setCell ⟨w.heap.size + 1, 0, none⟩ (.slice none 0 0)).setCell ⟨w.heap.size + 1, 1, none⟩ (.slice none 0 0)).setCell ⟨w.heap.size + 1, 2, none⟩ (.slice none 0 0))) :=
      ((HB1.out.setCell (by show w.heap.size ≤ w.heap.size + 1; omega) _).setCell (by show w.heap.size ≤ w.heap.size + 1; omega) _).setCell (by show w.heap.size ≤ w.heap.size + 1; omega) _
    clear hT hrb1
    go_wp2
    refine ⟨_, results_two rfl _ _ _ _ rfl (tri_load HRb.out), ?_⟩
    exact ⟨_, _, _, by rw [hff, told_ne hf]; rfl, fun h0 => absurd (hff.symm.trans h0) hf, fun _ => ⟨rfl, rfl, rfl⟩, HBF.out⟩
end Go.Proofs.YtaopigjhdkdklaaDoor
