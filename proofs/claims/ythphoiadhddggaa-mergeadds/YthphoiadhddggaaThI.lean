/-
  The statements' own 'things' (a set of numbers, put in at three places), walked.
-/
import Derived.Test.YthphoiadhddggaaOwT
namespace Go.Proofs.Ythphoiadhddggaa
open Go.RowKit

/-- What things tells. -/
def ThgTold (w : World) (e : Ending) (w' : World) : Prop := ∃ (q : Option Nat) (f : Th), e = .returned (.agg #[.map q]) ∧ ThO w' q f ∧ Grid 30 f ∧ Below w.heap.size w w'
/-- .. and behind Put. -/
def PutCut (f : Th) (t : Int) (wr : World) (u e : Value) (wx : World) : Prop := ∃ (b M : Nat) (r m : Int), u = .pointer (some ⟨b, 0, none⟩) ∧ e = .nilIface ∧ wx.heap[b]? = some (.cells #[.map (some M)] 39) ∧ wr.heap.size ≤ b ∧ 0 ≤ r ∧ r < 7 ∧ MaxT f r m ∧ ThK wx M (putK2 f r (m + 1) ⟨t, false⟩) ∧ wr.heap.size ≤ M ∧ Below wr.heap.size wr wx
theorem MapK.notCells {P : Program} {kt : TypeId} {β : Type} {mk : β → Value} {w : World} {M : Nat} {f : Int → Int → Option β} (h : MapK P kt mk w M f) {b i : Nat} {cs : Array Value} {t : TypeId} {v : Value} (hb : w.heap[b]? = some (.cells cs t)) : MapK P kt mk (w.setCell ⟨b, i, none⟩ v) M f := by
  have h2 := h
  refine h.block (Below.heap_setCell _ _ _ _ ?_)
  intro e
  simp only at e
  obtain ⟨n, D, ⟨es, clock, h4, _⟩, _⟩ := h2
  rw [e, hb] at h4
  cases h4

set_option maxRecDepth 100000 in
set_option maxHeartbeats 8000000 in
theorem things_any (l : List Int) (a : Option Addr) (cap : Nat) (w : World) (hl : IntsQ w a l) :
    Calls Try.prog 19 #[.slice a l.length cap] w fun e w' => ThgTold w e w' := by
  have HL := hideIt hl
  clear hl
  go_enter Try.func19, Try.ntmps19
  go_wp2
  have HB0 : Hid (Below w.heap.size w ((w.alloc (.cells #[.map none] 39)).alloc (.cells #[.map none] 39))) := belA (belA (Below.refl _ _) _) _
  have HC1 : Hid (((w.alloc (.cells #[.map none] 39)).alloc (.cells #[.map none] 39)).heap[w.heap.size]? = some (.cells #[.map none] 39)) := blkA (heap_alloc_new w _)
  have HC2 : Hid (((w.alloc (.cells #[.map none] 39)).alloc (.cells #[.map none] 39)).heap[w.heap.size + 1]? = some (.cells #[.map none] 39)) := by
    have := heap_alloc_new (w.alloc (.cells #[.map none] 39)) (.cells #[.map none] 39)
    simp only [World.size_alloc] at this
    exact this
  generalize (w.alloc _).alloc _ = W at HB0 HC1 HC2 ⊢
  go_loopw [4] (fun v wr => ∃ (k : Nat) (q : Option Nat) (f : Th), k ≤ 30 ∧ v = .int .i64 k ∧ ThO wr q f ∧ Grid k f ∧ wr.heap[w.heap.size]? = some (.cells #[.map none] 39) ∧ wr.heap[w.heap.size + 1]? = some (.cells #[.map q] 39) ∧ Below w.heap.size w wr) (fun v _ => 30 - (intOf v).toNat)
  case atStart => exact ⟨0, none, fun _ _ => none, by omega, rfl, .inl ⟨rfl, rfl⟩, grid_none, HC1.out, HC2.out, HB0.out⟩
  case round =>
    clear HB0 HC1 HC2
    obtain ⟨k, q, f, hk, rfl, hq, hg, hc1, hc2, hbe⟩ := hrel
    have HQ := hideIt hq
    have HG := hideIt hg
    have HC1 := hideIt hc1
    have HC2 := hideIt hc2
    have HB := hideIt hbe
    clear hq hg hc1 hc2 hbe
    by_cases hkn : k < l.length
    · have hkn' : (k : Int) < l.length := by omega
      by_cases hk20 : k < 30
      · have hk20' : (k : Int) < 30 := by omega
        obtain ⟨g, off, rfl, hgl, hcl⟩ := (HL.out.below HB.out).at hkn
        generalize l[k] = x at hcl
        have qn : ∀ W : World, (binOp .eql 43 .nilIface .nilIface).run Try.prog W = .ok (.bool true) W := fun W => by rfl
        have h1l := (Array.getElem?_eq_some_iff.1 HC1.out).1
        have h2l := (Array.getElem?_eq_some_iff.1 HC2.out).1
        have HX : Hid (∀ Z, Below wr.heap.size wr Z → Z.cell? ⟨w.heap.size + 1, 0, none⟩ = some (.map q) ∧ Z.cell? ⟨g, off + k, none⟩ = some (.int .i64 x)) := fun Z hZ => ⟨(hZ.cell (p := ⟨w.heap.size + 1, 0, none⟩) h2l).trans (blk1 HC2.out).1, (hZ.cell (p := ⟨g, off + k, none⟩) hgl).trans hcl⟩
        go_wp2_with fail
        refine (pick_any _ 6 wr (by omega) (by omega)).mono fun e w1 ⟨t, ht, he, hw⟩ => ?_
        subst he w1
        go_wp2_with fail
        refine (pick_any _ 4 wr (by omega) (by omega)).mono fun e w1 ⟨s, hs, he, hw⟩ => ?_
        subst he w1
        by_cases hs0 : s = 0
        · subst hs0
          obtain ⟨c2, f2⟩ := blk1 HC2.out
          go_wp2_with fail
          refine (drop_any f (HG.out.few (by omega)) t q wr HQ.out).mono fun e w2 ⟨M, he, hm, hlo, hb2⟩ => ?_
          subst he
          obtain ⟨d2, g2⟩ := blk1 (blkB HC2.out hb2 h2l)
          have HD1 : Hid ((w2.setCell ⟨w.heap.size + 1, 0, none⟩ (.map (some M))).heap[w.heap.size]? = some (.cells #[.map none] 39)) := (Below.heap_setCell _ _ _ _ (by simp)).trans (blkB HC1.out hb2 h1l)
          have HD2 : Hid ((w2.setCell ⟨w.heap.size + 1, 0, none⟩ (.map (some M))).heap[w.heap.size + 1]? = some (.cells #[.map (some M)] 39)) := heap_setCell_same w2 (w.heap.size + 1) 0 #[.map q] 39 (.map (some M)) (blkB HC2.out hb2 h2l)
          have HDb : Hid (Below w.heap.size w (w2.setCell ⟨w.heap.size + 1, 0, none⟩ (.map (some M)))) := (belJ HB.out hb2).setCell (by simp) _
          have HDm : Hid (ThO (w2.setCell ⟨w.heap.size + 1, 0, none⟩ (.map (some M))) (some M) (dropT f t)) := .inr ⟨M, rfl, hm.block (Below.heap_setCell _ _ _ _ (by simp; omega))⟩
          clear hm hlo hb2
          go_wp2
          go_roundw
          case rel => exact ⟨k + 1, some M, dropT f t, by omega, by go_num, HDm.out, (HG.out.drop t).mono (by omega), HD1.out, HD2.out, HDb.out⟩
          case measure => simp [intOf]; omega
        have hs0' : ((s : Int) == 0) = false := by simp; omega
        go_upto_region 8 with fail
        go_cut [6, 7] from 33 to 44 (fun u e wx => PutCut f t wr u e wx)
        case rest =>
          rename World => w5
          obtain ⟨b, M, r, m, rfl, rfl, hbm, hbl, hr0, hr7, hmx, hm, hlo, hb5⟩ := hcut
          obtain ⟨c5, f5⟩ := blk1 hbm
          obtain ⟨d2, g2⟩ := blk1 (blkB HC2.out hb5 h2l)
          have HD1 : Hid ((w5.setCell ⟨w.heap.size + 1, 0, none⟩ (.map (some M))).heap[w.heap.size]? = some (.cells #[.map none] 39)) := (Below.heap_setCell _ _ _ _ (by simp)).trans (blkB HC1.out hb5 h1l)
          have HD2 : Hid ((w5.setCell ⟨w.heap.size + 1, 0, none⟩ (.map (some M))).heap[w.heap.size + 1]? = some (.cells #[.map (some M)] 39)) := heap_setCell_same w5 (w.heap.size + 1) 0 #[.map q] 39 (.map (some M)) (blkB HC2.out hb5 h2l)
          have HDb : Hid (Below w.heap.size w (w5.setCell ⟨w.heap.size + 1, 0, none⟩ (.map (some M)))) := (belJ HB.out hb5).setCell (by simp) _
          have HDm : Hid (ThO (w5.setCell ⟨w.heap.size + 1, 0, none⟩ (.map (some M))) (some M) (putK2 f r (m + 1) ⟨t, false⟩)) := .inr ⟨M, rfl, hm.block (Below.heap_setCell _ _ _ _ (by simp; omega))⟩
          have HMx := hideIt hmx
          clear hm hlo hb5 hmx hbm
          go_wp2
          go_roundw
          case rel => exact ⟨k + 1, some M, _, by omega, by go_num, HDm.out, HG.out.put ⟨hr0, hr7⟩ HMx.out _, HD1.out, HD2.out, HDb.out⟩
          case measure => simp [intOf]; omega
        refine wp_region_held_drew (S := (fun Z => Below wr.heap.size wr Z)) (by kernel_rfl) (Below.refl _ _).drew (fun hHeld => ?_)
        refine wpAnyH_take (i := 0) (v := ?_) rfl (by kernel_rfl) (by kernel_rfl) (by kernel_rfl) (fun _ _ _ h => h) (Or.inl ⟨by rfl, ?_⟩) (by assumption) ?_
        rotate_left 1
        · intro wz sb
          obtain ⟨y0, y1⟩ := HX.out wz sb
          go_simp
          all_goals with_reducible rfl
        simp only [Act.put, List.setIfInBounds_toArray, List.set_cons_zero, List.set_cons_succ, List.getElem_toArray, List.getElem_cons_zero]
        refine wpAnyH_take (i := 1) (v := ?_) rfl (by kernel_rfl) (by kernel_rfl) (by kernel_rfl) (fun _ _ _ h => h) (Or.inl ⟨by rfl, ?_⟩) (by assumption) ?_
        rotate_left 1
        · intro wz sb
          obtain ⟨y0, y1⟩ := HX.out wz sb
          go_simp
          all_goals with_reducible rfl
        simp only [Act.put, List.setIfInBounds_toArray, List.set_cons_zero, List.set_cons_succ, List.getElem_toArray, List.getElem_cons_zero, List.getElem_cons_succ]
        refine wpAnyH_take (i := 2) (v := ?_) rfl (by kernel_rfl) (by kernel_rfl) (by kernel_rfl) (fun _ _ _ h => h) (Or.inl ⟨by rfl, ?_⟩) (by assumption) ?_
        rotate_left 1
        · intro wz sb
          obtain ⟨y0, y1⟩ := HX.out wz sb
          go_simp
          all_goals with_reducible rfl
        simp only [Act.put, List.setIfInBounds_toArray, List.set_cons_zero, List.set_cons_succ, List.getElem_toArray, List.getElem_cons_zero, List.getElem_cons_succ]
        refine wpAnyH_take (i := 3) (v := ?_) rfl (by kernel_rfl) (by kernel_rfl) (by kernel_rfl) (fun _ _ _ h => h) (Or.inl ⟨by rfl, ?_⟩) (by assumption) ?_
        rotate_left 1
        · intro wz sb
          obtain ⟨y0, y1⟩ := HX.out wz sb
          go_simp
          all_goals with_reducible rfl
        simp only [Act.put, List.setIfInBounds_toArray, List.set_cons_zero, List.set_cons_succ, List.getElem_toArray, List.getElem_cons_zero, List.getElem_cons_succ]
        refine wpAnyH_take (i := 4) (v := ?_) rfl (by kernel_rfl) (by kernel_rfl) (by kernel_rfl) (fun _ _ _ h => h) (Or.inl ⟨by rfl, ?_⟩) (by assumption) ?_
        rotate_left 1
        · intro wz sb
          obtain ⟨y0, y1⟩ := HX.out wz sb
          go_simp
          all_goals with_reducible rfl
        simp only [Act.put, List.setIfInBounds_toArray, List.set_cons_zero, List.set_cons_succ, List.getElem_toArray, List.getElem_cons_zero, List.getElem_cons_succ]
        refine wpAnyH_take (i := 5) (v := ?_) rfl (by kernel_rfl) (by kernel_rfl) (by kernel_rfl) (fun _ _ _ h => h) (Or.inl ⟨by rfl, ?_⟩) (by assumption) ?_
        rotate_left 1
        · intro wz sb
          obtain ⟨y0, y1⟩ := HX.out wz sb
          go_simp
          all_goals with_reducible rfl
        simp only [Act.put, List.setIfInBounds_toArray, List.set_cons_zero, List.set_cons_succ, List.getElem_toArray, List.getElem_cons_zero, List.getElem_cons_succ]
        refine wpAnyH_take (i := 7) (v := ?_) rfl (by kernel_rfl) (by kernel_rfl) (by kernel_rfl) (fun _ _ _ h => h) (Or.inl ⟨by rfl, ?_⟩) (by assumption) ?_
        rotate_left 1
        · intro wz sb
          obtain ⟨y0, y1⟩ := HX.out wz sb
          go_simp
          all_goals with_reducible rfl
        simp only [Act.put, List.setIfInBounds_toArray, List.set_cons_zero, List.set_cons_succ, List.getElem_toArray, List.getElem_cons_zero, List.getElem_cons_succ]
        generalize wr.drew = Y at hHeld ⊢
        refine wpAnyH_ready (rs := [6, 12]) (by kernel_rfl) (by simp) (AllReadyH.cons rfl (fun K hK => ?_) (AllReadyH.cons rfl (fun K hK => ?_) AllReadyH.nil))
        · go_simp
          refine (pick_any _ 3 Y (by omega) (by omega)).mono fun e w1 ⟨r, hr, he, hw⟩ => ?_
          subst he w1
          refine hK.out _ _ hHeld (fun hHeld => ?_)
          clear hK K
          refine wpAnyH_ready (rs := [8, 12]) (by kernel_rfl) (by simp) (AllReadyH.cons rfl (fun K hK => ?_) (AllReadyH.cons rfl (fun K hK => ?_) AllReadyH.nil))
          · go_simp
            refine (put_any f (HG.out.few (by omega)) (r : Int) t q (by omega) (by omega) (HG.out.bnd (by omega) r) Y (HQ.out.bel hHeld)).mono fun e Y2 ⟨M, m, hmx, he, hm, hlo, hb2⟩ => ?_
            subst he
            have hzY := hHeld.size
            refine hK.out _ _ (belJ hHeld hb2) (fun hHeld => ?_)
            clear hK K
            refine wpAnyH_take (i := 9) (v := ?_) rfl (by kernel_rfl) (by kernel_rfl) (by kernel_rfl) (fun _ _ _ h => h) (Or.inl ⟨by rfl, ?_⟩) (by assumption) ?_
            rotate_left 1
            · intro wz _
              go_simp
              all_goals with_reducible rfl
            simp only [Act.put, List.setIfInBounds_toArray, List.set_cons_zero, List.set_cons_succ, List.getElem_toArray, List.getElem_cons_zero, List.getElem_cons_succ]
            refine wpAnyH_take (i := 10) (v := ?_) rfl (by kernel_rfl) (by kernel_rfl) (by kernel_rfl) (fun _ _ _ h => h) (Or.inl ⟨by rfl, ?_⟩) (by assumption) ?_
            rotate_left 1
            · intro wz _
              go_simp
              all_goals with_reducible rfl
            simp only [Act.put, List.setIfInBounds_toArray, List.set_cons_zero, List.set_cons_succ, List.getElem_toArray, List.getElem_cons_zero, List.getElem_cons_succ]
            refine wpAnyH_take (i := 11) (v := ?_) rfl (by kernel_rfl) (by kernel_rfl) (by kernel_rfl) (fun _ _ _ h => h) (Or.inl ⟨by rfl, ?_⟩) (by assumption) ?_
            rotate_left 1
            · intro wz _
              go_simp
              all_goals with_reducible rfl
            simp only [Act.put, List.setIfInBounds_toArray, List.set_cons_zero, List.set_cons_succ, List.getElem_toArray, List.getElem_cons_zero, List.getElem_cons_succ]
            refine wpAnyH_ready (rs := [12]) (by kernel_rfl) (by simp) (AllReadyH.cons rfl (fun K hK => ?_) AllReadyH.nil)
            go_simp
            have hSY3 := hHeld.size
            have hAY3 := heap_alloc_new Y2 (.cells #[.map none] 39)
            have hBY3 : Below Y2.heap.size Y2 (Y2.alloc (.cells #[.map none] 39)) := belA (Below.refl _ _) _
            have hZY3 : Y2.heap.size < (Y2.alloc (.cells #[.map none] 39)).heap.size := by simp
            refine hK.out _ _ (belJ hHeld hBY3) (fun hHeld => ?_)
            clear hK K
            generalize Y2.alloc (.cells #[.map none] 39) = Y3 at *
            refine wpAnyH_ready (rs := [13]) (by kernel_rfl) (by simp) (AllReadyH.cons rfl (fun K hK => ?_) AllReadyH.nil)
            obtain ⟨c9, f9⟩ := blk1 (hAY3)
            have HNb : Hid ((Y3.setCell ⟨Y2.heap.size, 0, none⟩ (.map (some M))).heap[Y2.heap.size]? = some (.cells #[.map (some M)] 39)) := heap_setCell_same Y3 Y2.heap.size 0 #[.map none] 39 (.map (some M)) (hAY3)
            have HNm : Hid (ThK (Y3.setCell ⟨Y2.heap.size, 0, none⟩ (.map (some M))) M (putK2 f r (m + 1) ⟨t, false⟩)) := (hm.below hBY3 (by have := hm.lt; omega)).notCells (hAY3)
            have hKp : Below wr.heap.size wr (Y3.setCell ⟨Y2.heap.size, 0, none⟩ (.map (some M))) := hHeld.setCell (by simp only; omega) _
            go_simp
            refine hK.out _ _ hKp (fun hHeld => ?_)
            clear hK K
            refine wpAnyH_ready (rs := [14]) (by kernel_rfl) (by simp) (AllReadyH.cons rfl (fun K hK => ?_) AllReadyH.nil)
            go_simp
            refine hK.out _ _ hHeld (fun hHeld => ?_)
            clear hK K
            refine wpAnyH_done (by kernel_rfl) ?_ _
            go_wp2
            go_meet
            exact ⟨Y2.heap.size, M, r, m, rfl, rfl, HNb.out, by omega, by omega, by omega, hmx, HNm.out, by omega, hHeld⟩
          · go_simp
            have hSY1 := hHeld.size
            have hAY1 := heap_alloc_new Y (.cells #[.map none] 39)
            have hBY1 : Below Y.heap.size Y (Y.alloc (.cells #[.map none] 39)) := belA (Below.refl _ _) _
            have hZY1 : Y.heap.size < (Y.alloc (.cells #[.map none] 39)).heap.size := by simp
            refine hK.out _ _ (belJ hHeld hBY1) (fun hHeld => ?_)
            clear hK K
            generalize Y.alloc (.cells #[.map none] 39) = Y1 at *
            refine wpAnyH_ready (rs := [8]) (by kernel_rfl) (by simp) (AllReadyH.cons rfl (fun K hK => ?_) AllReadyH.nil)
            go_simp
            refine (put_any f (HG.out.few (by omega)) (r : Int) t q (by omega) (by omega) (HG.out.bnd (by omega) r) Y1 (HQ.out.bel hHeld)).mono fun e Y2 ⟨M, m, hmx, he, hm, hlo, hb2⟩ => ?_
            subst he
            have hzY := hHeld.size
            refine hK.out _ _ (belJ hHeld hb2) (fun hHeld => ?_)
            clear hK K
            refine wpAnyH_take (i := 9) (v := ?_) rfl (by kernel_rfl) (by kernel_rfl) (by kernel_rfl) (fun _ _ _ h => h) (Or.inl ⟨by rfl, ?_⟩) (by assumption) ?_
            rotate_left 1
            · intro wz _
              go_simp
              all_goals with_reducible rfl
            simp only [Act.put, List.setIfInBounds_toArray, List.set_cons_zero, List.set_cons_succ, List.getElem_toArray, List.getElem_cons_zero, List.getElem_cons_succ]
            refine wpAnyH_take (i := 10) (v := ?_) rfl (by kernel_rfl) (by kernel_rfl) (by kernel_rfl) (fun _ _ _ h => h) (Or.inl ⟨by rfl, ?_⟩) (by assumption) ?_
            rotate_left 1
            · intro wz _
              go_simp
              all_goals with_reducible rfl
            simp only [Act.put, List.setIfInBounds_toArray, List.set_cons_zero, List.set_cons_succ, List.getElem_toArray, List.getElem_cons_zero, List.getElem_cons_succ]
            refine wpAnyH_take (i := 11) (v := ?_) rfl (by kernel_rfl) (by kernel_rfl) (by kernel_rfl) (fun _ _ _ h => h) (Or.inl ⟨by rfl, ?_⟩) (by assumption) ?_
            rotate_left 1
            · intro wz _
              go_simp
              all_goals with_reducible rfl
            simp only [Act.put, List.setIfInBounds_toArray, List.set_cons_zero, List.set_cons_succ, List.getElem_toArray, List.getElem_cons_zero, List.getElem_cons_succ]
            refine wpAnyH_ready (rs := [13]) (by kernel_rfl) (by simp) (AllReadyH.cons rfl (fun K hK => ?_) AllReadyH.nil)
            obtain ⟨c9, f9⟩ := blk1 (blkB hAY1 hb2 (by omega))
            have HNb : Hid ((Y2.setCell ⟨Y.heap.size, 0, none⟩ (.map (some M))).heap[Y.heap.size]? = some (.cells #[.map (some M)] 39)) := heap_setCell_same Y2 Y.heap.size 0 #[.map none] 39 (.map (some M)) (blkB hAY1 hb2 (by omega))
            have HNm : Hid (ThK (Y2.setCell ⟨Y.heap.size, 0, none⟩ (.map (some M))) M (putK2 f r (m + 1) ⟨t, false⟩)) := (hm).notCells (blkB hAY1 hb2 (by omega))
            have hKp : Below wr.heap.size wr (Y2.setCell ⟨Y.heap.size, 0, none⟩ (.map (some M))) := hHeld.setCell (by simp only; omega) _
            go_simp
            refine hK.out _ _ hKp (fun hHeld => ?_)
            clear hK K
            refine wpAnyH_ready (rs := [14]) (by kernel_rfl) (by simp) (AllReadyH.cons rfl (fun K hK => ?_) AllReadyH.nil)
            go_simp
            refine hK.out _ _ hHeld (fun hHeld => ?_)
            clear hK K
            refine wpAnyH_done (by kernel_rfl) ?_ _
            go_wp2
            go_meet
            exact ⟨Y.heap.size, M, r, m, rfl, rfl, HNb.out, by omega, by omega, by omega, hmx, HNm.out, by omega, hHeld⟩
        · go_simp
          have hSY1 := hHeld.size
          have hAY1 := heap_alloc_new Y (.cells #[.map none] 39)
          have hBY1 : Below Y.heap.size Y (Y.alloc (.cells #[.map none] 39)) := belA (Below.refl _ _) _
          have hZY1 : Y.heap.size < (Y.alloc (.cells #[.map none] 39)).heap.size := by simp
          refine hK.out _ _ (belJ hHeld hBY1) (fun hHeld => ?_)
          clear hK K
          generalize Y.alloc (.cells #[.map none] 39) = Y1 at *
          refine wpAnyH_ready (rs := [6]) (by kernel_rfl) (by simp) (AllReadyH.cons rfl (fun K hK => ?_) AllReadyH.nil)
          go_simp
          refine (pick_any _ 3 Y1 (by omega) (by omega)).mono fun e w1 ⟨r, hr, he, hw⟩ => ?_
          subst he w1
          refine hK.out _ _ hHeld (fun hHeld => ?_)
          clear hK K
          refine wpAnyH_ready (rs := [8]) (by kernel_rfl) (by simp) (AllReadyH.cons rfl (fun K hK => ?_) AllReadyH.nil)
          go_simp
          refine (put_any f (HG.out.few (by omega)) (r : Int) t q (by omega) (by omega) (HG.out.bnd (by omega) r) Y1 (HQ.out.bel hHeld)).mono fun e Y2 ⟨M, m, hmx, he, hm, hlo, hb2⟩ => ?_
          subst he
          have hzY := hHeld.size
          refine hK.out _ _ (belJ hHeld hb2) (fun hHeld => ?_)
          clear hK K
          refine wpAnyH_take (i := 9) (v := ?_) rfl (by kernel_rfl) (by kernel_rfl) (by kernel_rfl) (fun _ _ _ h => h) (Or.inl ⟨by rfl, ?_⟩) (by assumption) ?_
          rotate_left 1
          · intro wz _
            go_simp
            all_goals with_reducible rfl
          simp only [Act.put, List.setIfInBounds_toArray, List.set_cons_zero, List.set_cons_succ, List.getElem_toArray, List.getElem_cons_zero, List.getElem_cons_succ]
          refine wpAnyH_take (i := 10) (v := ?_) rfl (by kernel_rfl) (by kernel_rfl) (by kernel_rfl) (fun _ _ _ h => h) (Or.inl ⟨by rfl, ?_⟩) (by assumption) ?_
          rotate_left 1
          · intro wz _
            go_simp
            all_goals with_reducible rfl
          simp only [Act.put, List.setIfInBounds_toArray, List.set_cons_zero, List.set_cons_succ, List.getElem_toArray, List.getElem_cons_zero, List.getElem_cons_succ]
          refine wpAnyH_take (i := 11) (v := ?_) rfl (by kernel_rfl) (by kernel_rfl) (by kernel_rfl) (fun _ _ _ h => h) (Or.inl ⟨by rfl, ?_⟩) (by assumption) ?_
          rotate_left 1
          · intro wz _
            go_simp
            all_goals with_reducible rfl
          simp only [Act.put, List.setIfInBounds_toArray, List.set_cons_zero, List.set_cons_succ, List.getElem_toArray, List.getElem_cons_zero, List.getElem_cons_succ]
          refine wpAnyH_ready (rs := [13]) (by kernel_rfl) (by simp) (AllReadyH.cons rfl (fun K hK => ?_) AllReadyH.nil)
          obtain ⟨c9, f9⟩ := blk1 (blkB hAY1 hb2 (by omega))
          have HNb : Hid ((Y2.setCell ⟨Y.heap.size, 0, none⟩ (.map (some M))).heap[Y.heap.size]? = some (.cells #[.map (some M)] 39)) := heap_setCell_same Y2 Y.heap.size 0 #[.map none] 39 (.map (some M)) (blkB hAY1 hb2 (by omega))
          have HNm : Hid (ThK (Y2.setCell ⟨Y.heap.size, 0, none⟩ (.map (some M))) M (putK2 f r (m + 1) ⟨t, false⟩)) := (hm).notCells (blkB hAY1 hb2 (by omega))
          have hKp : Below wr.heap.size wr (Y2.setCell ⟨Y.heap.size, 0, none⟩ (.map (some M))) := hHeld.setCell (by simp only; omega) _
          go_simp
          refine hK.out _ _ hKp (fun hHeld => ?_)
          clear hK K
          refine wpAnyH_ready (rs := [14]) (by kernel_rfl) (by simp) (AllReadyH.cons rfl (fun K hK => ?_) AllReadyH.nil)
          go_simp
          refine hK.out _ _ hHeld (fun hHeld => ?_)
          clear hK K
          refine wpAnyH_done (by kernel_rfl) ?_ _
          go_wp2
          go_meet
          exact ⟨Y.heap.size, M, r, m, rfl, rfl, HNb.out, by omega, by omega, by omega, hmx, HNm.out, by omega, hHeld⟩
      · have hk20' : ¬ (k : Int) < 30 := by omega
        obtain ⟨c1, f1⟩ := blk1 HC1.out
        obtain ⟨c2, f2⟩ := blk1 HC2.out
        have HDm : Hid (ThO (wr.setCell ⟨w.heap.size, 0, none⟩ (.map q)) q f) := HQ.out.cellsB HC1.out
        go_wp2
        exact bodyPost_ret (results_one rfl _ _ _ _ rfl (loadT (World.cell?_setCell_same _ _ _ c1))) rfl ⟨q, f, rfl, HDm.out, HG.out.mono (by omega), HB.out.setCell (by simp) _⟩
    · have hkn' : ¬ (k : Int) < l.length := by omega
      obtain ⟨c1, f1⟩ := blk1 HC1.out
      obtain ⟨c2, f2⟩ := blk1 HC2.out
      have HDm : Hid (ThO (wr.setCell ⟨w.heap.size, 0, none⟩ (.map q)) q f) := HQ.out.cellsB HC1.out
      go_wp2
      exact bodyPost_ret (results_one rfl _ _ _ _ rfl (loadT (World.cell?_setCell_same _ _ _ c1))) rfl ⟨q, f, rfl, HDm.out, HG.out.mono (by omega), HB.out.setCell (by simp) _⟩
end Go.Proofs.Ythphoiadhddggaa
