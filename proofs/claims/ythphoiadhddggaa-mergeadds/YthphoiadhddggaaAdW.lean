/-
  The statement MergeAdds, walked.
-/
import Derived.Test.YthphoiadhddggaaThI
namespace Go.Proofs.Ythphoiadhddggaa
open Go.RowKit

theorem drop_has (f : Th) (t : Int) : ¬ HasT (dropT f t) t := fun ⟨a, b, h⟩ => by
  unfold dropT at h
  cases hf : f a b with
  | none => rw [hf] at h; cases h
  | some m =>
    rw [hf] at h
    simp only [Option.map_some, Option.some.injEq] at h
    split at h
    · cases h
    · rename_i hx
      rw [h] at hx
      exact hx rfl
theorem join_drop_has (f : Th) (t : Int) : ¬ HasT (joinT f (dropT f t)) t := fun ⟨a, b, h⟩ => by
  unfold joinT at h
  cases hd : dropT f t a b with
  | none =>
    rw [hd] at h
    simp only at h
    have h1 := dropT_some f t a b
    rw [hd, h] at h1
    cases h1
  | some m =>
    rw [hd] at h
    simp only [Option.some.injEq, Mk.mk.injEq, Bool.or_eq_false_iff] at h
    obtain ⟨h1, h2, _⟩ := h
    exact drop_has f t ⟨a, b, by rw [hd, ← h1, ← h2]⟩
theorem put_has (f : Th) (p k t : Int) : HasT (putK2 f p k ⟨t, false⟩) t := ⟨p, k, putK2_same _ _ _ _⟩
theorem join_put_has {f : Th} {p m : Int} (hm : MaxT f p m) (t : Int) : HasT (joinT (putK2 f p (m + 1) ⟨t, false⟩) (dropT f t)) t := by
  refine ⟨p, m + 1, ?_⟩
  have h1 : f p (m + 1) = none := by
    cases h : f p (m + 1) with
    | none => rfl
    | some x => have := hm.le _ _ h; omega
  unfold joinT
  have h2 : dropT f t p (m + 1) = none := by unfold dropT; rw [h1]; rfl
  rw [h2]
  exact putK2_same _ _ _ _
/-- What is in the region of k. -/
def JCut (h : Th) (w0 : World) (u : Value) (wx : World) : Prop := ∃ b M : Nat, u = .pointer (some ⟨b, 0, none⟩) ∧ wx.heap[b]? = some (.cells #[.map (some M)] 39) ∧ ThK wx M h ∧ Below w0.heap.size w0 wx
theorem HasTold.yes {f : Th} {t : Int} {w w' : World} {e : Ending} (h : HasTold f t w e w') (hh : HasT f t) : e = .returned (.bool true) ∧ Below w.heap.size w w' := by
  obtain ⟨b, h1, h2, h3⟩ := h
  rw [h2.2 hh] at h1
  exact ⟨h1, h3⟩
theorem HasTold.no {f : Th} {t : Int} {w w' : World} {e : Ending} (h : HasTold f t w e w') (hh : ¬ HasT f t) : e = .returned (.bool false) ∧ Below w.heap.size w w' := by
  obtain ⟨b, h1, h2, h3⟩ := h
  have : b = false := by cases b with | false => rfl | true => exact absurd (h2.1 rfl) hh
  rw [this] at h1
  exact ⟨h1, h3⟩

set_option maxRecDepth 100000 in
set_option maxHeartbeats 8000000 in
theorem adds_walk (l : List Int) (a : Option Addr) (cap : Nat) (x : Int) (w : World) (hl : IntsQ w a l) :
    Calls Try.prog 6 #[.slice a l.length cap, .int .i64 x] w fun e w' => e = .returned (.bool true) ∧ Below w.heap.size w w' := by
  have HL := hideIt hl
  clear hl
  have qn : ∀ W : World, (binOp .neq 43 .nilIface .nilIface).run Try.prog W = .ok (.bool false) W := fun W => by rfl
  go_enter Try.func6, Try.ntmps6
  go_wp2_with fail
  refine (pick_any x 6 w (by omega) (by omega)).mono fun e w1 ⟨t, ht, he, hw⟩ => ?_
  subst he w1
  go_wp2_with fail
  refine (things_any l a cap w HL.out).mono fun e w1 ⟨q, f, he, hq, hg, hb1⟩ => ?_
  subst he
  have HB1 := hideIt hb1
  have HQ1 := hideIt hq
  have HG := hideIt hg
  clear hq hg hb1
  have HBa := hideIt (belA (Below.refl _ w1) (.cells #[.map q] 39))
  have HT1 := hideIt (heap_alloc_new w1 (.cells #[.map q] 39))
  go_wp2_with fail
  refine (put_any f (HG.out.few (by omega)) 3 t q (by omega) (by omega) (HG.out.bnd (by omega) 3) _ (HQ1.out.bel HBa.out)).mono fun e w2 ⟨Ma, m, hmx, he, hma, hloa, hb2⟩ => ?_
  subst he
  have HB2 := hideIt (belJ HBa.out hb2)
  have HT2 := hideIt (blkB HT1.out hb2 (by simp))
  have HA2 := hideIt hma
  have HMx := hideIt hmx
  have HBb := hideIt (belA (Below.refl _ w2) (.cells #[.map (some Ma)] 39))
  have HT3 := hideIt (blkA (o := .cells #[.map (some Ma)] 39) HT2.out)
  have HU3 := hideIt (heap_alloc_new w2 (.cells #[.map (some Ma)] 39))
  have hz12 : w1.heap.size < w2.heap.size := (Array.getElem?_eq_some_iff.1 HT2.out).1
  clear hma hloa hb2 hmx
  obtain ⟨c3, f3⟩ := blk1 HT3.out
  go_wp2_with fail
  refine (drop_any f (HG.out.few (by omega)) t q _ (HQ1.out.bel (belJ HB2.out HBb.out))).mono fun e w3 ⟨Mb, he, hmb, hlob, hb3⟩ => ?_
  subst he
  have HB3 := hideIt (belJ (belJ HB2.out HBb.out) hb3)
  have HA3 := hideIt ((HA2.out.alloc (.cells #[.map (some Ma)] 39)).below hb3 (HA2.out.alloc _).lt)
  have HU4 := hideIt (blkB HU3.out hb3 (by simp))
  have HBm := hideIt hmb
  have hz23 : w2.heap.size < w3.heap.size := (Array.getElem?_eq_some_iff.1 HU4.out).1
  clear hmb hlob hb3 c3 f3 HT3 HU3 HT2 HT1
  have HBc := hideIt (belA (Below.refl _ w3) (.cells #[.map (some Mb)] 39))
  have HV4 := hideIt (heap_alloc_new w3 (.cells #[.map (some Mb)] 39))
  have HU5 := hideIt (blkA (o := .cells #[.map (some Mb)] 39) HU4.out)
  have HA4 := hideIt (HA3.out.alloc (.cells #[.map (some Mb)] 39))
  have HBm4 := hideIt (HBm.out.alloc (.cells #[.map (some Mb)] 39))
  have HB4 := hideIt (belJ HB3.out HBc.out)
  have hz4 : (w3.alloc (.cells #[.map (some Mb)] 39)).heap.size = w3.heap.size + 1 := by simp
  go_wp2_with fail
  generalize w3.alloc (.cells #[.map (some Mb)] 39) = W4 at HV4 HU5 HA4 HBm4 HB4 hz4 ⊢
  refine (counted_any W4).mono fun e w5 ⟨he, hb5⟩ => ?_
  subst he
  have HV5 := hideIt (blkB HV4.out hb5 (Array.getElem?_eq_some_iff.1 HV4.out).1)
  have HU6 := hideIt (blkB HU5.out hb5 (Array.getElem?_eq_some_iff.1 HU5.out).1)
  have HA5 := hideIt (HA4.out.below hb5 HA4.out.lt)
  have HBm5 := hideIt (HBm4.out.below hb5 HBm4.out.lt)
  have HB5 := hideIt (belJ HB4.out hb5)
  have hz5 := hb5.size
  clear hb5 HV4 HU5 HA4 HBm4 HB4 HBc HBm HU4 HA3 HB3
  generalize hFa : putK2 f 3 (m + 1) ⟨(t : Int), false⟩ = fa at *
  have HGa : Hid (Grid 31 fa) := by rw [← hFa]; exact HG.out.put (by omega) HMx.out _
  have HH1 : Hid (HasT (joinT fa (dropT f t)) t) := by rw [← hFa]; exact join_put_has HMx.out t
  have HH4 : Hid (HasT fa t) := by rw [← hFa]; exact put_has f 3 (m + 1) t
  clear hFa
  have hzz : w2.heap.size ≠ w3.heap.size := by omega
  generalize w2.heap.size = ba at *
  generalize w3.heap.size = bb at *
  obtain ⟨c5, f5⟩ := blk1 HU6.out
  obtain ⟨c6, f6⟩ := blk1 HV5.out
  go_wp2_with fail
  refine (join_any fa (dropT f t) (HGa.out.few (by omega)) ((few_join (HGa.out.few (N := 1000) (by omega)) ((HG.out.drop t).few (N := 1000) (by omega))).mono (by omega) fun _ _ h => h) (some Ma) (some Mb) w5 (.inr ⟨Ma, rfl, HA5.out⟩) (.inr ⟨Mb, rfl, HBm5.out⟩)).mono fun e w6 ⟨Mj, he, hmj, hloj, hb6⟩ => ?_
  subst he
  have HV6 := hideIt (blkA (o := .cells #[.map (some Mj)] 39) (blkB HV5.out hb6 (Array.getElem?_eq_some_iff.1 HV5.out).1))
  have HU7 := hideIt (blkA (o := .cells #[.map (some Mj)] 39) (blkB HU6.out hb6 (Array.getElem?_eq_some_iff.1 HU6.out).1))
  have HJ7 := hideIt (heap_alloc_new w6 (.cells #[.map (some Mj)] 39))
  have HA7 := hideIt ((HA5.out.below hb6 HA5.out.lt).alloc (.cells #[.map (some Mj)] 39))
  have HBm7 := hideIt ((HBm5.out.below hb6 HBm5.out.lt).alloc (.cells #[.map (some Mj)] 39))
  have HMj7 := hideIt (hmj.alloc (.cells #[.map (some Mj)] 39))
  have HB7 := hideIt (belA (belJ HB5.out hb6) (.cells #[.map (some Mj)] 39))
  clear hmj hloj hb6 c5 f5 c6 f6 HV5 HU6 HA5 HBm5 HB5
  go_upto_region 8 with fail
  generalize w6.alloc (.cells #[.map (some Mj)] 39) = wr at HV6 HU7 HJ7 HA7 HBm7 HMj7 HB7 ⊢
  generalize w6.heap.size = bj at *
  have h7l := (Array.getElem?_eq_some_iff.1 HU7.out).1
  have HX : Hid (∀ Z, Below wr.heap.size wr Z → Z.cell? ⟨ba, 0, none⟩ = some (.map (some Ma)) ∧ True) := fun Z hZ => ⟨(hZ.cell (p := ⟨ba, 0, none⟩) h7l).trans (blk1 HU7.out).1, trivial⟩
  have HFa : Hid (Few 10000 fa) := HGa.out.few (by omega)
  have HFk : Hid (Few 10000 (joinT fa (dropT fa t))) := (few_join (HGa.out.few (N := 1000) (by omega)) ((HGa.out.drop t).few (N := 1000) (by omega))).mono (by omega) fun _ _ h => h
  have HAo : Hid (∀ Z, Below wr.heap.size wr Z → ThO Z (some Ma) fa) := fun Z hZ => .inr ⟨Ma, rfl, HA7.out.below hZ HA7.out.lt⟩
  go_cut [10] from 33 to 37 (fun u wx => JCut (joinT fa (dropT fa t)) wr u wx)
  case rest =>
    rename World => w8
    obtain ⟨b8, Mk', rfl, hbk, hmk, hb8⟩ := hcut
    have HW8 := hideIt (belJ HB7.out hb8)
    have HK8 := hideIt hmk
    have HL8 := hideIt hbk
    have HV8 := hideIt (blkB HV6.out hb8 (Array.getElem?_eq_some_iff.1 HV6.out).1)
    have HU8 := hideIt (blkB HU7.out hb8 (Array.getElem?_eq_some_iff.1 HU7.out).1)
    have HJ8 := hideIt (blkB HJ7.out hb8 (Array.getElem?_eq_some_iff.1 HJ7.out).1)
    have HA8 := hideIt (HA7.out.below hb8 HA7.out.lt)
    have HBm8 := hideIt (HBm7.out.below hb8 HBm7.out.lt)
    have HMj8 := hideIt (HMj7.out.below hb8 HMj7.out.lt)
    clear hbk hmk hb8 HX HFa HFk HAo HV6 HU7 HJ7 HA7 HBm7 HMj7 HB7
    obtain ⟨d0, _⟩ := blk1 HJ8.out
    go_wp2_with fail
    refine (has_any _ (some Mj) t w8 (.inr ⟨Mj, rfl, HMj8.out⟩)).mono fun e w9 h9 => ?_
    obtain ⟨he, hb9⟩ := h9.yes HH1.out
    subst he
    have HW9 := hideIt (belJ HW8.out hb9)
    obtain ⟨d1, _⟩ := blk1 (blkB HV8.out hb9 (Array.getElem?_eq_some_iff.1 HV8.out).1)
    have HU9 := hideIt (blkB HU8.out hb9 (Array.getElem?_eq_some_iff.1 HU8.out).1)
    have HL9 := hideIt (blkB HL8.out hb9 (Array.getElem?_eq_some_iff.1 HL8.out).1)
    have HA9 := hideIt (HA8.out.below hb9 HA8.out.lt)
    have HBm9 := hideIt (HBm8.out.below hb9 HBm8.out.lt)
    have HK9 := hideIt (HK8.out.below hb9 HK8.out.lt)
    clear hb9 h9 d0
    go_wp2_with fail
    refine (has_any _ (some Mb) t w9 (.inr ⟨Mb, rfl, HBm9.out⟩)).mono fun e w10 h10 => ?_
    obtain ⟨he, hb10⟩ := h10.no (drop_has f t)
    subst he
    have HW10 := hideIt (belJ HW9.out hb10)
    obtain ⟨d2, _⟩ := blk1 (blkB HL9.out hb10 (Array.getElem?_eq_some_iff.1 HL9.out).1)
    have HU10 := hideIt (blkB HU9.out hb10 (Array.getElem?_eq_some_iff.1 HU9.out).1)
    have HA10 := hideIt (HA9.out.below hb10 HA9.out.lt)
    have HK10 := hideIt (HK9.out.below hb10 HK9.out.lt)
    clear hb10 h10 d1
    go_wp2_with fail
    refine (has_any _ (some Mk') t w10 (.inr ⟨Mk', rfl, HK10.out⟩)).mono fun e w11 h11 => ?_
    obtain ⟨he, hb11⟩ := h11.no (join_drop_has fa t)
    subst he
    have HW11 := hideIt (belJ HW10.out hb11)
    obtain ⟨d3, _⟩ := blk1 (blkB HU10.out hb11 (Array.getElem?_eq_some_iff.1 HU10.out).1)
    have HA11 := hideIt (HA10.out.below hb11 HA10.out.lt)
    clear hb11 h11 d2
    go_wp2_with fail
    refine (has_any _ (some Ma) t w11 (.inr ⟨Ma, rfl, HA11.out⟩)).mono fun e w12 h12 => ?_
    obtain ⟨he, hb12⟩ := h12.yes HH4.out
    subst he
    have HW12 := hideIt (belJ HW11.out hb12)
    clear hb12 h12
    go_wp2
    go_ret
    exact ⟨rfl, belJ HB1.out HW12.out⟩
  refine wp_region_held_drew (S := (fun Z => Below wr.heap.size wr Z)) (by kernel_rfl) (Below.refl _ _).drew (fun hHeld => ?_)
  refine wpAnyH_take (i := 0) (v := ?_) rfl (by kernel_rfl) (by kernel_rfl) (by kernel_rfl) (fun _ _ _ h => h) (Or.inl ⟨by rfl, ?_⟩) (by assumption) ?_
  rotate_left 1
  · intro wz sb
    obtain ⟨y0, _⟩ := HX.out wz sb
    go_simp
    all_goals with_reducible rfl
  simp only [Act.put, List.setIfInBounds_toArray, List.set_cons_zero, List.set_cons_succ, List.getElem_toArray, List.getElem_cons_zero]
  refine wpAnyH_take (i := 1) (v := ?_) rfl (by kernel_rfl) (by kernel_rfl) (by kernel_rfl) (fun _ _ _ h => h) (Or.inl ⟨by rfl, ?_⟩) (by assumption) ?_
  rotate_left 1
  · intro wz sb
    obtain ⟨y0, _⟩ := HX.out wz sb
    go_simp
    all_goals with_reducible rfl
  simp only [Act.put, List.setIfInBounds_toArray, List.set_cons_zero, List.set_cons_succ, List.getElem_toArray, List.getElem_cons_zero, List.getElem_cons_succ]
  refine wpAnyH_take (i := 2) (v := ?_) rfl (by kernel_rfl) (by kernel_rfl) (by kernel_rfl) (fun _ _ _ h => h) (Or.inl ⟨by rfl, ?_⟩) (by assumption) ?_
  rotate_left 1
  · intro wz sb
    obtain ⟨y0, _⟩ := HX.out wz sb
    go_simp
    all_goals with_reducible rfl
  simp only [Act.put, List.setIfInBounds_toArray, List.set_cons_zero, List.set_cons_succ, List.getElem_toArray, List.getElem_cons_zero, List.getElem_cons_succ]
  generalize wr.drew = Y at hHeld ⊢
  refine wpAnyH_ready (rs := [3, 5]) (by kernel_rfl) (by simp) (AllReadyH.cons rfl (fun K hK => ?_) (AllReadyH.cons rfl (fun K hK => ?_) AllReadyH.nil))
  · go_simp
    refine (drop_any fa HFa.out t (some Ma) Y (HAo.out Y hHeld)).mono fun e Y5 ⟨Md, he, hmd, hlod, hb5⟩ => ?_
    subst he
    refine hK.out _ _ (belJ hHeld hb5) (fun hHeld => ?_)
    clear hK K
    refine wpAnyH_ready (rs := [4, 5]) (by kernel_rfl) (by simp) (AllReadyH.cons rfl (fun K hK => ?_) (AllReadyH.cons rfl (fun K hK => ?_) AllReadyH.nil))
    · go_simp
      refine (join_any fa (dropT fa t) HFa.out HFk.out (some Ma) (some Md) Y5 (HAo.out Y5 hHeld) (.inr ⟨Md, rfl, hmd⟩)).mono fun e Y6 ⟨Mk, he, hmk, hlok, hb6⟩ => ?_
      subst he
      refine hK.out _ _ (belJ hHeld hb6) (fun hHeld => ?_)
      clear hK K
      refine wpAnyH_ready (rs := [5]) (by kernel_rfl) (by simp) (AllReadyH.cons rfl (fun K hK => ?_) AllReadyH.nil)
      go_simp
      have hSY7 := hHeld.size
      have hAY7 := heap_alloc_new Y6 (.cells #[.map none] 39)
      have hBY7 : Below Y6.heap.size Y6 (Y6.alloc (.cells #[.map none] 39)) := belA (Below.refl _ _) _
      have hZY7 : Y6.heap.size < (Y6.alloc (.cells #[.map none] 39)).heap.size := by simp
      refine hK.out _ _ (belJ hHeld hBY7) (fun hHeld => ?_)
      clear hK K
      generalize Y6.alloc (.cells #[.map none] 39) = Y7 at *
      refine wpAnyH_ready (rs := [6]) (by kernel_rfl) (by simp) (AllReadyH.cons rfl (fun K hK => ?_) AllReadyH.nil)
      obtain ⟨c9, f9⟩ := blk1 (hAY7)
      have HNb : Hid ((Y7.setCell ⟨Y6.heap.size, 0, none⟩ (.map (some Mk))).heap[Y6.heap.size]? = some (.cells #[.map (some Mk)] 39)) := heap_setCell_same Y7 Y6.heap.size 0 #[.map none] 39 (.map (some Mk)) (hAY7)
      have HNm : Hid (ThK (Y7.setCell ⟨Y6.heap.size, 0, none⟩ (.map (some Mk))) Mk (joinT fa (dropT fa t))) := (hmk.below hBY7 hmk.lt).notCells (hAY7)
      have hKp : Below wr.heap.size wr (Y7.setCell ⟨Y6.heap.size, 0, none⟩ (.map (some Mk))) := hHeld.setCell (by simp only; omega) _
      go_simp
      refine hK.out _ _ hKp (fun hHeld => ?_)
      clear hK K
      refine wpAnyH_done (by kernel_rfl) ?_ _
      go_wp2
      go_meet
      exact ⟨Y6.heap.size, Mk, rfl, HNb.out, HNm.out, hHeld⟩
    · go_simp
      have hSY7 := hHeld.size
      have hAY7 := heap_alloc_new Y5 (.cells #[.map none] 39)
      have hBY7 : Below Y5.heap.size Y5 (Y5.alloc (.cells #[.map none] 39)) := belA (Below.refl _ _) _
      have hZY7 : Y5.heap.size < (Y5.alloc (.cells #[.map none] 39)).heap.size := by simp
      refine hK.out _ _ (belJ hHeld hBY7) (fun hHeld => ?_)
      clear hK K
      generalize Y5.alloc (.cells #[.map none] 39) = Y7 at *
      refine wpAnyH_ready (rs := [4]) (by kernel_rfl) (by simp) (AllReadyH.cons rfl (fun K hK => ?_) AllReadyH.nil)
      go_simp
      refine (join_any fa (dropT fa t) HFa.out HFk.out (some Ma) (some Md) Y7 (HAo.out Y7 hHeld) (.inr ⟨Md, rfl, hmd.below hBY7 hmd.lt⟩)).mono fun e Y6 ⟨Mk, he, hmk, hlok, hb6⟩ => ?_
      subst he
      refine hK.out _ _ (belJ hHeld hb6) (fun hHeld => ?_)
      clear hK K
      refine wpAnyH_ready (rs := [6]) (by kernel_rfl) (by simp) (AllReadyH.cons rfl (fun K hK => ?_) AllReadyH.nil)
      obtain ⟨c9, f9⟩ := blk1 (blkB hAY7 hb6 (by omega))
      have HNb : Hid ((Y6.setCell ⟨Y5.heap.size, 0, none⟩ (.map (some Mk))).heap[Y5.heap.size]? = some (.cells #[.map (some Mk)] 39)) := heap_setCell_same Y6 Y5.heap.size 0 #[.map none] 39 (.map (some Mk)) (blkB hAY7 hb6 (by omega))
      have HNm : Hid (ThK (Y6.setCell ⟨Y5.heap.size, 0, none⟩ (.map (some Mk))) Mk (joinT fa (dropT fa t))) := (hmk).notCells (blkB hAY7 hb6 (by omega))
      have hKp : Below wr.heap.size wr (Y6.setCell ⟨Y5.heap.size, 0, none⟩ (.map (some Mk))) := hHeld.setCell (by simp only; omega) _
      go_simp
      refine hK.out _ _ hKp (fun hHeld => ?_)
      clear hK K
      refine wpAnyH_done (by kernel_rfl) ?_ _
      go_wp2
      go_meet
      exact ⟨Y5.heap.size, Mk, rfl, HNb.out, HNm.out, hHeld⟩
  · go_simp
    have hSY1 := hHeld.size
    have hAY1 := heap_alloc_new Y (.cells #[.map none] 39)
    have hBY1 : Below Y.heap.size Y (Y.alloc (.cells #[.map none] 39)) := belA (Below.refl _ _) _
    have hZY1 : Y.heap.size < (Y.alloc (.cells #[.map none] 39)).heap.size := by simp
    refine hK.out _ _ (belJ hHeld hBY1) (fun hHeld => ?_)
    clear hK K
    generalize Y.alloc (.cells #[.map none] 39) = Y1 at *
    refine wpAnyH_ready (rs := [3]) (by kernel_rfl) (by simp) (AllReadyH.cons rfl (fun K hK => ?_) AllReadyH.nil)
    go_simp
    refine (drop_any fa HFa.out t (some Ma) Y1 (HAo.out Y1 hHeld)).mono fun e Y5 ⟨Md, he, hmd, hlod, hb5⟩ => ?_
    subst he
    refine hK.out _ _ (belJ hHeld hb5) (fun hHeld => ?_)
    clear hK K
    refine wpAnyH_ready (rs := [4]) (by kernel_rfl) (by simp) (AllReadyH.cons rfl (fun K hK => ?_) AllReadyH.nil)
    go_simp
    refine (join_any fa (dropT fa t) HFa.out HFk.out (some Ma) (some Md) Y5 (HAo.out Y5 hHeld) (.inr ⟨Md, rfl, hmd⟩)).mono fun e Y6 ⟨Mk, he, hmk, hlok, hb6⟩ => ?_
    subst he
    refine hK.out _ _ (belJ hHeld hb6) (fun hHeld => ?_)
    clear hK K
    refine wpAnyH_ready (rs := [6]) (by kernel_rfl) (by simp) (AllReadyH.cons rfl (fun K hK => ?_) AllReadyH.nil)
    obtain ⟨c9, f9⟩ := blk1 (blkB (blkB hAY1 hb5 (by omega)) hb6 (by have := hb5.size; omega))
    have HNb : Hid ((Y6.setCell ⟨Y.heap.size, 0, none⟩ (.map (some Mk))).heap[Y.heap.size]? = some (.cells #[.map (some Mk)] 39)) := heap_setCell_same Y6 Y.heap.size 0 #[.map none] 39 (.map (some Mk)) (blkB (blkB hAY1 hb5 (by omega)) hb6 (by have := hb5.size; omega))
    have HNm : Hid (ThK (Y6.setCell ⟨Y.heap.size, 0, none⟩ (.map (some Mk))) Mk (joinT fa (dropT fa t))) := (hmk).notCells (blkB (blkB hAY1 hb5 (by omega)) hb6 (by have := hb5.size; omega))
    have hKp : Below wr.heap.size wr (Y6.setCell ⟨Y.heap.size, 0, none⟩ (.map (some Mk))) := hHeld.setCell (by simp only; omega) _
    go_simp
    refine hK.out _ _ hKp (fun hHeld => ?_)
    clear hK K
    refine wpAnyH_done (by kernel_rfl) ?_ _
    go_wp2
    go_meet
    exact ⟨Y.heap.size, Mk, rfl, HNb.out, HNm.out, hHeld⟩
end Go.Proofs.Ythphoiadhddggaa
