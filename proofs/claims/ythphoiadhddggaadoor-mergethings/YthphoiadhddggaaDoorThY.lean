/-
  Chapter 15.2, walked: Join.
-/
import Derived.Test.YthphoiadhddggaaDoorThX
namespace Go.Proofs.YthphoiadhddggaaDoor
open Go.RowKit

set_option maxRecDepth 100000 in
set_option maxHeartbeats 4000000 in
theorem join_any (f g : Th) (hF : Few 10000 f) (hJ : Few 10000 (joinT f g)) (p q : Option Nat) (w : World) (hf : ThO w p f) (hg : ThO w q g) :
    Calls Tryd.prog 13 #[.agg #[.map p], .agg #[.map q]] w fun e w' => ThTold (joinT f g) w e w' := by
  have HS := hideIt hf
  have HT := hideIt hg
  have HF := hideIt hF
  have HJ := hideIt hJ
  have HM := hideIt hf.lt
  have HQ := hideIt hg.lt
  have HB := hideIt (belA (belA (belA (Below.refl _ w) (.cells #[.map p] 38)) (.cells #[.map q] 38)) (.cells #[.map none] 38))
  clear hf hg hF hJ
  go_enter Tryd.func13, Tryd.ntmps13
  go_wp2_with fail
  refine (copied_any f HF.out p _ (HS.out.bel HB.out)).mono fun e w1 ⟨M, he, hm, hlo, hbe⟩ => ?_
  subst he
  simp only [World.size_alloc] at hlo hbe
  have HB1 := hideIt (HB.out.trans (hbe.mono (by omega)))
  have HBp : Hid (w1.heap[w.heap.size]? = some (.cells #[.map p] 38)) := blkB (blkA (blkA (heap_alloc_new w (.cells #[.map p] 38)))) hbe (by omega)
  have HBq : Hid (w1.heap[w.heap.size + 1]? = some (.cells #[.map q] 38)) := blkB (blkA (by simpa using heap_alloc_new (w.alloc (.cells #[.map p] 38)) (.cells #[.map q] 38))) hbe (by omega)
  have HBx : Hid (w1.heap[w.heap.size + 2]? = some (.cells #[.map none] 38)) := blkB (by simpa using heap_alloc_new ((w.alloc (.cells #[.map p] 38)).alloc (.cells #[.map q] 38)) (.cells #[.map none] 38)) hbe (by omega)
  have HK := hideIt hm
  have hMl := hm.lt
  have HS1 := hideIt (HS.out.bel HB1.out)
  have HT1 := hideIt (HT.out.bel HB1.out)
  obtain ⟨c0, f0⟩ := blk1 (blkA (o := .cells #[.map (some M)] 38) HBq.out)
  clear hm hbe HS HT
  go_wp2_with (at_range; refine wpList_range_k _ pairK rfl _ _ rfl _ Tryd.underlying36 q g rfl (HT1.out.bel (belA (Below.refl _ w1) _)) ?_; intro w2 hr2 hg2 hs2)
  simp only [World.size_alloc] at hr2 hs2 ⊢
  have HB2 : Hid (Below w1.heap.size w1 w2) := (belA (Below.refl _ w1) (.cells #[.map (some M)] 38)).grown hg2 (by simp only [World.size_alloc]; omega) (fun k hk => by cases hk)
  have HC2 : Hid (w2.heap[w1.heap.size]? = some (.cells #[.map (some M)] 38)) := (hg2.block w1.heap.size (by simp only [World.size_alloc]; omega) (by simp)).trans (heap_alloc_new w1 _)
  have HR2 := hideIt hr2
  have HN2 : Hid (w1.heap.size + 1 < w2.heap.size) := by show _ < _; omega
  clear hr2 hg2 hs2 c0 f0
  go_frame
  go_loopw [] (fun wr => ∃ (left : Int → Int → Bool) (h : Th), RangeO Tryd.prog 63 mkM wr q (w1.heap.size + 1) g left ∧ ThK wr M h ∧ (∀ a b, h a b = if left a b then f a b else joinT f g a b) ∧ wr.heap[w1.heap.size]? = some (.cells #[.map (some M)] 38) ∧ wr.heap[w.heap.size]? = some (.cells #[.map p] 38) ∧ wr.heap[w.heap.size + 2]? = some (.cells #[.map none] 38) ∧ Below w.heap.size w wr ∧ ThO wr p f ∧ w1.heap.size + 1 < wr.heap.size) (fun wr => leftO wr q (w1.heap.size + 1))
  case atStart =>
    refine ⟨_, f, HR2.out, HK.out.below HB2.out hMl, fun a b => ?_, HC2.out, blkB HBp.out HB2.out (by omega), blkB HBx.out HB2.out (by omega), belJ HB1.out HB2.out, HS1.out.bel HB2.out, HN2.out⟩
    cases h : g a b <;> simp [joinT, h]
  case round =>
    clear HR2 HK HC2 HB1 HB2 HN2 HBx HBp HBq HS1 HT1
    obtain ⟨left, h, hrg, hk, hg, hc2, hcp, hcx, hbe, hsp, hsz⟩ := hrel
    have HK := hideIt hk
    have HG := hideIt hg
    have HC2 := hideIt hc2
    have HCp := hideIt hcp
    have HCx := hideIt hcx
    have HB := hideIt hbe
    have HSp := hideIt hsp
    clear hk hg hc2 hcp hcx hbe hsp
    go_wp2_with (at_next; refine wpList_next_k _ pairK rfl _ rfl q (w1.heap.size + 1) g left rfl hrg ?_ ?_)
    · intro hleft
      have R : Hid (ThK wr M (joinT f g)) := by
        have : h = joinT f g := funext fun a => funext fun b => by rw [HG.out a b, hleft a b]; rfl
        rw [← this]; exact HK.out
      obtain ⟨c1, f1⟩ := blk1 HC2.out
      obtain ⟨c2, f2⟩ := blk1 HCx.out
      clear hleft hrg
      go_wp2
      refine bodyPost_ret (results_one rfl _ _ _ _ rfl (loadT (World.cell?_setCell_same _ _ _ c2))) rfl ?_
      exact ⟨_, rfl, R.out.block (Below.heap_setCell _ _ _ _ (by simp; omega)), by omega, HB.out.setCell (by simp; omega) _⟩
    · intro x y v w3 hwf hfx hlx hrg3 hlt3 hg3 hs3 hen
      obtain ⟨v1, v2⟩ := v
      unfold pairV at hen
      have HB3 : Hid (Below w.heap.size w w3) := HB.out.grown hg3 HB.out.size (fun k hk => by cases hk; omega)
      have hsz3 : w1.heap.size + 1 < w3.heap.size := by omega
      have HK3 := hideIt (HK.out.kept hg3 (fun e => by have := Option.some.inj e; omega))
      have HC3 := hideIt ((hg3.block w1.heap.size (by omega) (fun e => by have := Option.some.inj e; omega)).trans HC2.out)
      have HP3 := hideIt ((hg3.block w.heap.size (by omega) (fun e => by have := Option.some.inj e; omega)).trans HCp.out)
      have HX3 := hideIt ((hg3.block (w.heap.size + 2) (by omega) (fun e => by have := Option.some.inj e; omega)).trans HCx.out)
      have HS3 := hideIt (HSp.out.kept hg3 (fun N hN e => by have := HM.out N hN; have := Option.some.inj e; omega))
      have HR3 := hideIt hrg3
      have HLt := hideIt hlt3
      have HFx := hideIt hfx
      have HOut : Hid (∀ a b, (if (left a b && (!decide (a = x) || !decide (b = y))) = true then f a b else joinT f g a b) = if a = x ∧ b = y then joinT f g a b else h a b) := fun a b => by
        by_cases e : a = x ∧ b = y
        · obtain ⟨rfl, rfl⟩ := e
          simp
        · rw [if_neg e, HG.out a b]
          have : (!decide (a = x) || !decide (b = y)) = true := by by_cases ha : a = x <;> by_cases hb : b = y <;> simp [ha, hb]; exact e ⟨ha, hb⟩
          rw [this, Bool.and_true]
      have HFew : Hid (Few 100000 h) := HJ.out.mono (by omega) fun a b hs => by
        rw [HG.out a b] at hs
        rw [joinT_some]
        split at hs
        · rw [hs]; rfl
        · rw [joinT_some] at hs; exact hs
      -- one round, with the mark that is stored
      have HEnd : Hid (∀ (gn : Bool) (w5 : World), gn = (v2 || goneT (f x y)) → ThK w5 M (putK2 h x y ⟨v1, gn⟩) → ((w3.alloc (.cells #[.int .i64 x, .int .i64 y] 63)).alloc (.cells #[.int .i64 v1, .bool gn] 61)).grownBy w5 (some M) → w5.heap.size = w3.heap.size + 1 + 1 →
          (∃ (left : Int → Int → Bool) (h : Th), RangeO Tryd.prog 63 mkM w5 q (w1.heap.size + 1) g left ∧ ThK w5 M h ∧ (∀ a b, h a b = if left a b then f a b else joinT f g a b) ∧ w5.heap[w1.heap.size]? = some (.cells #[.map (some M)] 38) ∧ w5.heap[w.heap.size]? = some (.cells #[.map p] 38) ∧ w5.heap[w.heap.size + 2]? = some (.cells #[.map none] 38) ∧ Below w.heap.size w w5 ∧ ThO w5 p f ∧ w1.heap.size + 1 < w5.heap.size) ∧ leftO w5 q (w1.heap.size + 1) < leftO wr q (w1.heap.size + 1)) := fun gn w5 hgn hm5 hg5 hs5 => by
        have hA : w3.grownBy ((w3.alloc (.cells #[.int .i64 x, .int .i64 y] 63)).alloc (.cells #[.int .i64 v1, .bool gn] 61)) none := (World.grownBy_alloc w3 _ none).andThen (World.grownBy_alloc _ _ none) (fun j hj => by cases hj)
        have hA5 : w3.grownBy w5 (some M) := (hA.but _).andThen hg5 (fun j hj => .inr hj)
        have hr5 := HR3.out.kept hA5 (fun N hN e => by have := HQ.out N hN; have := Option.some.inj e; omega) (fun e => by have := Option.some.inj e; omega)
        refine ⟨⟨_, _, hr5.1, hm5, fun a b => ?_, (hA5.block _ (by omega) (fun e => by have := Option.some.inj e; omega)).trans HC3.out, (hA5.block _ (by omega) (fun e => by have := Option.some.inj e; omega)).trans HP3.out, (hA5.block _ (by omega) (fun e => by have := Option.some.inj e; omega)).trans HX3.out, HB3.out.grown hA5 HB3.out.size (fun k hk => by cases hk; omega), HS3.out.kept hA5 (fun N hN e => by have := HM.out N hN; have := Option.some.inj e; omega), by omega⟩, by rw [hr5.2]; exact HLt.out⟩
        have := HOut.out a b
        simp only [Bool.and_eq_true, Bool.or_eq_true, Bool.not_eq_true', decide_eq_false_iff_not] at this ⊢
        rw [this]
        by_cases e : a = x ∧ b = y
        · obtain ⟨rfl, rfl⟩ := e
          rw [putK2_same, if_pos ⟨rfl, rfl⟩]
          simp [joinT, HFx.out, hgn]
        · rw [putK2_other _ _ _ _ _ _ e, if_neg e]
      clear hrg hg3 hs3 hfx hrg3 hlt3
      cases v2 with
      | true =>
        have HK4 : Hid (ThK ((w3.alloc (.cells #[.int .i64 x, .int .i64 y] 63)).alloc (.cells #[.int .i64 v1, .bool true] 61)) M h) := (HK3.out.alloc _).alloc _
        obtain ⟨c1, f1⟩ := blk1 (blkA (o := .cells #[.int .i64 v1, .bool true] 61) (blkA (o := .cells #[.int .i64 x, .int .i64 y] 63) HC3.out))
        go_wp2_with (at_mapUpdate; refine wpList_store_k _ pairK rfl _ _ _ _ rfl _ Tryd.underlying36 M h rfl HK4.out HFew.out x y rfl hwf ⟨v1, true⟩ rfl ?_; intro w5 hm5 hg5 hs5; go_frame)
        have HE := HEnd.out true w5 rfl hm5 hg5 (by simpa using hs5)
        go_roundw
        case rel => exact HE.1
        case measure => exact HE.2
      | false =>
        obtain ⟨gn, hgn⟩ : ∃ gn, goneT (f x y) = gn := ⟨_, rfl⟩
        have hlk : ∃ z : Int, (Instr.lookup 36 (.map p) (.agg #[.int .i64 x, .int .i64 y]) false).run Tryd.prog ((w3.alloc (.cells #[.int .i64 x, .int .i64 y] 63)).alloc (.cells #[.int .i64 v1, .bool false] 61)) = .ok (.agg #[.int .i64 z, .bool gn]) ((w3.alloc (.cells #[.int .i64 x, .int .i64 y] 63)).alloc (.cells #[.int .i64 v1, .bool false] 61)) := by
          have := (HS3.out.bel (belA (belA (Below.refl _ w3) (.cells #[.int .i64 x, .int .i64 y] 63)) (.cells #[.int .i64 v1, .bool false] 61))).look pairK Tryd.underlying36 (zeroM _) hwf
          unfold pairV at this
          cases e : f x y with
          | none => rw [e] at this hgn; subst hgn; exact ⟨0, this⟩
          | some m => obtain ⟨m1, m2⟩ := m; rw [e] at this hgn; subst hgn; exact ⟨m1, this⟩
        obtain ⟨z, hlk⟩ := hlk
        have hfd : ∀ W, (Instr.field 61 (.agg #[.int .i64 z, .bool gn]) 1).run Tryd.prog W = .ok (.bool gn) W := fun W => by kernel_rfl
        have HGn := hideIt hgn
        clear hgn
        have HK4 : Hid (ThK ((w3.alloc (.cells #[.int .i64 x, .int .i64 y] 63)).alloc (.cells #[.int .i64 v1, .bool gn] 61)) M h) := (HK3.out.alloc _).alloc _
        obtain ⟨c1, f1⟩ := blk1 (blkA (o := .cells #[.int .i64 v1, .bool gn] 61) (blkA (o := .cells #[.int .i64 x, .int .i64 y] 63) HC3.out))
        obtain ⟨c2, f2⟩ := blk1 (blkA (o := .cells #[.int .i64 v1, .bool false] 61) (blkA (o := .cells #[.int .i64 x, .int .i64 y] 63) HP3.out))
        go_wp2_with (at_mapUpdate; refine wpList_store_k _ pairK rfl _ _ _ _ rfl _ Tryd.underlying36 M h rfl HK4.out HFew.out x y rfl hwf ⟨v1, gn⟩ rfl ?_; intro w5 hm5 hg5 hs5; go_frame)
        have HE := HEnd.out gn w5 (by rw [HGn.out]; rfl) hm5 hg5 (by simpa using hs5)
        go_roundw
        case rel => exact HE.1
        case measure => exact HE.2
end Go.Proofs.YthphoiadhddggaaDoor
