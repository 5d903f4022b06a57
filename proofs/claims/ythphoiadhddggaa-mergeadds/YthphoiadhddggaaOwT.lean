/-
  The statements' own 'own' (a set of numbers, put in at one place), walked.
-/
import Derived.Test.YthphoiadhddggaaGrT
import Derived.Test.YthphoiadhddggaaCtY
namespace Go.Proofs.Ythphoiadhddggaa
open Go.RowKit

/-- A store into a block of cells turns no map. -/
theorem MapO.cellsB {P : Program} {kt : TypeId} {β : Type} {mk : β → Value} {w : World} {p : Option Nat} {f : Int → Int → Option β} (h : MapO P kt mk w p f) {b i : Nat} {cs : Array Value} {t : TypeId} {v : Value} (hb : w.heap[b]? = some (.cells cs t)) : MapO P kt mk (w.setCell ⟨b, i, none⟩ v) p f := by
  rcases h with h | ⟨M, h1, h2⟩
  · exact .inl h
  · refine .inr ⟨M, h1, h2.block (Below.heap_setCell _ _ _ _ ?_)⟩
    intro e
    simp only at e
    obtain ⟨n, D, ⟨es, clock, h4, _⟩, _⟩ := h2
    rw [e, hb] at h4
    cases h4
/-- All tags are of one place. -/
def On (p : Int) (f : Th) : Prop := ∀ a b m, f a b = some m → a = p
/-- What own tells. -/
def OwnTold (p : Int) (w : World) (e : Ending) (w' : World) : Prop := ∃ (q : Option Nat) (f : Th), e = .returned (.agg #[.map q]) ∧ ThO w' q f ∧ Grid 20 f ∧ On p f ∧ Below w.heap.size w w'

set_option maxRecDepth 100000 in
set_option maxHeartbeats 4000000 in
theorem own_any (l : List Int) (a : Option Addr) (cap : Nat) (p : Int) (hp : 0 ≤ p ∧ p < 7) (w : World) (hl : IntsQ w a l) :
    Calls Try.prog 14 #[.slice a l.length cap, .int .i64 p] w fun e w' => OwnTold p w e w' := by
  have HL := hideIt hl
  have HP := hideIt hp
  clear hl hp
  go_enter Try.func14, Try.ntmps14
  go_wp2
  have HB0 : Hid (Below w.heap.size w ((w.alloc (.cells #[.map none] 39)).alloc (.cells #[.map none] 39))) := belA (belA (Below.refl _ _) _) _
  have HC1 : Hid (((w.alloc (.cells #[.map none] 39)).alloc (.cells #[.map none] 39)).heap[w.heap.size]? = some (.cells #[.map none] 39)) := blkA (heap_alloc_new w _)
  have HC2 : Hid (((w.alloc (.cells #[.map none] 39)).alloc (.cells #[.map none] 39)).heap[w.heap.size + 1]? = some (.cells #[.map none] 39)) := by
    have := heap_alloc_new (w.alloc (.cells #[.map none] 39)) (.cells #[.map none] 39)
    simp only [World.size_alloc] at this
    exact this
  generalize (w.alloc _).alloc _ = W at HB0 HC1 HC2 ⊢
  go_loopw [6] (fun v wr => ∃ (k : Nat) (q : Option Nat) (f : Th), k ≤ 20 ∧ v = .int .i64 k ∧ ThO wr q f ∧ Grid k f ∧ On p f ∧ wr.heap[w.heap.size]? = some (.cells #[.map none] 39) ∧ wr.heap[w.heap.size + 1]? = some (.cells #[.map q] 39) ∧ Below w.heap.size w wr) (fun v _ => 20 - (intOf v).toNat)
  case atStart => exact ⟨0, none, fun _ _ => none, by omega, rfl, .inl ⟨rfl, rfl⟩, grid_none, fun _ _ _ h => (by cases h), HC1.out, HC2.out, HB0.out⟩
  case round =>
    clear HB0 HC1 HC2
    obtain ⟨k, q, f, hk, rfl, hq, hg, ho, hc1, hc2, hbe⟩ := hrel
    have HQ := hideIt hq
    have HG := hideIt hg
    have HO := hideIt ho
    have HC1 := hideIt hc1
    have HC2 := hideIt hc2
    have HB := hideIt hbe
    clear hq hg ho hc1 hc2 hbe
    by_cases hkn : k < l.length
    · have hkn' : (k : Int) < l.length := by omega
      by_cases hk20 : k < 20
      · have hk20' : (k : Int) < 20 := by omega
        obtain ⟨g, off, rfl, hgl, hcl⟩ := (HL.out.below HB.out).at hkn
        generalize l[k] = x at hcl
        have qn : ∀ W : World, (binOp .eql 43 .nilIface .nilIface).run Try.prog W = .ok (.bool true) W := fun W => by rfl
        have h1l := (Array.getElem?_eq_some_iff.1 HC1.out).1
        have h2l := (Array.getElem?_eq_some_iff.1 HC2.out).1
        go_wp2_with fail
        refine (pick_any _ 6 wr (by omega) (by omega)).mono fun e w1 ⟨t, ht, he, hw⟩ => ?_
        subst he w1
        go_wp2_with fail
        refine (pick_any _ 4 wr (by omega) (by omega)).mono fun e w1 ⟨s, hs, he, hw⟩ => ?_
        subst he w1
        obtain ⟨c2, f2⟩ := blk1 HC2.out
        by_cases hs0 : s = 0
        · subst hs0
          go_wp2_with fail
          refine (drop_any f (HG.out.few (by omega)) t q wr HQ.out).mono fun e w2 ⟨M, he, hm, hlo, hb2⟩ => ?_
          subst he
          obtain ⟨d2, g2⟩ := blk1 (blkB HC2.out hb2 h2l)
          have HD1 : Hid ((w2.setCell ⟨w.heap.size + 1, 0, none⟩ (.map (some M))).heap[w.heap.size]? = some (.cells #[.map none] 39)) := (Below.heap_setCell _ _ _ _ (by simp)).trans (blkB HC1.out hb2 h1l)
          have HD2 : Hid ((w2.setCell ⟨w.heap.size + 1, 0, none⟩ (.map (some M))).heap[w.heap.size + 1]? = some (.cells #[.map (some M)] 39)) := heap_setCell_same w2 (w.heap.size + 1) 0 #[.map q] 39 (.map (some M)) (blkB HC2.out hb2 h2l)
          have HDb : Hid (Below w.heap.size w (w2.setCell ⟨w.heap.size + 1, 0, none⟩ (.map (some M)))) := (belJ HB.out hb2).setCell (by simp) _
          have HDm : Hid (ThO (w2.setCell ⟨w.heap.size + 1, 0, none⟩ (.map (some M))) (some M) (dropT f t)) := .inr ⟨M, rfl, hm.block (Below.heap_setCell _ _ _ _ (by simp; omega))⟩
          clear hm hlo hb2
          go_wp2
          go_roundw
          case rel => exact ⟨k + 1, some M, dropT f t, by omega, by go_num, HDm.out, (HG.out.drop t).mono (by omega), fun a b m h => (by obtain ⟨m', h'⟩ := drop_of h; exact HO.out a b m' h'), HD1.out, HD2.out, HDb.out⟩
          case measure => simp [intOf]; omega
        · have hs0' : ((s : Int) == 0) = false := by simp; omega
          go_wp2_with fail
          refine (put_any f (HG.out.few (by omega)) p t q HP.out (by omega) (HG.out.bnd (by omega) p) wr HQ.out).mono fun e w2 ⟨M, m, hmx, he, hm, hlo, hb2⟩ => ?_
          subst he
          have HE1 := hideIt (blkA (o := .cells #[.map (some M)] 39) (blkB HC1.out hb2 h1l))
          have HE2 := hideIt (blkA (o := .cells #[.map (some M)] 39) (blkB HC2.out hb2 h2l))
          obtain ⟨d2, g2⟩ := blk1 HE2.out
          have hz2 := hb2.size
          have HD1 : Hid (((w2.alloc (.cells #[.map (some M)] 39)).setCell ⟨w.heap.size + 1, 0, none⟩ (.map (some M))).heap[w.heap.size]? = some (.cells #[.map none] 39)) := (Below.heap_setCell _ _ _ _ (by simp)).trans HE1.out
          have HD2 : Hid (((w2.alloc (.cells #[.map (some M)] 39)).setCell ⟨w.heap.size + 1, 0, none⟩ (.map (some M))).heap[w.heap.size + 1]? = some (.cells #[.map (some M)] 39)) := heap_setCell_same _ (w.heap.size + 1) 0 #[.map q] 39 (.map (some M)) HE2.out
          have HDb : Hid (Below w.heap.size w ((w2.alloc (.cells #[.map (some M)] 39)).setCell ⟨w.heap.size + 1, 0, none⟩ (.map (some M)))) := (belA (belJ HB.out hb2) _).setCell (by simp) _
          have HDm : Hid (ThO ((w2.alloc (.cells #[.map (some M)] 39)).setCell ⟨w.heap.size + 1, 0, none⟩ (.map (some M))) (some M) (putK2 f p (m + 1) ⟨t, false⟩)) := .inr ⟨M, rfl, (hm.alloc _).block (Below.heap_setCell _ _ _ _ (by simp; omega))⟩
          have HMx := hideIt hmx
          clear hm hlo hb2 hmx
          go_wp2
          go_roundw
          case rel => exact ⟨k + 1, some M, _, by omega, by go_num, HDm.out, HG.out.put HP.out HMx.out _, fun a b y h => (by
            by_cases e : a = p ∧ b = m + 1
            · exact e.1
            · rw [putK2_other _ _ _ _ _ _ e] at h; exact HO.out a b y h), HD1.out, HD2.out, HDb.out⟩
          case measure => simp [intOf]; omega
      · have hk20' : ¬ (k : Int) < 20 := by omega
        obtain ⟨c1, f1⟩ := blk1 HC1.out
        obtain ⟨c2, f2⟩ := blk1 HC2.out
        have HDm : Hid (ThO (wr.setCell ⟨w.heap.size, 0, none⟩ (.map q)) q f) := HQ.out.cellsB HC1.out
        go_wp2
        exact bodyPost_ret (results_one rfl _ _ _ _ rfl (loadT (World.cell?_setCell_same _ _ _ c1))) rfl ⟨q, f, rfl, HDm.out, HG.out.mono (by omega), HO.out, HB.out.setCell (by simp) _⟩
    · have hkn' : ¬ (k : Int) < l.length := by omega
      obtain ⟨c1, f1⟩ := blk1 HC1.out
      obtain ⟨c2, f2⟩ := blk1 HC2.out
      have HDm : Hid (ThO (wr.setCell ⟨w.heap.size, 0, none⟩ (.map q)) q f) := HQ.out.cellsB HC1.out
      go_wp2
      exact bodyPost_ret (results_one rfl _ _ _ _ rfl (loadT (World.cell?_setCell_same _ _ _ c1))) rfl ⟨q, f, rfl, HDm.out, HG.out.mono (by omega), HO.out, HB.out.setCell (by simp) _⟩
end Go.Proofs.Ythphoiadhddggaa
