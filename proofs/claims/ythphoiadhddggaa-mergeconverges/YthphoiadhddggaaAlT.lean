/-
  merge.All at Things, walked.
-/
import Derived.Test.YthphoiadhddggaaThY
import Derived.Test.YthphoiadhddggaaThZ
namespace Go.Proofs.Ythphoiadhddggaa
open Go.RowKit

/-- All tags lie in a list. -/
def Supp (L : List (Int × Int)) (f : Th) : Prop := ∀ a b, (f a b).isSome = true → (a, b) ∈ L
theorem Supp.join {L : List (Int × Int)} {f g : Th} (h : Supp L f) (h' : Supp L g) : Supp L (joinT f g) := fun a b hs => by
  rw [joinT_some, Bool.or_eq_true] at hs
  rcases hs with hs | hs
  · exact h a b hs
  · exact h' a b hs
theorem Supp.few {L : List (Int × Int)} {f : Th} (h : Supp L f) (hL : L.length ≤ 10000) : Few 10000 f := ⟨L, hL, h⟩
/-- A value that is Things which know f. -/
def RepT (L : List (Int × Int)) (f : Th) (v : Value) (w : World) : Prop := Supp L f ∧ ∃ p, v = .agg #[.map p] ∧ ThO w p f
/-- A slice of them. -/
def RepTS (L : List (Int × Int)) (xs : List Th) (v : Value) (w : World) : Prop :=
  ∃ b, v = .slice (some ⟨b, 0, none⟩) xs.length xs.length ∧ xs.length ≤ 1000 ∧ b < w.heap.size ∧ ∀ i (h : i < xs.length), Supp L xs[i] ∧ ∃ p, w.cell? ⟨b, i, none⟩ = some (.map p) ∧ ThO w p xs[i]
theorem RepT.bel {L : List (Int × Int)} {f : Th} {v : Value} {w w' : World} (h : RepT L f v w) (hb : Below w.heap.size w w') : RepT L f v w' := by
  obtain ⟨h1, p, h2, h3⟩ := h
  exact ⟨h1, p, h2, h3.bel hb⟩
theorem RepTS.bel {L : List (Int × Int)} {xs : List Th} {v : Value} {w w' : World} (h : RepTS L xs v w) (hb : Below w.heap.size w w') : RepTS L xs v w' := by
  obtain ⟨b, h1, h2, h3, h4⟩ := h
  refine ⟨b, h1, h2, Nat.lt_of_lt_of_le h3 hb.size, fun i hi => ?_⟩
  obtain ⟨h5, p, h6, h7⟩ := h4 i hi
  exact ⟨h5, p, (hb.cell (p := ⟨b, i, none⟩) h3).trans h6, h7.bel hb⟩

set_option maxRecDepth 100000 in
set_option maxHeartbeats 4000000 in
theorem allT_any (L : List (Int × Int)) (hL : L.length ≤ 10000) (f : Th) (xs : List Th) (u s : Value) (w : World) (hu : RepT L f u w) (hs : RepTS L xs s w) :
    Calls Try.prog 33 #[u, s] w fun e w' => ∃ r, e = .returned r ∧ RepT L (xs.foldl joinT f) r w' ∧ Below w.heap.size w w' := by
  have HS := hideIt hs
  obtain ⟨hF, p, rfl, hp⟩ := hu
  obtain ⟨b, rfl, hn, hb, hx⟩ := hs
  have HP := hideIt hp
  have HF := hideIt hF
  clear hp hx hF
  have hmJ : ∀ (v : Value) (w : World), (method (Try.prog.types.size + 100) 39 v "Join").run Try.prog w = .ok (20, v) w := fun _ _ => by kernel_rfl
  go_enter Try.func33, Try.ntmps33
  go_wp2
  have HB0 : Hid (Below w.heap.size w (((w.alloc (.cells #[.map p] 39)).alloc (.cells #[.map none] 39)).alloc (.cells #[.map p] 39))) := belA (belA (belA (Below.refl _ _) _) _) _
  have HC1 : Hid ((((w.alloc (.cells #[.map p] 39)).alloc (.cells #[.map none] 39)).alloc (.cells #[.map p] 39)).heap[w.heap.size + 1]? = some (.cells #[.map none] 39)) := blkA (by simpa using heap_alloc_new (w.alloc (.cells #[.map p] 39)) (.cells #[.map none] 39))
  have HC2 : Hid ((((w.alloc (.cells #[.map p] 39)).alloc (.cells #[.map none] 39)).alloc (.cells #[.map p] 39)).heap[w.heap.size + 1 + 1]? = some (.cells #[.map p] 39)) := by
    have := heap_alloc_new ((w.alloc (.cells #[.map p] 39)).alloc (.cells #[.map none] 39)) (.cells #[.map p] 39)
    simp only [World.size_alloc] at this
    exact this
  generalize ((w.alloc _).alloc _).alloc _ = W at HB0 HC1 HC2 ⊢
  go_loopw [11] (fun v wr => ∃ (k : Nat) (q : Option Nat), k ≤ xs.length ∧ v = .int .i64 k ∧ ThO wr q ((xs.take k).foldl joinT f) ∧ Supp L ((xs.take k).foldl joinT f) ∧ wr.heap[w.heap.size + 1]? = some (.cells #[.map none] 39) ∧ wr.heap[w.heap.size + 1 + 1]? = some (.cells #[.map q] 39) ∧ Below w.heap.size w wr) (fun v _ => xs.length - (intOf v).toNat)
  case atStart => exact ⟨0, p, Nat.zero_le _, rfl, HP.out.bel HB0.out, HF.out, HC1.out, HC2.out, HB0.out⟩
  case round =>
    clear HB0 HC1 HC2 HP HF
    obtain ⟨k, q, hk, rfl, hq, hsu, hc1, hc2, hbe⟩ := hrel
    have HQ := hideIt hq
    have HSu := hideIt hsu
    have HC1 := hideIt hc1
    have HC2 := hideIt hc2
    have HB := hideIt hbe
    clear hq hsu hc1 hc2 hbe
    by_cases hkn : k < xs.length
    · have hkn' : (k : Int) < xs.length := by omega
      obtain ⟨b', hb', hn', hbl, hel⟩ := HS.out.bel HB.out
      injection hb' with hb1
      injection hb1 with hb1
      injection hb1 with hb1
      subst hb1
      obtain ⟨hse, pe, ce, he⟩ := hel k hkn
      have HE := hideIt he
      have HSe := hideIt hse
      have HTk : Hid ((xs.take (k + 1)).foldl joinT f = joinT ((xs.take k).foldl joinT f) xs[k]) := by
        show _ = _
        rw [List.take_succ_eq_append_getElem hkn, List.foldl_append]; rfl
      clear he hse hel
      generalize xs[k] = g at *
      generalize (xs.take k).foldl joinT f = F at *
      obtain ⟨c2, f2⟩ := blk1 (blkA (o := .cells #[.map pe] 39) HC2.out)
      have HJ : Hid (Few 10000 (joinT F g)) := (HSu.out.join HSe.out).few hL
      have HBa := hideIt (belA (Below.refl _ wr) (.cells #[.map pe] 39))
      go_wp2_with fail
      refine (join_any F g (HSu.out.few hL) HJ.out q pe _ (HQ.out.bel HBa.out) (HE.out.bel HBa.out)).mono fun e w2 ⟨M, he, hm, hlo, hb2⟩ => ?_
      subst he
      simp only [World.size_alloc] at hlo hb2
      have h1l := (Array.getElem?_eq_some_iff.1 HC1.out).1
      have h2l := (Array.getElem?_eq_some_iff.1 HC2.out).1
      obtain ⟨d2, g2⟩ := blk1 (blkB (blkA (o := .cells #[.map pe] 39) HC2.out) hb2 (by omega))
      have HD1 : Hid ((w2.setCell ⟨w.heap.size + 1 + 1, 0, none⟩ (.map (some M))).heap[w.heap.size + 1]? = some (.cells #[.map none] 39)) := (Below.heap_setCell _ _ _ _ (by simp)).trans (blkB (blkA (o := .cells #[.map pe] 39) HC1.out) hb2 (by omega))
      have HD2 : Hid ((w2.setCell ⟨w.heap.size + 1 + 1, 0, none⟩ (.map (some M))).heap[w.heap.size + 1 + 1]? = some (.cells #[.map (some M)] 39)) := by
        have := heap_setCell_same w2 (w.heap.size + 1 + 1) 0 #[.map q] 39 (.map (some M)) (blkB (blkA (o := .cells #[.map pe] 39) HC2.out) hb2 (by omega))
        exact this
      have HDb : Hid (Below w.heap.size w (w2.setCell ⟨w.heap.size + 1 + 1, 0, none⟩ (.map (some M)))) := ((belA HB.out _).trans (hb2.mono (by have := HB.out.size; omega))).setCell (by simp; omega) _
      have HDm : Hid (ThO (w2.setCell ⟨w.heap.size + 1 + 1, 0, none⟩ (.map (some M))) (some M) (joinT F g)) := .inr ⟨M, rfl, hm.block (Below.heap_setCell _ _ _ _ (by simp; omega))⟩
      clear hm hlo hb2
      go_wp2
      go_roundw
      case rel => exact ⟨k + 1, some M, by omega, by go_num, by rw [HTk.out]; exact HDm.out, by rw [HTk.out]; exact HSu.out.join HSe.out, HD1.out, HD2.out, HDb.out⟩
      case measure => simp [intOf]; omega
    · have hkn' : ¬ (k : Int) < xs.length := by omega
      have HE : Hid ((xs.take k).foldl joinT f = xs.foldl joinT f) := by show _ = _; rw [List.take_of_length_le (by omega)]
      obtain ⟨c1, f1⟩ := blk1 HC1.out
      obtain ⟨c2, f2⟩ := blk1 HC2.out
      have R : Hid (RepT L (xs.foldl joinT f) (.agg #[.map q]) (wr.setCell ⟨w.heap.size + 1, 0, none⟩ (.map q))) := by
        rw [HE.out] at HQ HSu
        refine ⟨HSu.out, q, rfl, ?_⟩
        rcases HQ.out with h | ⟨M, h1, h2⟩
        · exact .inl h
        · refine .inr ⟨M, h1, h2.block (Below.heap_setCell _ _ _ _ ?_)⟩
          intro e
          have h3 := HC1.out
          simp only at e
          obtain ⟨n, D, ⟨es, clock, h4, _⟩, _⟩ := h2
          rw [e, h3] at h4
          cases h4
      go_wp2
      exact bodyPost_ret (results_one rfl _ _ _ _ rfl (loadT (World.cell?_setCell_same _ _ _ c1))) rfl ⟨_, rfl, R.out, HB.out.setCell (by simp) _⟩
end Go.Proofs.Ythphoiadhddggaa
