/-
  merge.All at Last, walked; the statements' own word 'lattice' at Last.
-/
import Derived.Test.YthphoiadhddggaaLsW
import Derived.Test.YthphoiadhddggaaLatG
namespace Go.Proofs.Ythphoiadhddggaa
open Go.RowKit

def RepL (a : Lst) (v : Value) (_ : World) : Prop := v = lA a
def LstAt (w : World) (b o : Nat) (a : Lst) : Prop := w.cell? ⟨b, o, none⟩ = some (.int .i64 a.t) ∧ w.cell? ⟨b, o + 1, none⟩ = some (.int .i64 a.p) ∧ w.cell? ⟨b, o + 2, none⟩ = some (.int .i64 a.v)
def RepLS (xs : List Lst) (v : Value) (w : World) : Prop :=
  ∃ b, v = .slice (some ⟨b, 0, none⟩) xs.length xs.length ∧ xs.length ≤ 1000 ∧ b < w.heap.size ∧ ∀ i (h : i < xs.length), LstAt w b (i * 3) xs[i]
theorem LstAt.bel {w w' : World} {b o B : Nat} {a : Lst} (h : LstAt w b o a) (hb : Below B w w') (hB : b < B) : LstAt w' b o a :=
  ⟨(hb.cell (p := ⟨b, o, none⟩) hB).trans h.1, (hb.cell (p := ⟨b, o + 1, none⟩) hB).trans h.2.1, (hb.cell (p := ⟨b, o + 2, none⟩) hB).trans h.2.2⟩
theorem RepLS.bel {xs : List Lst} {v : Value} {w w' : World} (h : RepLS xs v w) (hb : Below w.heap.size w w') : RepLS xs v w' := by
  obtain ⟨b, h1, h2, h3, h4⟩ := h
  exact ⟨b, h1, h2, Nat.lt_of_lt_of_le h3 hb.size, fun i hi => (h4 i hi).bel hb h3⟩

set_option maxRecDepth 100000 in
set_option maxHeartbeats 4000000 in
theorem allL_any (a : Lst) (xs : List Lst) (u s : Value) (w : World) (hu : RepL a u w) (hs : RepLS xs s w) :
    Calls Try.prog 9 #[u, s] w fun e w' => ∃ r, e = .returned r ∧ RepL (xs.foldl joinL a) r w' ∧ Below w.heap.size w w' := by
  have HS := hideIt hs
  obtain rfl : u = lA a := hu
  obtain ⟨b, rfl, hn, hb, hx⟩ := hs
  clear hx
  unfold lA
  have hmJ : ∀ (v : Value) (w : World), (method (Try.prog.types.size + 100) 23 v "Join").run Try.prog w = .ok (7, v) w := fun _ _ => by kernel_rfl
  go_enter Try.func9, Try.ntmps9
  go_wp2
  have HB0 : Hid (Below w.heap.size w (((w.alloc (.cells #[.int .i64 a.t, .int .i64 a.p, .int .i64 a.v] 23)).alloc (.cells #[.int .i64 0, .int .i64 0, .int .i64 0] 23)).alloc (.cells #[.int .i64 a.t, .int .i64 a.p, .int .i64 a.v] 23))) := belA (belA (belA (Below.refl _ _) _) _) _
  have HC1 : Hid ((((w.alloc (.cells #[.int .i64 a.t, .int .i64 a.p, .int .i64 a.v] 23)).alloc (.cells #[.int .i64 0, .int .i64 0, .int .i64 0] 23)).alloc (.cells #[.int .i64 a.t, .int .i64 a.p, .int .i64 a.v] 23)).heap[w.heap.size + 1]? = some (.cells #[.int .i64 0, .int .i64 0, .int .i64 0] 23)) := blkA (by simpa using heap_alloc_new (w.alloc (.cells #[.int .i64 a.t, .int .i64 a.p, .int .i64 a.v] 23)) (.cells #[.int .i64 0, .int .i64 0, .int .i64 0] 23))
  have HC2 : Hid ((((w.alloc (.cells #[.int .i64 a.t, .int .i64 a.p, .int .i64 a.v] 23)).alloc (.cells #[.int .i64 0, .int .i64 0, .int .i64 0] 23)).alloc (.cells #[.int .i64 a.t, .int .i64 a.p, .int .i64 a.v] 23)).heap[w.heap.size + 1 + 1]? = some (.cells #[.int .i64 a.t, .int .i64 a.p, .int .i64 a.v] 23)) := by
    have := heap_alloc_new ((w.alloc (.cells #[.int .i64 a.t, .int .i64 a.p, .int .i64 a.v] 23)).alloc (.cells #[.int .i64 0, .int .i64 0, .int .i64 0] 23)) (.cells #[.int .i64 a.t, .int .i64 a.p, .int .i64 a.v] 23)
    simp only [World.size_alloc] at this
    exact this
  generalize ((w.alloc _).alloc _).alloc _ = W at HB0 HC1 HC2 ⊢
  go_loopw [11] (fun v wr => ∃ (k : Nat) (F : Lst), k ≤ xs.length ∧ v = .int .i64 k ∧ F = (xs.take k).foldl joinL a ∧ wr.heap[w.heap.size + 1]? = some (.cells #[.int .i64 0, .int .i64 0, .int .i64 0] 23) ∧ wr.heap[w.heap.size + 1 + 1]? = some (.cells #[.int .i64 F.t, .int .i64 F.p, .int .i64 F.v] 23) ∧ Below w.heap.size w wr) (fun v _ => xs.length - (intOf v).toNat)
  case atStart => exact ⟨0, a, Nat.zero_le _, rfl, rfl, HC1.out, HC2.out, HB0.out⟩
  case round =>
    clear HB0 HC1 HC2
    obtain ⟨k, F, hk, rfl, hF, hc1, hc2, hbe⟩ := hrel
    have HF := hideIt hF
    have HC1 := hideIt hc1
    have HC2 := hideIt hc2
    have HB := hideIt hbe
    clear hF hc1 hc2 hbe
    by_cases hkn : k < xs.length
    · have hkn' : (k : Int) < xs.length := by omega
      obtain ⟨b', hb', hn', hbl, hel⟩ := HS.out.bel HB.out
      injection hb' with hb1
      injection hb1 with hb1
      injection hb1 with hb1
      subst hb1
      obtain ⟨e0, e1, e2⟩ := hel k hkn
      have HTk : Hid ((xs.take (k + 1)).foldl joinL a = joinL F xs[k]) := by
        show _ = _
        rw [List.take_succ_eq_append_getElem hkn, List.foldl_append, ← HF.out]; rfl
      clear hel
      generalize xs[k] = g at *
      obtain ⟨c0, c1, c2, f0, f1, f2⟩ := blk3 (blkA (o := .cells #[.int .i64 g.t, .int .i64 g.p, .int .i64 g.v] 23) HC2.out)
      have h1l := (Array.getElem?_eq_some_iff.1 HC1.out).1
      have h2l := (Array.getElem?_eq_some_iff.1 HC2.out).1
      go_wp2_with fail
      refine (joinL_any F g _).mono fun e w2 ⟨he, hb2⟩ => ?_
      subst he
      simp only [World.size_alloc] at hb2
      generalize hJ : joinL F g = J at *
      unfold lA
      have HTJ : Hid ((xs.take (k + 1)).foldl joinL a = J) := HTk
      have HN2 := hideIt (blkB (blkA (o := .cells #[.int .i64 g.t, .int .i64 g.p, .int .i64 g.v] 23) HC2.out) hb2 (by omega))
      have HN1 := hideIt (blkB (blkA (o := .cells #[.int .i64 g.t, .int .i64 g.p, .int .i64 g.v] 23) HC1.out) hb2 (by omega))
      have HNb := hideIt ((belA HB.out (.cells #[.int .i64 g.t, .int .i64 g.p, .int .i64 g.v] 23)).trans (hb2.mono (by have := HB.out.size; omega)))
      obtain ⟨d0, d1, d2, g0, g1, g2⟩ := blk3 HN2.out
      have HP2 : Hid ((((w2.setCell ⟨w.heap.size + 1 + 1, 0, none⟩ (.int .i64 J.t)).setCell ⟨w.heap.size + 1 + 1, 1, none⟩ (.int .i64 J.p)).setCell ⟨w.heap.size + 1 + 1, 2, none⟩ (.int .i64 J.v)).heap[w.heap.size + 1 + 1]? = some (.cells #[.int .i64 J.t, .int .i64 J.p, .int .i64 J.v] 23)) :=
        heap_setCell_same _ _ 2 _ 23 _ (heap_setCell_same _ _ 1 _ 23 _ (heap_setCell_same w2 _ 0 _ 23 _ HN2.out))
      have HP1 : Hid ((((w2.setCell ⟨w.heap.size + 1 + 1, 0, none⟩ (.int .i64 J.t)).setCell ⟨w.heap.size + 1 + 1, 1, none⟩ (.int .i64 J.p)).setCell ⟨w.heap.size + 1 + 1, 2, none⟩ (.int .i64 J.v)).heap[w.heap.size + 1]? = some (.cells #[.int .i64 0, .int .i64 0, .int .i64 0] 23)) :=
        (Below.heap_setCell _ _ _ _ (by simp)).trans ((Below.heap_setCell _ _ _ _ (by simp)).trans ((Below.heap_setCell _ _ _ _ (by simp)).trans HN1.out))
      have HPb : Hid (Below w.heap.size w (((w2.setCell ⟨w.heap.size + 1 + 1, 0, none⟩ (.int .i64 J.t)).setCell ⟨w.heap.size + 1 + 1, 1, none⟩ (.int .i64 J.p)).setCell ⟨w.heap.size + 1 + 1, 2, none⟩ (.int .i64 J.v))) := ((HNb.out.setCell (by simp; omega) _).setCell (by simp; omega) _).setCell (by simp; omega) _
      clear hb2
      go_wp2
      go_roundw
      case rel => exact ⟨k + 1, J, by omega, by go_num, HTJ.out.symm, HP1.out, HP2.out, HPb.out⟩
      case measure => simp [intOf]; omega
    · have hkn' : ¬ (k : Int) < xs.length := by omega
      have HE : Hid (F = xs.foldl joinL a) := by show _ = _; rw [HF.out, List.take_of_length_le (by omega)]
      obtain ⟨z0, z1, z2, f0, f1, f2⟩ := blk3 HC1.out
      obtain ⟨c0, c1, c2, _, _, _⟩ := blk3 HC2.out
      go_wp2
      refine bodyPost_ret (results_one rfl _ _ _ _ rfl (loadL (a := F) ?_ ?_ ?_)) rfl ⟨_, rfl, by rw [HE.out]; rfl, ((HB.out.setCell (by simp) _).setCell (by simp) _).setCell (by simp) _⟩
      · rw [World.cell?_setCell_other _ _ _ _ (offN (by omega)), World.cell?_setCell_other _ _ _ _ (offN (by omega))]
        exact World.cell?_setCell_same _ _ _ z0
      · rw [World.cell?_setCell_other _ _ _ _ (offN (by omega))]
        refine World.cell?_setCell_same _ _ _ (u := .int .i64 0) ?_
        rw [World.cell?_setCell_other _ _ _ _ (offN (by omega))]
        exact z1
      · refine World.cell?_setCell_same _ _ _ (u := .int .i64 0) ?_
        rw [World.cell?_setCell_other _ _ _ _ (offN (by omega)), World.cell?_setCell_other _ _ _ _ (offN (by omega))]
        exact z2
end Go.Proofs.Ythphoiadhddggaa
