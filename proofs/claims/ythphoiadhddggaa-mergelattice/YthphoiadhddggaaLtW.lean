/-
  The statement MergeLattice, walked.
-/
import Derived.Test.YthphoiadhddggaaCnW
namespace Go.Proofs.Ythphoiadhddggaa
open Go.RowKit

set_option maxRecDepth 100000 in
set_option maxHeartbeats 8000000 in
theorem lattice_walk (la lb lc : List Int) (a b c : Option Addr) (ca cb cc : Nat) (xt xp xv yt yp yv zt zp zv : Int) (w : World) (ha : IntsQ w a la) (hb : IntsQ w b lb) (hc : IntsQ w c lc) :
    Calls Try.prog 4 #[.slice a la.length ca, .slice b lb.length cb, .slice c lc.length cc, .agg #[.int .i64 xt, .int .i64 xp, .int .i64 xv], .agg #[.int .i64 yt, .int .i64 yp, .int .i64 yv], .agg #[.int .i64 zt, .int .i64 zp, .int .i64 zv]] w fun e w' => e = .returned (.bool true) ∧ Below w.heap.size w w' := by
  have HA := hideIt ha
  have HB := hideIt hb
  have HC := hideIt hc
  clear ha hb hc
  have HB0 : Hid (Below w.heap.size w (((w.alloc (lO ⟨xt, xp, xv⟩)).alloc (lO ⟨yt, yp, yv⟩)).alloc (lO ⟨zt, zp, zv⟩))) := belA (belA (belA (Below.refl _ _) _) _) _
  have HC0 : Hid ((((w.alloc (lO ⟨xt, xp, xv⟩)).alloc (lO ⟨yt, yp, yv⟩)).alloc (lO ⟨zt, zp, zv⟩)).heap[w.heap.size]? = some (lO ⟨xt, xp, xv⟩)) := blkA (blkA (heap_alloc_new w _))
  have HC1 : Hid ((((w.alloc (lO ⟨xt, xp, xv⟩)).alloc (lO ⟨yt, yp, yv⟩)).alloc (lO ⟨zt, zp, zv⟩)).heap[w.heap.size + 1]? = some (lO ⟨yt, yp, yv⟩)) := blkA (by simpa using heap_alloc_new (w.alloc (lO ⟨xt, xp, xv⟩)) (lO ⟨yt, yp, yv⟩))
  have HC2 : Hid ((((w.alloc (lO ⟨xt, xp, xv⟩)).alloc (lO ⟨yt, yp, yv⟩)).alloc (lO ⟨zt, zp, zv⟩)).heap[w.heap.size + 1 + 1]? = some (lO ⟨zt, zp, zv⟩)) := by
    have := heap_alloc_new ((w.alloc (lO ⟨xt, xp, xv⟩)).alloc (lO ⟨yt, yp, yv⟩)) (lO ⟨zt, zp, zv⟩)
    simp only [World.size_alloc] at this
    exact this
  unfold lO at HB0 HC0 HC1 HC2
  dsimp only at HB0 HC0 HC1 HC2
  go_enter Try.func4, Try.ntmps4
  go_wp2_with fail
  generalize ((w.alloc _).alloc _).alloc _ = W at HB0 HC0 HC1 HC2 ⊢
  refine (counted_any W).mono fun e w1 ⟨he, hb1⟩ => ?_
  subst he
  have HB1 := hideIt (belJ HB0.out hb1)
  have HW1 := hideIt hb1
  clear hb1
  go_wp2_with fail
  refine (counts_any la a ca w1 (HA.out.below HB1.out)).mono fun e w2 ⟨c1, he, hb2⟩ => ?_
  subst he
  have HB2 := hideIt (belJ HB1.out hb2)
  have HW2 := hideIt (belJ HW1.out hb2)
  clear hb2
  go_wp2_with fail
  refine (counts_any lb b cb w2 (HB.out.below HB2.out)).mono fun e w3 ⟨c2, he, hb3⟩ => ?_
  subst he
  have HB3 := hideIt (belJ HB2.out hb3)
  have HW3 := hideIt (belJ HW2.out hb3)
  clear hb3
  go_wp2_with fail
  refine (counts_any lc c cc w3 (HC.out.below HB3.out)).mono fun e w4 ⟨c3, he, hb4⟩ => ?_
  subst he
  have HB4 := hideIt (belJ HB3.out hb4)
  have HW4 := hideIt (belJ HW3.out hb4)
  clear hb4
  go_wp2_with fail
  refine (latticeC_any c1 c2 c3 w4).mono fun e w5 ⟨he, hb5⟩ => ?_
  subst he
  have HB5 := hideIt (belJ HB4.out hb5)
  have HW5 := hideIt (belJ HW4.out hb5)
  clear hb5
  obtain ⟨x0, x1, x2, _⟩ := blk3 (blkB HC0.out HW5.out (Array.getElem?_eq_some_iff.1 HC0.out).1)
  obtain ⟨y0, y1, y2, _⟩ := blk3 (blkB HC1.out HW5.out (Array.getElem?_eq_some_iff.1 HC1.out).1)
  obtain ⟨z0, z1, z2, _⟩ := blk3 (blkB HC2.out HW5.out (Array.getElem?_eq_some_iff.1 HC2.out).1)
  go_wp2_with fail
  refine (latticeL_any ⟨xt, xp, xv⟩ ⟨yt, yp, yv⟩ ⟨zt, zp, zv⟩ w5).mono fun e w6 ⟨he, hb6⟩ => ?_
  subst he
  have HB6 := hideIt (belJ HB5.out hb6)
  clear hb6
  go_wp2
  go_ret
  exact ⟨rfl, HB6.out⟩
end Go.Proofs.Ythphoiadhddggaa
