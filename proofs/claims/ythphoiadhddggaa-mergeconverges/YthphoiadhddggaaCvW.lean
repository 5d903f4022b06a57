/-
  The statement MergeConverges, walked.
-/
import Derived.Test.YthphoiadhddggaaOwT
import Derived.Test.YthphoiadhddggaaLaT
namespace Go.Proofs.Ythphoiadhddggaa
open Go.RowKit

theorem On.like {p q : Int} {f g : Th} (hpq : p ≠ q) (h : On p f) (h' : On q g) : Like f g := fun a b m n hm hn => absurd ((h a b m hm).symm.trans (h' a b n hn)) hpq
set_option maxRecDepth 100000 in
set_option maxHeartbeats 4000000 in
theorem converges_walk (la lb lc : List Int) (a b c : Option Addr) (ca cb cc : Nat) (w : World) (ha : IntsQ w a la) (hb : IntsQ w b lb) (hc : IntsQ w c lc) :
    Calls Try.prog 5 #[.slice a la.length ca, .slice b lb.length cb, .slice c lc.length cc] w fun e w' => e = .returned (.bool true) ∧ Below w.heap.size w w' := by
  have HA := hideIt ha
  have HB := hideIt hb
  have HC := hideIt hc
  clear ha hb hc
  go_enter Try.func5, Try.ntmps5
  go_wp2_with fail
  refine (own_any la a ca 0 (by omega) w HA.out).mono fun e w1 ⟨p, f, he, hp, hgf, hof, hb1⟩ => ?_
  subst he
  have HB1 := hideIt hb1
  have HP1 := hideIt hp
  clear hp hb1
  go_wp2_with fail
  refine (own_any lb b cb 1 (by omega) w1 (HB.out.below HB1.out)).mono fun e w2 ⟨q, g, he, hq, hgg, hog, hb2⟩ => ?_
  subst he
  have HB2 := hideIt (belJ HB1.out hb2)
  have HP2 := hideIt (HP1.out.bel hb2)
  have HQ2 := hideIt hq
  clear hq hb2 HP1
  go_wp2_with fail
  refine (own_any lc c cc 2 (by omega) w2 (HC.out.below HB2.out)).mono fun e w3 ⟨r, h, he, hr, hgh, hoh, hb3⟩ => ?_
  subst he
  have HB3 := hideIt (belJ HB2.out hb3)
  have HP3 := hideIt (HP2.out.bel hb3)
  have HQ3 := hideIt (HQ2.out.bel hb3)
  have HR3 := hideIt hr
  clear hr hb3 HP2 HQ2
  have HBa : Hid (Below w3.heap.size w3 (((w3.alloc (.cells #[.map p] 39)).alloc (.cells #[.map q] 39)).alloc (.cells #[.map r] 39))) := belA (belA (belA (Below.refl _ _) _) _) _
  go_wp2_with fail
  have HC0 : Hid ((((w3.alloc (.cells #[.map p] 39)).alloc (.cells #[.map q] 39)).alloc (.cells #[.map r] 39)).heap[w3.heap.size]? = some (.cells #[.map p] 39)) := blkA (blkA (heap_alloc_new w3 _))
  have HC1 : Hid ((((w3.alloc (.cells #[.map p] 39)).alloc (.cells #[.map q] 39)).alloc (.cells #[.map r] 39)).heap[w3.heap.size + 1]? = some (.cells #[.map q] 39)) := blkA (by simpa using heap_alloc_new (w3.alloc (.cells #[.map p] 39)) (.cells #[.map q] 39))
  have HC2 : Hid ((((w3.alloc (.cells #[.map p] 39)).alloc (.cells #[.map q] 39)).alloc (.cells #[.map r] 39)).heap[w3.heap.size + 1 + 1]? = some (.cells #[.map r] 39)) := by
    have := heap_alloc_new ((w3.alloc (.cells #[.map p] 39)).alloc (.cells #[.map q] 39)) (.cells #[.map r] 39)
    simp only [World.size_alloc] at this
    exact this
  generalize ((w3.alloc _).alloc _).alloc _ = W at HBa HC0 HC1 HC2 ⊢
  refine (counted_any W).mono fun e w4 ⟨he, hb4⟩ => ?_
  subst he
  obtain ⟨c0, f0⟩ := blk1 (blkB HC0.out hb4 (Array.getElem?_eq_some_iff.1 HC0.out).1)
  obtain ⟨c1, f1⟩ := blk1 (blkB HC1.out hb4 (Array.getElem?_eq_some_iff.1 HC1.out).1)
  obtain ⟨c2, f2⟩ := blk1 (blkB HC2.out hb4 (Array.getElem?_eq_some_iff.1 HC2.out).1)
  have HB4 := hideIt (belJ HBa.out hb4)
  have HBw := hideIt (belJ HB3.out HB4.out)
  clear hb4
  go_wp2_with fail
  refine (latticeT_any (gridL 20) (by rw [gridL_len]; omega) f g h (hof.like (by omega) hog) (hof.like (by omega) hoh) (hog.like (by omega) hoh) p q r w4 ⟨hgf.supp, p, rfl, HP3.out.bel HB4.out⟩ ⟨hgg.supp, q, rfl, HQ3.out.bel HB4.out⟩ ⟨hgh.supp, r, rfl, HR3.out.bel HB4.out⟩).mono fun e w5 ⟨he, hb5⟩ => ?_
  subst he
  have HB5 := hideIt (belJ HBw.out hb5)
  clear hb5
  go_wp2
  go_ret
  exact ⟨rfl, HB5.out⟩
end Go.Proofs.Ythphoiadhddggaa
