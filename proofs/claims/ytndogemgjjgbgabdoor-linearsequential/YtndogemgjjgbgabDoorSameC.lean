/-
  Package linear's Same: walked.
-/
import Derived.Test.YtndogemgjjgbgabDoorJudgeS
namespace Go.Proofs.YtndogemgjjgbgabDoor.Sm
open Go.RowKit

theorem JTold.wider {o bud : Int} {ops : List Opn} {w W : World} {e : Ending} {w' : World} (h : JTold o bud ops W e w') (hb : Below w.heap.size w W) : JTold o bud ops w e w' := by
  obtain ⟨h1, h2⟩ := h
  refine ⟨belJ hb h1, ?_⟩
  rcases h2 with h2 | ⟨hl, ov, he, ho1, ho2⟩
  · exact .inl h2
  · exact .inr ⟨hl, ov, he, fun hc => ownsRow_base (ho1 hc) hb.size, ho2⟩

set_option maxRecDepth 100000 in
set_option maxHeartbeats 2000000 in
theorem same_all (o bud : Int) (ops : List Opn) (u : Value) (w : World) (hlen : ops.length ≤ 60) (hl : OpsIn w u ops) (hK : KnownAt w) :
    Calls Tryd.prog 11 #[.int .i64 o, u, .int .i64 bud] w fun e w' => JTold o bud ops w e w' := by
  have hpos : 0 < w.heap.size := World.block_lt_of_cell? w ⟨0, 0 * 13 + 0, none⟩ (hK 0 0 (by decide) (by decide))
  have hb1 : Below w.heap.size w (w.alloc (.cells #[.int .i64 0, .slice none 0 0, .int .i64 0] 32)) := belA (Below.refl _ _) _
  have HC := hideIt (judge_any o bud ops u _ hlen (hl.below hb1) (hK.below hpos hb1))
  have HB1 := hideIt hb1
  clear hl hK hb1
  go_enter Tryd.func11, Tryd.ntmps11
  go_wp2_with fail
  refine HC.out.mono ?_
  intro e w2 hj
  have hb2 := hj.1
  have hR2 : w2.heap[w.heap.size]? = some z33 := (hb2.block w.heap.size (by simp)).trans (heap_alloc_new w _)
  have s0 : w2.cell? ⟨w.heap.size, 0, none⟩ = some (.int .i64 0) := cell_of_row w2 _ _ _ 32 (0, 0) hR2
  have s1 : w2.cell? ⟨w.heap.size, 1, none⟩ = some (.slice none 0 0) := cell_of_row w2 _ _ _ 32 (0, 0) hR2
  have s2 : w2.cell? ⟨w.heap.size, 2, none⟩ = some (.int .i64 0) := cell_of_row w2 _ _ _ 32 (0, 0) hR2
  have s3 : ∀ i, w2.frozen? ⟨w.heap.size, i, none⟩ = false := fun i => frozen_of_row w2 _ _ _ 32 hR2
  have hj' := hj.wider HB1.out
  have hset : ∀ x y z, Below w.heap.size w (((w2.setCell ⟨w.heap.size, 0, none⟩ x).setCell ⟨w.heap.size, 1, none⟩ y).setCell ⟨w.heap.size, 2, none⟩ z) := fun x y z =>
    ((hj'.1.setCell (p := ⟨w.heap.size, 0, none⟩) (Nat.le_refl _) _).setCell (p := ⟨w.heap.size, 1, none⟩) (Nat.le_refl _) _).setCell (p := ⟨w.heap.size, 2, none⟩) (Nat.le_refl _) _
  obtain ⟨_, ⟨n, hn, hlc, rfl⟩ | ⟨hlc, ov, rfl, ho1, ho2⟩⟩ := hj'
  · have HX : Hid (JTold o bud ops w (.returned (.tuple #[.agg #[.int .i64 0, .slice none 0 0, .int .i64 0], toldV n])) (((w2.setCell ⟨w.heap.size, 0, none⟩ (.int .i64 0)).setCell ⟨w.heap.size, 1, none⟩ (.slice none 0 0)).setCell ⟨w.heap.size, 2, none⟩ (.int .i64 0))) := hideIt ⟨hset _ _ _, .inl ⟨n, hn, hlc, rfl⟩⟩
    rw [toldV_some hn] at HX ⊢
    clear hj hb2 hset hR2
    go_wp2
    exact bodyPost_ret (v := .tuple #[.agg #[.int .i64 0, .slice none 0 0, .int .i64 0], .iface 43 (.int .i64 n)]) (by simp [results, Tryd.results11, go_sem, s0, s1, s2]) rfl HX.out
  · have hov : ∃ a l c, ov = .slice a l c := by
      by_cases h1 : (searchM (srB o ops bud.toNat)).code = 1
      · obtain ⟨a, c, e⟩ := ownsRow_slice (ho1 h1); exact ⟨a, _, c, e⟩
      · exact ⟨_, _, _, ho2 h1⟩
    have HX : Hid (JTold o bud ops w (.returned (.tuple #[.agg #[.int .i64 ((searchM (srB o ops bud.toNat)).code : Int), ov, .int .i64 ((searchM (srB o ops bud.toNat)).ent.length : Int)], .nilIface])) (((w2.setCell ⟨w.heap.size, 0, none⟩ (.int .i64 ((searchM (srB o ops bud.toNat)).code : Int))).setCell ⟨w.heap.size, 1, none⟩ ov).setCell ⟨w.heap.size, 2, none⟩ (.int .i64 ((searchM (srB o ops bud.toNat)).ent.length : Int)))) := hideIt (by
      refine ⟨hset _ _ _, .inr ⟨hlc, ov, rfl, fun hc => ?_, ho2⟩⟩
      have hrow := ho1 hc
      have n2 := row_off hrow hR2 (by decide)
      exact ownsRow_setCell_other (ownsRow_setCell_other (ownsRow_setCell_other hrow n2 _) n2 _) n2 _)
    obtain ⟨va, vl, vc, rfl⟩ := hov
    generalize ((searchM (srB o ops bud.toNat)).code : Int) = xc at HX ⊢
    generalize ((searchM (srB o ops bud.toNat)).ent.length : Int) = xe at HX ⊢
    clear hj hb2 hset hR2 ho1 ho2
    go_wp2
    exact bodyPost_ret (v := .tuple #[.agg #[.int .i64 xc, .slice va vl vc, .int .i64 xe], .nilIface]) (by simp [results, Tryd.results11, go_sem, s0, s1, s2]) rfl HX.out

end Go.Proofs.YtndogemgjjgbgabDoor.Sm
