/-
  What the document's next gives: a read, a write.
-/
import Derived.Test.YthblokfiojccmaaGreatDoorDgT
import Derived.Test.YthblokfiojccmaaGreatDoorTdW
namespace Go.Proofs.YthblokfiojccmaaGreatDoor.Gn
open Go.RowKit

set_option maxHeartbeats 2000000 in
theorem dread_next (n base B : Nat) (k : Int) (t : Tp) (w : World) (v : Value) (bs : List Nat) (hg : DgAt (n + 1) w base v (.rd k) bs) (h : TpAt w base B 0 t) :
    Calls Tryz.prog 8 #[v, .pointer (some ⟨B, 0, none⟩)] w (DnTold (n + 1) base B t w v (.rd k) bs) := by
  have HG := hideIt hg
  have HT := hideIt h
  obtain ⟨b, rfl, rfl, hb, c0, c1⟩ := hg
  have hblt : b < w.heap.size := World.block_lt_of_cell? w _ c0
  clear h
  go_enter Tryz.func8, Tryz.ntmps8
  go_wp2
  have hb3 := heap_new w (.cells #[.bool false, .int .i64 k, .int .i64 0] 47)
  obtain ⟨z0, z1, z2⟩ := blk3 hb3
  exact bodyPost_ret (results_two rfl _ _ _ _ rfl (loadDl z0 z1 z2)) rfl ⟨rfl, HT.out.fr (Fr.alloc [] _ _) (by simp) (by simp), ⟨[b], HG.out.fr (Fr.alloc [] _ _) (by simp), by simp⟩, Fr.alloc _ _ _⟩

set_option maxHeartbeats 4000000 in
set_option maxRecDepth 100000 in
theorem dwrite_next (n base B : Nat) (k lo hi : Int) (t : Tp) (w : World) (v : Value) (bs : List Nat) (hg : DgAt (n + 1) w base v (.wr k lo hi) bs) (h : TpAt w base B 0 t) (hB : B ∉ bs) (hu : t.u ≤ 1000000000) :
    Calls Tryz.prog 8 #[v, .pointer (some ⟨B, 0, none⟩)] w (DnTold (n + 1) base B t w v (.wr k lo hi) bs) := by
  have HG := hideIt hg
  have HT := hideIt h
  obtain ⟨b, rfl, rfl, hb, c0, c1, c2, c3, h1, h2, h3⟩ := hg
  have HB := hideIt (fun W (h : TpAt W base B 0 t) => dBelow_any base B 0 (hi - lo + 1) t W h hu (by omega))
  have HL := hideIt (Tp.below_lt (t := t) (n := hi - lo + 1) (by omega))
  have hlt := h.lt
  have hblt : b < w.heap.size := World.block_lt_of_cell? w _ c0
  have hBb : B ≠ b := by simpa using hB
  have w1 : IntKind.i64.wrap (hi - lo) = hi - lo := by rw [IntKind.wrap_i64]; omega
  have w2 : IntKind.i64.wrap (hi - lo + 1) = hi - lo + 1 := by rw [IntKind.wrap_i64]; omega
  clear h hB
  go_enter Tryz.func8, Tryz.ntmps8
  go_upto_region 5 with fail
  refine wp_region_held_drew (S := fun W => W.cell? ⟨b, 1, none⟩ = some (.int .i64 k) ∧ W.cell? ⟨b, 2, none⟩ = some (.int .i64 lo) ∧ W.cell? ⟨b, 3, none⟩ = some (.int .i64 hi)) (by kernel_rfl) ?_ (fun hHeld => ?_)
  · exact ⟨(World.cell?_alloc_lt _ _ _ hblt).trans c1, (World.cell?_alloc_lt _ _ _ hblt).trans c2, (World.cell?_alloc_lt _ _ _ hblt).trans c3⟩
  refine wpAnyH_take (i := 0) (v := ?_) rfl (by kernel_rfl) (by kernel_rfl) (by kernel_rfl) (fun _ _ _ h => h) (Or.inl ⟨by rfl, ?_⟩) (by assumption) ?_
  rotate_left 1
  · intro wz hwz
    go_simp
    all_goals with_reducible rfl
  simp only [Act.put, List.setIfInBounds_toArray, List.set_cons_zero, List.set_cons_succ, List.getElem_toArray, List.getElem_cons_zero]
  refine wpAnyH_take (i := 1) (v := ?_) rfl (by kernel_rfl) (by kernel_rfl) (by kernel_rfl) (fun _ _ _ h => h) (Or.inl ⟨by rfl, ?_⟩) (by assumption) ?_
  rotate_left 1
  · intro wz hwz
    go_simp
    all_goals with_reducible rfl
  simp only [Act.put, List.setIfInBounds_toArray, List.set_cons_zero, List.set_cons_succ, List.getElem_toArray, List.getElem_cons_zero, List.getElem_cons_succ]
  refine wpAnyH_take (i := 2) (v := ?_) rfl (by kernel_rfl) (by kernel_rfl) (by kernel_rfl) (fun _ _ _ h => h) (Or.inl ⟨by rfl, ?_⟩) (by assumption) ?_
  rotate_left 1
  · intro wz hwz
    go_simp
    all_goals with_reducible rfl
  simp only [Act.put, List.setIfInBounds_toArray, List.set_cons_zero, List.set_cons_succ, List.getElem_toArray, List.getElem_cons_zero, List.getElem_cons_succ]
  refine wpAnyH_take (i := 3) (v := ?_) rfl (by kernel_rfl) (by kernel_rfl) (by kernel_rfl) (fun _ _ _ h => h) (Or.inl ⟨by rfl, ?_⟩) (by assumption) ?_
  rotate_left 1
  · intro wz hwz
    obtain ⟨y0, y1, y2⟩ := hwz
    go_simp
    all_goals with_reducible rfl
  simp only [Act.put, List.setIfInBounds_toArray, List.set_cons_zero, List.set_cons_succ, List.getElem_toArray, List.getElem_cons_zero, List.getElem_cons_succ]
  refine wpAnyH_take (i := 4) (v := ?_) rfl (by kernel_rfl) (by kernel_rfl) (by kernel_rfl) (fun _ _ _ h => h) (Or.inl ⟨by rfl, ?_⟩) (by assumption) ?_
  rotate_left 1
  · intro wz hwz
    go_simp
    all_goals with_reducible rfl
  simp only [Act.put, List.setIfInBounds_toArray, List.set_cons_zero, List.set_cons_succ, List.getElem_toArray, List.getElem_cons_zero, List.getElem_cons_succ]
  refine wpAnyH_take (i := 5) (v := ?_) rfl (by kernel_rfl) (by kernel_rfl) (by kernel_rfl) (fun _ _ _ h => h) (Or.inl ⟨by rfl, ?_⟩) (by assumption) ?_
  rotate_left 1
  · intro wz hwz
    go_simp
    all_goals with_reducible rfl
  simp only [Act.put, List.setIfInBounds_toArray, List.set_cons_zero, List.set_cons_succ, List.getElem_toArray, List.getElem_cons_zero, List.getElem_cons_succ]
  refine wpAnyH_take (i := 6) (v := ?_) rfl (by kernel_rfl) (by kernel_rfl) (by kernel_rfl) (fun _ _ _ h => h) (Or.inl ⟨by rfl, ?_⟩) (by assumption) ?_
  rotate_left 1
  · intro wz hwz
    go_simp
    all_goals with_reducible rfl
  simp only [Act.put, List.setIfInBounds_toArray, List.set_cons_zero, List.set_cons_succ, List.getElem_toArray, List.getElem_cons_zero, List.getElem_cons_succ]
  refine wpAnyH_take (i := 7) (v := ?_) rfl (by kernel_rfl) (by kernel_rfl) (by kernel_rfl) (fun _ _ _ h => h) (Or.inl ⟨by rfl, ?_⟩) (by assumption) ?_
  rotate_left 1
  · intro wz hwz
    obtain ⟨y0, y1, y2⟩ := hwz
    go_simp
    all_goals with_reducible rfl
  simp only [Act.put, List.setIfInBounds_toArray, List.set_cons_zero, List.set_cons_succ, List.getElem_toArray, List.getElem_cons_zero, List.getElem_cons_succ]
  refine wpAnyH_take (i := 8) (v := ?_) rfl (by kernel_rfl) (by kernel_rfl) (by kernel_rfl) (fun _ _ _ h => h) (Or.inl ⟨by rfl, ?_⟩) (by assumption) ?_
  rotate_left 1
  · intro wz hwz
    go_simp
    all_goals with_reducible rfl
  simp only [Act.put, List.setIfInBounds_toArray, List.set_cons_zero, List.set_cons_succ, List.getElem_toArray, List.getElem_cons_zero, List.getElem_cons_succ]
  refine wpAnyH_take (i := 9) (v := ?_) rfl (by kernel_rfl) (by kernel_rfl) (by kernel_rfl) (fun _ _ _ h => h) (Or.inl ⟨by rfl, ?_⟩) (by assumption) ?_
  rotate_left 1
  · intro wz hwz
    go_simp
    all_goals with_reducible rfl
  simp only [Act.put, List.setIfInBounds_toArray, List.set_cons_zero, List.set_cons_succ, List.getElem_toArray, List.getElem_cons_zero, List.getElem_cons_succ]
  refine wpAnyH_take (i := 10) (v := ?_) rfl (by kernel_rfl) (by kernel_rfl) (by kernel_rfl) (fun _ _ _ h => h) (Or.inl ⟨by rfl, ?_⟩) (by assumption) ?_
  rotate_left 1
  · intro wz hwz
    go_simp
    all_goals with_reducible rfl
  simp only [Act.put, List.setIfInBounds_toArray, List.set_cons_zero, List.set_cons_succ, List.getElem_toArray, List.getElem_cons_zero, List.getElem_cons_succ]
  refine wpAnyH_take (i := 11) (v := ?_) rfl (by kernel_rfl) (by kernel_rfl) (by kernel_rfl) (fun _ _ _ h => h) (Or.inl ⟨by rfl, ?_⟩) (by assumption) ?_
  rotate_left 1
  · intro wz hwz
    go_simp
    all_goals with_reducible rfl
  simp only [Act.put, List.setIfInBounds_toArray, List.set_cons_zero, List.set_cons_succ, List.getElem_toArray, List.getElem_cons_zero, List.getElem_cons_succ]
  refine wpAnyH_take (i := 12) (v := ?_) rfl (by kernel_rfl) (by kernel_rfl) (by kernel_rfl) (fun _ _ _ h => h) (Or.inl ⟨by rfl, ?_⟩) (by assumption) ?_
  rotate_left 1
  · intro wz hwz
    obtain ⟨y0, y1, y2⟩ := hwz
    go_simp
    all_goals with_reducible rfl
  simp only [Act.put, List.setIfInBounds_toArray, List.set_cons_zero, List.set_cons_succ, List.getElem_toArray, List.getElem_cons_zero, List.getElem_cons_succ]
  refine wpAnyH_take (i := 13) (v := ?_) rfl (by kernel_rfl) (by kernel_rfl) (by kernel_rfl) (fun _ _ _ h => h) (Or.inl ⟨by rfl, ?_⟩) (by assumption) ?_
  rotate_left 1
  · intro wz hwz
    go_simp
    all_goals with_reducible rfl
  simp only [Act.put, List.setIfInBounds_toArray, List.set_cons_zero, List.set_cons_succ, List.getElem_toArray, List.getElem_cons_zero, List.getElem_cons_succ]
  refine wpAnyH_take (i := 14) (v := ?_) rfl (by kernel_rfl) (by kernel_rfl) (by kernel_rfl) (fun _ _ _ h => h) (Or.inl ⟨by rfl, ?_⟩) (by assumption) ?_
  rotate_left 1
  · intro wz hwz
    go_simp
    all_goals with_reducible rfl
  simp only [Act.put, List.setIfInBounds_toArray, List.set_cons_zero, List.set_cons_succ, List.getElem_toArray, List.getElem_cons_zero, List.getElem_cons_succ]
  refine wpAnyH_take (i := 15) (v := ?_) rfl (by kernel_rfl) (by kernel_rfl) (by kernel_rfl) (fun _ _ _ h => h) (Or.inl ⟨by rfl, ?_⟩) (by assumption) ?_
  rotate_left 1
  · intro wz hwz
    go_simp
    all_goals with_reducible rfl
  simp only [Act.put, List.setIfInBounds_toArray, List.set_cons_zero, List.set_cons_succ, List.getElem_toArray, List.getElem_cons_zero, List.getElem_cons_succ]
  refine wpAnyH_take (i := 16) (v := ?_) rfl (by kernel_rfl) (by kernel_rfl) (by kernel_rfl) (fun _ _ _ h => h) (Or.inl ⟨by rfl, ?_⟩) (by assumption) ?_
  rotate_left 1
  · intro wz hwz
    obtain ⟨y0, y1, y2⟩ := hwz
    go_simp
    all_goals with_reducible rfl
  simp only [Act.put, List.setIfInBounds_toArray, List.set_cons_zero, List.set_cons_succ, List.getElem_toArray, List.getElem_cons_zero, List.getElem_cons_succ]
  refine wpAnyH_take (i := 17) (v := ?_) rfl (by kernel_rfl) (by kernel_rfl) (by kernel_rfl) (fun _ _ _ h => h) (Or.inl ⟨by rfl, ?_⟩) (by assumption) ?_
  rotate_left 1
  · intro wz hwz
    go_simp
    all_goals with_reducible rfl
  simp only [Act.put, List.setIfInBounds_toArray, List.set_cons_zero, List.set_cons_succ, List.getElem_toArray, List.getElem_cons_zero, List.getElem_cons_succ]
  refine wpAnyH_take (i := 18) (v := ?_) rfl (by kernel_rfl) (by kernel_rfl) (by kernel_rfl) (fun _ _ _ h => h) (Or.inl ⟨by rfl, ?_⟩) (by assumption) ?_
  rotate_left 1
  · intro wz hwz
    go_simp
    all_goals with_reducible rfl
  simp only [Act.put, List.setIfInBounds_toArray, List.set_cons_zero, List.set_cons_succ, List.getElem_toArray, List.getElem_cons_zero, List.getElem_cons_succ]
  have hF0 : Fr [] w ((w.alloc (Obj.cells #[.bool false, .int .i64 0, .int .i64 0] 47)).drewN 1) := (Fr.alloc [] w _).trans (Fr.drewN [] _ 1)
  have hc1 : ((w.alloc (Obj.cells #[.bool false, .int .i64 0, .int .i64 0] 47)).drewN 1).heap[w.heap.size]? = some (Obj.cells #[.bool false, .int .i64 0, .int .i64 0] 47) := heap_new _ _
  change wpAnyH _ _ _ _ _ _ _ _ (World.drewN _ 1)
  have hHeld0 : (World.drewN _ 1).cell? _ = _ ∧ (World.drewN _ 1).cell? _ = _ ∧ (World.drewN _ 1).cell? _ = _ := hHeld
  have HT0 := hideIt (HT.out.fr hF0 (by simp) (by simp))
  have HG0 := hideIt (HG.out.fr hF0 (by simp))
  have hs0 := hF0.size
  have HF0 := hideIt hF0
  clear hHeld hF0 c0 c1 c2 c3
  generalize (w.alloc (Obj.cells #[.bool false, .int .i64 0, .int .i64 0] 47)).drewN 1 = W0 at *
  refine wpAnyH_ready (rs := [19]) (by kernel_rfl) (by simp) (AllReadyH.cons rfl (fun K hK => ?_) AllReadyH.nil)
  go_simp
  refine (HB.out _ HT0.out).mono ?_
  rintro y w1 ⟨rfl, n1, rfl⟩
  have hT1 := HT0.out.turn (hi - lo + 1) n1
  have hF1 : Fr [B] W0 (tpTurn (W0.drewN n1) B 0 t (hi - lo + 1)) := Fr.of_grown (grown_turn W0 B 0 t _ n1) (fun b e => by cases e; simp)
  have hbW : b < W0.heap.size := by omega
  have hwW : w.heap.size < W0.heap.size := (Array.getElem?_eq_some_iff.1 hc1).1
  have hk : (tpTurn (W0.drewN n1) B 0 t (hi - lo + 1)).heap[w.heap.size]? = some (Obj.cells #[Value.bool false, Value.int IntKind.i64 0, Value.int IntKind.i64 0] 47) := (hF1.block _ hwW (by simp; omega)).trans hc1
  have hkb := hF1.block b hbW (by simpa using Ne.symm hBb)
  have hHeld1 := And.intro ((World.cell?_of_block (a := ⟨b, 1, none⟩) hkb).trans hHeld0.1) (And.intro ((World.cell?_of_block (a := ⟨b, 2, none⟩) hkb).trans hHeld0.2.1) ((World.cell?_of_block (a := ⟨b, 3, none⟩) hkb).trans hHeld0.2.2))
  have hvy : IntKind.i64.wrap (lo + t.below (hi - lo + 1)) = lo + t.below (hi - lo + 1) := by have := HL.out; rw [IntKind.wrap_i64]; omega
  have HG1 := hideIt (HG0.out.fr hF1 (by simpa using Ne.symm hBb))
  have HFt := hideIt ((HF0.out.more (Y := [B]) (by simp)).trans hF1)
  have HT1 := hideIt hT1
  have HNx : Hid (nextF (n + 1) (.wr k lo hi) t = ⟨some ⟨true, k, lo + t.below (hi - lo + 1)⟩, .wr k lo hi, t.on (hi - lo + 1)⟩) := hideIt rfl
  clear hT1 hF1 hkb HB HL hc1 hHeld0
  generalize tpTurn (W0.drewN n1) B 0 t (hi - lo + 1) = W1 at *
  generalize t.below (hi - lo + 1) = y at *
  refine hK.out _ _ hHeld1 (fun hHeld => ?_)
  clear hK K
  refine wpAnyH_take (i := 20) (v := ?_) rfl (by kernel_rfl) (by kernel_rfl) (by kernel_rfl) (fun _ _ _ h => h) (Or.inl ⟨by rfl, ?_⟩) (by assumption) ?_
  rotate_left 1
  · intro wz hwz
    go_simp
    all_goals with_reducible rfl
  simp only [Act.put, List.setIfInBounds_toArray, List.set_cons_zero, List.set_cons_succ, List.getElem_toArray, List.getElem_cons_zero, List.getElem_cons_succ]
  refine wpAnyH_take (i := 21) (v := ?_) rfl (by kernel_rfl) (by kernel_rfl) (by kernel_rfl) (fun _ _ _ h => h) (Or.inl ⟨by rfl, ?_⟩) (by assumption) ?_
  rotate_left 1
  · intro wz hwz
    go_simp
    all_goals with_reducible rfl
  simp only [Act.put, List.setIfInBounds_toArray, List.set_cons_zero, List.set_cons_succ, List.getElem_toArray, List.getElem_cons_zero, List.getElem_cons_succ]
  obtain ⟨z0, z1, z2⟩ := blk3 hk
  have f0 := frozen_of_row W1 w.heap.size 0 _ 47 hk
  have f1 := frozen_of_row W1 w.heap.size 1 _ 47 hk
  have f2 := frozen_of_row W1 w.heap.size 2 _ 47 hk
  refine wpAnyH_ready (rs := [22]) (by kernel_rfl) (by simp) (AllReadyH.cons rfl (fun K hK => ?_) AllReadyH.nil)
  go_simp
  change K _ (set3 W1 w.heap.size (.bool true) (.int .i64 k) (.int .i64 (lo + y)))
  have hld := load_set3D (a := .bool true) (b := .int .i64 k) (c := .int .i64 (lo + y)) z0 z1 z2
  have hS2 : (set3 W1 w.heap.size (.bool true) (.int .i64 k) (.int .i64 (lo + y))).cell? ⟨b, 1, none⟩ = some (.int .i64 k) ∧ (set3 W1 w.heap.size (.bool true) (.int .i64 k) (.int .i64 (lo + y))).cell? ⟨b, 2, none⟩ = some (.int .i64 lo) ∧ (set3 W1 w.heap.size (.bool true) (.int .i64 k) (.int .i64 (lo + y))).cell? ⟨b, 3, none⟩ = some (.int .i64 hi) :=
    ⟨(oth_set3 W1 w.heap.size _ _ _ _ (by simp; omega)).1.trans hHeld1.1, (oth_set3 W1 w.heap.size _ _ _ _ (by simp; omega)).1.trans hHeld1.2.1, (oth_set3 W1 w.heap.size _ _ _ _ (by simp; omega)).1.trans hHeld1.2.2⟩
  have HTold : Hid (DnTold (n + 1) base B t w (.pointer (some ⟨b, 0, none⟩)) (.wr k lo hi) [b] (.returned (.tuple #[.agg #[.bool true, .int .i64 k, .int .i64 (lo + y)], .bool true])) (set3 W1 w.heap.size (.bool true) (.int .i64 k) (.int .i64 (lo + y)))) :=
    dtold_set3 HNx.out rfl rfl (HFt.out.more (by simp)) HT1.out HG1.out (by simp) (by simp; omega) (Nat.le_refl _) hlt
  generalize set3 W1 w.heap.size (.bool true) (.int .i64 k) (.int .i64 (lo + y)) = W2 at *
  refine hK.out _ _ hS2 (fun hHeld => ?_)
  clear hK K
  refine wpAnyH_take (i := 23) (v := ?_) rfl (by kernel_rfl) (by kernel_rfl) (by kernel_rfl) (fun _ _ _ h => h) (Or.inl ⟨by rfl, ?_⟩) (by assumption) ?_
  rotate_left 1
  · intro wz hwz
    go_simp
    all_goals with_reducible rfl
  simp only [Act.put, List.setIfInBounds_toArray, List.set_cons_zero, List.set_cons_succ, List.getElem_toArray, List.getElem_cons_zero, List.getElem_cons_succ]
  refine wpAnyH_done (by kernel_rfl) ?_ _
  go_wp2
  refine bodyPost_ret (results_two rfl _ _ _ _ rfl hld) rfl ?_
  exact HTold.out
end Go.Proofs.YthblokfiojccmaaGreatDoor.Gn
