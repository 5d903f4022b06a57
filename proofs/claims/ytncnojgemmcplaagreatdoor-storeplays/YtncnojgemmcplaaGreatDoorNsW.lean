/-
  The document's net, walked: Send.
-/
import Derived.Test.YtncnojgemmcplaaGreatDoorRgLZ
import Derived.Deep.DeepCutAuto
namespace Go.Proofs.YtncnojgemmcplaaGreatDoor.St.Dc
open Go.RowKit

/-- What Send tells. -/
def SendTold (base B o : Nat) (v : Value) (L : List Md) (m : Md) (w : World) (e : Ending) (w' : World) : Prop :=
  (500 ≤ L.length ∧ e = .returned (.int .i64 4) ∧ Below w.heap.size w w') ∨
  (L.length < 500 ∧ e = .returned (.int .i64 0) ∧ ∃ v' w1, w.grownBy w1 v.ownBlock ∧ w' = w1.setCell ⟨B, o + 2, none⟩ v' ∧ w1.ownsRow base 140 3 v' (L.length + 1) (mdCs (L ++ [m])))

set_option maxRecDepth 100000 in
set_option maxHeartbeats 4000000 in
theorem send_any (m : Md) (base B o : Nat) (cut : Bool) (lv v : Value) (L : List Md) (hL : L.length ≤ 500) (w : World) (h : NetD w base B o cut lv v L) :
    Calls Tryz.prog 104 #[.pointer (some ⟨B, o, none⟩), .agg #[.int .i64 m.fr, .int .i64 m.to, .int .i64 m.wh]] w fun e w' => SendTold base B o v L m w e w' := by
  have HN := hideIt h
  have c2 := h.c2
  have hBl : B < w.heap.size := World.block_lt_of_cell? w _ h.c2
  obtain ⟨va, vc, rfl⟩ := h.slice
  have c2' : (w.alloc (.cells #[.int .i64 m.fr, .int .i64 m.to, .int .i64 m.wh] 140)).cell? ⟨B, o + 2, none⟩ = some (.slice va L.length vc) := by
    rw [World.cell?_alloc_lt _ _ ⟨B, o + 2, none⟩ hBl]; exact c2
  clear h c2
  by_cases hl : L.length < 500
  · have hl' : ¬ ((500 : Int) ≤ (L.length : Int)) := by omega
    have hl2 : decide ((L.length : Int) ≥ 500) = false := decide_eq_false (by omega)
    go_enter Tryz.func104, Tryz.ntmps104
    go_upto_region 3 with fail
    have HT : Hid ((w.alloc (.cells #[.int .i64 m.fr, .int .i64 m.to, .int .i64 m.wh] 140)).drew.cell? ⟨B, o + 2, none⟩ = some (.slice va L.length vc) ∧ (w.alloc (.cells #[.int .i64 m.fr, .int .i64 m.to, .int .i64 m.wh] 140)).drew.cell? ⟨w.heap.size, 0, none⟩ = some (.int .i64 m.fr) ∧ (w.alloc (.cells #[.int .i64 m.fr, .int .i64 m.to, .int .i64 m.wh] 140)).drew.cell? ⟨w.heap.size, 1, none⟩ = some (.int .i64 m.to) ∧ (w.alloc (.cells #[.int .i64 m.fr, .int .i64 m.to, .int .i64 m.wh] 140)).drew.cell? ⟨w.heap.size, 2, none⟩ = some (.int .i64 m.wh)) :=
      ⟨c2', blk3 (heap_alloc_new w _)⟩
    have HG0 : Hid (w.grownBy (w.alloc (.cells #[.int .i64 m.fr, .int .i64 m.to, .int .i64 m.wh] 140)).drew none) := (World.grownBy_alloc w _ none).trans ⟨rfl, rfl, rfl, Nat.le_refl _, fun _ _ _ => rfl⟩
    have hZ0 : w.heap.size < (w.alloc (.cells #[.int .i64 m.fr, .int .i64 m.to, .int .i64 m.wh] 140)).drew.heap.size := by simp
    refine wp_region_L (B := [10]) (S := fun _ => True) (T := fun Z => Z.cell? ⟨B, o + 2, none⟩ = some (.slice va L.length vc) ∧ Z.cell? ⟨w.heap.size, 0, none⟩ = some (.int .i64 m.fr) ∧ Z.cell? ⟨w.heap.size, 1, none⟩ = some (.int .i64 m.to) ∧ Z.cell? ⟨w.heap.size, 2, none⟩ = some (.int .i64 m.wh)) (by kernel_rfl) ⟨trivial, HT.out⟩ (fun hHeld => ?_)
    generalize (w.alloc (.cells #[.int .i64 m.fr, .int .i64 m.to, .int .i64 m.wh] 140)).drew = Y0 at hHeld HG0 hZ0 ⊢
    clear HT c2'
    refine wpAnyL_takeS (i := 0) (v := ?_) rfl (by kernel_rfl) (by kernel_rfl) (by kernel_rfl) (by kernel_rfl) (fun _ _ _ h => h) (Or.inl ⟨by rfl, ?_⟩) (by assumption) ?_
    rotate_left 1
    · intro wz _
      go_simp
      all_goals with_reducible rfl
    simp only [Act.put, List.setIfInBounds_toArray, List.set_cons_zero, List.set_cons_succ, List.getElem_toArray, List.getElem_cons_zero]
    refine wpAnyL_takeS (i := 1) (v := ?_) rfl (by kernel_rfl) (by kernel_rfl) (by kernel_rfl) (by kernel_rfl) (fun _ _ _ h => h) (Or.inl ⟨by rfl, ?_⟩) (by assumption) ?_
    rotate_left 1
    · intro wz _
      go_simp
      all_goals with_reducible rfl
    simp only [Act.put, List.setIfInBounds_toArray, List.set_cons_zero, List.set_cons_succ, List.getElem_toArray, List.getElem_cons_zero, List.getElem_cons_succ]
    refine wpAnyL_takeS (i := 2) (v := ?_) rfl (by kernel_rfl) (by kernel_rfl) (by kernel_rfl) (by kernel_rfl) (fun _ _ _ h => h) (Or.inl ⟨by rfl, ?_⟩) (by assumption) ?_
    rotate_left 1
    · intro wz _
      go_simp
      all_goals with_reducible rfl
    simp only [Act.put, List.setIfInBounds_toArray, List.set_cons_zero, List.set_cons_succ, List.getElem_toArray, List.getElem_cons_zero, List.getElem_cons_succ]
    refine wpAnyL_takeS (i := 3) (v := ?_) rfl (by kernel_rfl) (by kernel_rfl) (by kernel_rfl) (by kernel_rfl) (fun _ _ _ h => h) (Or.inl ⟨by rfl, ?_⟩) (by assumption) ?_
    rotate_left 1
    · intro wz _
      go_simp
      all_goals with_reducible rfl
    simp only [Act.put, List.setIfInBounds_toArray, List.set_cons_zero, List.set_cons_succ, List.getElem_toArray, List.getElem_cons_zero, List.getElem_cons_succ]
    refine wpAnyL_take [7, 10] (i := 4) (v := ?_) rfl (by kernel_rfl) (by kernel_rfl) (by kernel_rfl) (by kernel_rfl) (fun _ _ _ h => h) (Or.inl ⟨by rfl, ?_⟩) (by assumption) ?_
    rotate_left 1
    · intro wz ⟨_, y0, y1, y2, y3⟩
      go_simp
      all_goals with_reducible rfl
    simp only [Act.put, List.setIfInBounds_toArray, List.set_cons_zero, List.set_cons_succ, List.getElem_toArray, List.getElem_cons_zero, List.getElem_cons_succ]
    refine wpAnyL_take [6, 7, 10] (i := 5) (v := ?_) rfl (by kernel_rfl) (by kernel_rfl) (by kernel_rfl) (by kernel_rfl) (fun _ _ _ h => h) (Or.inl ⟨by rfl, ?_⟩) (by assumption) ?_
    rotate_left 1
    · intro wz ⟨_, y0, y1, y2, y3⟩
      go_simp
      all_goals with_reducible rfl
    simp only [Act.put, List.setIfInBounds_toArray, List.set_cons_zero, List.set_cons_succ, List.getElem_toArray, List.getElem_cons_zero, List.getElem_cons_succ]
    refine wpAnyL_ready (rs := [6]) (by kernel_rfl) (by simp) (AllReadyL.cons rfl (fun K hK => ?_) AllReadyL.nil)
    go_simp
    have HG1 : Hid (w.grownBy (Y0.alloc (.cells #[.int .i64 m.fr, .int .i64 m.to, .int .i64 m.wh] 140)) none) := HG0.out.trans (World.grownBy_alloc Y0 _ none)
    have hT1 : (Y0.alloc (.cells #[.int .i64 m.fr, .int .i64 m.to, .int .i64 m.wh] 140)).cell? ⟨B, o + 2, none⟩ = some (.slice va L.length vc) ∧ (Y0.alloc (.cells #[.int .i64 m.fr, .int .i64 m.to, .int .i64 m.wh] 140)).cell? ⟨w.heap.size, 0, none⟩ = some (.int .i64 m.fr) ∧ (Y0.alloc (.cells #[.int .i64 m.fr, .int .i64 m.to, .int .i64 m.wh] 140)).cell? ⟨w.heap.size, 1, none⟩ = some (.int .i64 m.to) ∧ (Y0.alloc (.cells #[.int .i64 m.fr, .int .i64 m.to, .int .i64 m.wh] 140)).cell? ⟨w.heap.size, 2, none⟩ = some (.int .i64 m.wh) :=
      ⟨(World.cell?_alloc_lt _ _ ⟨B, o + 2, none⟩ (by show B < _; omega)).trans hHeld.2.1, (World.cell?_alloc_lt _ _ ⟨w.heap.size, 0, none⟩ hZ0).trans hHeld.2.2.1, (World.cell?_alloc_lt _ _ ⟨w.heap.size, 1, none⟩ hZ0).trans hHeld.2.2.2.1, (World.cell?_alloc_lt _ _ ⟨w.heap.size, 2, none⟩ hZ0).trans hHeld.2.2.2.2⟩
    have HN1 : Hid ((Y0.alloc (.cells #[.int .i64 m.fr, .int .i64 m.to, .int .i64 m.wh] 140)).heap[Y0.heap.size]? = some (.cells #[.int .i64 m.fr, .int .i64 m.to, .int .i64 m.wh] 140)) := heap_alloc_new Y0 _
    refine hK.out _ _ ⟨trivial, hT1⟩ (fun hHeld => ?_)
    clear hK K hT1
    generalize Y0.alloc (.cells #[.int .i64 m.fr, .int .i64 m.to, .int .i64 m.wh] 140) = Y1 at hHeld HG1 HN1 ⊢
    refine wpAnyL_ready (rs := [7]) (by kernel_rfl) (by simp) (AllReadyL.cons rfl (fun K hK => ?_) AllReadyL.nil)
    obtain ⟨inf, i1, i2, i3, i4⟩ := info_parts' info49
    rw [if_pos (by rfl)]
    have hrow := HN.out.row.kept HG1.out (Classical.em _)
    have hnews : ∀ j u, (mdC m)[j]? = some u → Y1.cell? ((⟨Y0.heap.size, 0, none⟩ : Addr).add j) = some u := fun j u hj => by
      obtain ⟨n0, n1, n2⟩ := blk3 HN1.out
      rw [Addr.add_lit]
      match j, hj with
      | 0, hj => simp [mdC] at hj; subst hj; exact n0
      | 1, hj => simp [mdC] at hj; subst hj; exact n1
      | 2, hj => simp [mdC] at hj; subst hj; exact n2
      | j + 3, hj => simp [mdC] at hj
    have hlo := HN.out.lo
    have hY1 : Y0.heap.size < Y1.heap.size := (Array.getElem?_eq_some_iff.1 HN1.out).1
    have hsz1 := HG1.out.size
    refine wp_append_own Y1 (.tmp 15) (.tmp 17) 49 rfl base 140 inf _ 3 24 Tryz.underlying49 i1 i2 i3 i4 rfl (by decide) (.slice va L.length vc) L.length (mdCs L) rfl hrow ⟨Y0.heap.size, 0, none⟩ 1 1 (mdC m) rfl rfl hnews (fun u => mdC_one) (by unfold maxLen; omega) (by omega) (by omega) ?_
    intro v' w6 ho6 hg6 _
    obtain ⟨a6, cap6, rfl⟩ : ∃ a cap, v' = .slice a (L.length + 1) cap := by
      rcases ho6.2 with ⟨_, e⟩ | ⟨g, cap, cur, e, _⟩
      · omega
      · exact ⟨_, _, e⟩
    have hne1 : some B ≠ (Value.slice va L.length vc).ownBlock := fun e => HN.out.ne e.symm
    have hne2 : some w.heap.size ≠ (Value.slice va L.length vc).ownBlock := fun e => by have := (HN.out.row.lt _ e.symm).2; omega
    have k1 := World.cell?_of_block (a := ⟨B, o + 2, none⟩) (hg6.block B (by omega) hne1)
    have k2 := hg6.block w.heap.size (by omega) hne2
    have hT6 : w6.cell? ⟨B, o + 2, none⟩ = some (.slice va L.length vc) ∧ w6.cell? ⟨w.heap.size, 0, none⟩ = some (.int .i64 m.fr) ∧ w6.cell? ⟨w.heap.size, 1, none⟩ = some (.int .i64 m.to) ∧ w6.cell? ⟨w.heap.size, 2, none⟩ = some (.int .i64 m.wh) :=
      ⟨k1.trans hHeld.2.1, (World.cell?_of_block (a := ⟨w.heap.size, 0, none⟩) k2).trans hHeld.2.2.1, (World.cell?_of_block (a := ⟨w.heap.size, 1, none⟩) k2).trans hHeld.2.2.2.1, (World.cell?_of_block (a := ⟨w.heap.size, 2, none⟩) k2).trans hHeld.2.2.2.2⟩
    have hfz : w6.frozen? ⟨B, o + 2, none⟩ = false := ((World.frozen?_of_block (a := ⟨B, o + 2, none⟩) (hg6.block B (by omega) hne1)).trans (World.frozen?_of_block (a := ⟨B, o + 2, none⟩) (HG1.out.block B hBl (by simp)))).trans HN.out.f2
    have HO6 : Hid (w6.ownsRow base 140 3 (.slice a6 (L.length + 1) cap6) (L.length + 1) (mdCs (L ++ [m]))) := by
      show w6.ownsRow _ _ _ _ _ _
      rw [mdCs_app, mdCs_one]; exact ho6
    have HG6 : Hid (w.grownBy w6 (Value.slice va L.length vc).ownBlock) := (HG1.out.but _).trans hg6
    have c6 := hT6.1
    refine hK.out _ _ ⟨trivial, hT6⟩ (fun hHeld => ?_)
    clear hK K hT6 ho6 hg6 hY1 k1 k2 hne1 hne2 hnews hrow i1 i2 i3 i4 inf hlo hsz1
    refine wpAnyL_takeS (i := 8) (v := ?_) rfl (by kernel_rfl) (by kernel_rfl) (by kernel_rfl) (by kernel_rfl) (fun _ _ _ h => h) (Or.inl ⟨by rfl, ?_⟩) (by assumption) ?_
    rotate_left 1
    · intro wz _
      go_simp
      all_goals with_reducible rfl
    simp only [Act.put, List.setIfInBounds_toArray, List.set_cons_zero, List.set_cons_succ, List.getElem_toArray, List.getElem_cons_zero, List.getElem_cons_succ]
    refine wpAnyL_takeS (i := 9) (v := ?_) rfl (by kernel_rfl) (by kernel_rfl) (by kernel_rfl) (by kernel_rfl) (fun _ _ _ h => h) (Or.inl ⟨by rfl, ?_⟩) (by assumption) ?_
    rotate_left 1
    · intro wz _
      go_simp
      all_goals with_reducible rfl
    simp only [Act.put, List.setIfInBounds_toArray, List.set_cons_zero, List.set_cons_succ, List.getElem_toArray, List.getElem_cons_zero, List.getElem_cons_succ]
    refine wpAnyL_ready (rs := [10]) (by kernel_rfl) (by simp) (AllReadyL.last rfl (by kernel_rfl) (fun K hK => ?_) AllReadyL.nil)
    go_simp
    refine hK.out _ _ trivial (fun _ => ?_)
    clear hK K hHeld
    refine wpAnyL_done (by kernel_rfl) ?_ _
    go_wp2
    go_ret
    exact .inr ⟨hl, rfl, _, w6, HG6.out, rfl, HO6.out⟩
  · have hl' : ((500 : Int) ≤ (L.length : Int)) := by omega
    go_enter Tryz.func104, Tryz.ntmps104
    go_wp2
    go_ret
    exact .inl ⟨by omega, rfl, belA (Below.refl _ w) _⟩
end Go.Proofs.YtncnojgemmcplaaGreatDoor.St.Dc
