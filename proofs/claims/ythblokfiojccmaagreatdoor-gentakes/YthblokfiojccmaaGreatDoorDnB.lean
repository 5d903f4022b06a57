/-
  What the document's next gives: a limit.
-/
import Derived.Test.YthblokfiojccmaaGreatDoorDnA
namespace Go.Proofs.YthblokfiojccmaaGreatDoor.Gn
open Go.RowKit

/-- All of the document's generators of a height: what next gives. -/
def AllDn (n : Nat) : Prop := ∀ (base B : Nat) (t : Tp) (w : World) (v : Value) (g : Gt) (bs : List Nat), DgAt n w base v g bs → TpAt w base B 0 t → B ∉ bs → t.u + wtF n g ≤ 1000000000 → Calls Tryz.prog 8 #[v, .pointer (some ⟨B, 0, none⟩)] w (DnTold n base B t w v g bs)

set_option maxHeartbeats 4000000 in
set_option maxRecDepth 100000 in
theorem dlimit_next {n : Nat} (ih : AllDn n) (base B : Nat) (t : Tp) (w : World) (v : Value) (g : Gt) (left : Nat) (bs : List Nat) (h : DgAt (n + 1) w base v (.lim g left) bs) (ht : TpAt w base B 0 t) (hB : B ∉ bs) (hu : t.u + wtF n g ≤ 1000000000) :
    Calls Tryz.prog 8 #[v, .pointer (some ⟨B, 0, none⟩)] w (DnTold (n + 1) base B t w v (.lim g left) bs) := by
  have HH := hideIt h
  have HT := hideIt ht
  obtain ⟨b, r, u, cap, cs, used, rfl, rfl, h2, h3, h4, h5, h6, h7, h8, h9, h10, h11, h12, h13, h14⟩ := h
  have HG := hideIt h14
  have hBb : B ≠ b := fun e => hB (by simp [e])
  have hBr : B ≠ r := fun e => hB (by simp [e])
  have hBc : B ∉ cs := fun e => hB (by simp [e])
  have hblt : b < w.heap.size := World.block_lt_of_cell? w _ h7
  have hrlt : r < w.heap.size := World.block_lt_of_cell? w _ h13
  have hBlt := ht.lt
  obtain ⟨ub, hub, _⟩ := h14.ptr
  subst hub
  clear h14 ht
  cases left with
  | zero =>
    have HN : Hid (nextF (n + 1) (.lim g 0) t = ⟨none, .lim g 0, t⟩) := hideIt (by simp [nextF])
    have hge : ((used + 0 : Nat) : Int) ≤ (used : Int) := by omega
    go_enter Tryz.func8, Tryz.ntmps8
    go_wp2_with fail
    go_quiet (fail)
    go_wp2
    have hF0 : Fr [] w ((w.alloc (Obj.cells #[.bool false, .int .i64 0, .int .i64 0] 47)).drewN nq) := (Fr.alloc [] w _).trans (Fr.drewN [] _ nq)
    have hk : ((w.alloc (Obj.cells #[.bool false, .int .i64 0, .int .i64 0] 47)).drewN nq).heap[w.heap.size]? = some (Obj.cells #[.bool false, .int .i64 0, .int .i64 0] 47) := heap_new _ _
    obtain ⟨z0, z1, z2⟩ := blk3 hk
    change bodyPost _ _ _ _ _ (set3 ((w.alloc (Obj.cells #[.bool false, .int .i64 0, .int .i64 0] 47)).drewN nq) w.heap.size (.bool false) (.int .i64 0) (.int .i64 0))
    refine bodyPost_ret (results_two rfl _ _ _ _ rfl (load_set3D z0 z1 z2)) rfl ?_
    exact dtold_set3 (ok := false) HN.out rfl rfl (hF0.more (by simp)) (HT.out.fr hF0 (by simp) (by simp)) (HH.out.fr hF0 (by simp)) (fun x hx => .inl hx) (fun e => by have := (HH.out.in_ _ e).2; omega) (Nat.le_refl _) hBlt
  | succ k =>
    have HN : Hid (nextF (n + 1) (.lim g (k + 1)) t = ⟨(nextF n g t).c, .lim (nextF n g t).g k, (nextF n g t).t⟩) := hideIt (by simp [nextF])
    have hge : ¬ ((used + (k + 1) : Nat) : Int) ≤ (used : Int) := by omega
    have hw1 : IntKind.i64.wrap ((used : Int) + 1) = (used : Int) + 1 := by rw [IntKind.wrap_i64]; omega
    go_enter Tryz.func8, Tryz.ntmps8
    go_wp2_with fail
    go_quiet (fail)
    go_wp2_with fail
    have hF0 : Fr [b] w (((w.alloc (Obj.cells #[.bool false, .int .i64 0, .int .i64 0] 47)).drewN nq).setCell ⟨b, 5, none⟩ (.int .i64 ((used : Int) + 1))) := ((Fr.alloc [b] w _).trans (Fr.drewN [b] _ nq)).trans (Fr.set _ _ _ (by simp))
    have hcb : ∀ j, ((w.alloc (Obj.cells #[.bool false, .int .i64 0, .int .i64 0] 47)).drewN nq).cell? ⟨b, j, none⟩ = w.cell? ⟨b, j, none⟩ := fun j => World.cell?_of_block (a := ⟨b, j, none⟩) (((Fr.alloc [] w _).trans (Fr.drewN [] _ nq)).block b hblt (by simp))
    have q0 : (((w.alloc (Obj.cells #[.bool false, .int .i64 0, .int .i64 0] 47)).drewN nq).setCell ⟨b, 5, none⟩ (.int .i64 ((used : Int) + 1))).cell? ⟨b, 0, none⟩ = some (.string ⟨#[108, 105, 109, 105, 116]⟩) := (World.cell?_setCell_other _ _ _ _ (offN (by omega))).trans ((hcb 0).trans h7)
    have q1 : (((w.alloc (Obj.cells #[.bool false, .int .i64 0, .int .i64 0] 47)).drewN nq).setCell ⟨b, 5, none⟩ (.int .i64 ((used : Int) + 1))).cell? ⟨b, 1, none⟩ = some (.int .i64 ((used + (k + 1) : Nat) : Int)) := (World.cell?_setCell_other _ _ _ _ (offN (by omega))).trans ((hcb 1).trans h8)
    have q4 : (((w.alloc (Obj.cells #[.bool false, .int .i64 0, .int .i64 0] 47)).drewN nq).setCell ⟨b, 5, none⟩ (.int .i64 ((used : Int) + 1))).cell? ⟨b, 4, none⟩ = some (.slice (some ⟨r, 0, none⟩) 1 cap) := (World.cell?_setCell_other _ _ _ _ (offN (by omega))).trans ((hcb 4).trans h9)
    have q5 : (((w.alloc (Obj.cells #[.bool false, .int .i64 0, .int .i64 0] 47)).drewN nq).setCell ⟨b, 5, none⟩ (.int .i64 ((used : Int) + 1))).cell? ⟨b, 5, none⟩ = some (.int .i64 ((used : Int) + 1)) := World.cell?_setCell_same' _ _ _ (by rw [hcb 5, h10]; rfl)
    have qf : (((w.alloc (Obj.cells #[.bool false, .int .i64 0, .int .i64 0] 47)).drewN nq).setCell ⟨b, 5, none⟩ (.int .i64 ((used : Int) + 1))).frozen? ⟨b, 5, none⟩ = false := by
      rw [frozen_setCell]
      exact (World.frozen?_of_block (a := ⟨b, 5, none⟩) (((Fr.alloc [] w _).trans (Fr.drewN [] _ nq)).block b hblt (by simp))).trans h11
    have hk : (((w.alloc (Obj.cells #[.bool false, .int .i64 0, .int .i64 0] 47)).drewN nq).setCell ⟨b, 5, none⟩ (.int .i64 ((used : Int) + 1))).heap[w.heap.size]? = some (Obj.cells #[.bool false, .int .i64 0, .int .i64 0] 47) := (Below.heap_setCell _ _ _ _ (Nat.ne_of_gt hblt)).trans (heap_new _ _)
    have hsz : (((w.alloc (Obj.cells #[.bool false, .int .i64 0, .int .i64 0] 47)).drewN nq).setCell ⟨b, 5, none⟩ (.int .i64 ((used : Int) + 1))).heap.size = w.heap.size + 1 := by simp [World.setCell, World.drewN]
    clear hcb
    generalize ((w.alloc (Obj.cells #[.bool false, .int .i64 0, .int .i64 0] 47)).drewN nq).setCell ⟨b, 5, none⟩ (.int .i64 ((used : Int) + 1)) = W1 at *
    have hT1 := HT.out.fr hF0 (by simp [hBb]) (by simp [h2])
    have hG1 := HG.out.fr hF0 (fun c hc e => by simp at e; exact h5 (e ▸ hc))
    refine (ih base B t W1 _ g cs hG1 hT1 hBc hu).mono ?_
    rintro y W2 ⟨rfl, hT2, ⟨cs', hG2, hcs⟩, hF2⟩
    obtain ⟨q, kk, vv, hcl⟩ := clV_form (nextF n g t).c
    have hbn : b ∉ B :: cs := by simp [h5, Ne.symm hBb]
    have hrn : r ∉ B :: cs := by simp [h6, Ne.symm hBr]
    have hwn : w.heap.size ∉ B :: cs := fun e => by
      rcases List.mem_cons.1 e with e | e
      · omega
      · have := (HG.out.in_ _ e).2; omega
    have hkb := hF2.block b (by omega) hbn
    have hkr : W2.heap[r]? = w.heap[r]? := (hF2.block r (by omega) hrn).trans (hF0.block r hrlt (by simp [Ne.symm h4]))
    have hr2 := (hF2.block w.heap.size (by omega) hwn).trans hk
    obtain ⟨z0, z1, z2⟩ := blk3 hr2
    have f0 := frozen_of_row W2 w.heap.size 0 _ 47 hr2
    have f1 := frozen_of_row W2 w.heap.size 1 _ 47 hr2
    have f2 := frozen_of_row W2 w.heap.size 2 _ 47 hr2
    have hcs2 : ∀ c ∈ cs', c ≠ b ∧ c ≠ r ∧ c ≠ w.heap.size := fun c hc => by
      rcases hcs c hc with e | e
      · exact ⟨fun x => h5 (x ▸ e), fun x => h6 (x ▸ e), fun x => hwn (List.mem_cons_of_mem _ (x ▸ e))⟩
      · omega
    have HTold : Hid (∀ ok, (nextF n g t).c.isSome = ok → DnTold (n + 1) base B t w (.pointer (some ⟨b, 0, none⟩)) (.lim g (k + 1)) (b :: r :: cs) (.returned (.tuple #[.agg #[.bool q, .int .i64 kk, .int .i64 vv], .bool ok])) (set3 W2 w.heap.size (.bool q) (.int .i64 kk) (.int .i64 vv))) := fun ok hok => by
      refine dtold_set3 (bs := b :: r :: cs') HN.out hcl hok ((hF0.more (by simp)).trans (hF2.more (fun y hy => .inl (by simp at hy ⊢; rcases hy with e | e <;> simp [e])))) hT2 ?_ ?_ ?_ (Nat.le_refl _) hBlt
      · exact ⟨b, r, _, cap, cs', used + 1, rfl, rfl, h2, h3, h4, fun e => (hcs2 b e).1 rfl, fun e => (hcs2 r e).2.1 rfl, (World.cell?_of_block (a := ⟨b, 0, none⟩) hkb).trans q0, by rw [show used + 1 + k = used + (k + 1) by omega]; exact (World.cell?_of_block (a := ⟨b, 1, none⟩) hkb).trans q1, (World.cell?_of_block (a := ⟨b, 4, none⟩) hkb).trans q4, by rw [show ((used + 1 : Nat) : Int) = (used : Int) + 1 by omega]; exact (World.cell?_of_block (a := ⟨b, 5, none⟩) hkb).trans q5, (World.frozen?_of_block (a := ⟨b, 5, none⟩) hkb).trans qf, by omega, (World.cell?_of_block (a := ⟨r, 0, none⟩) hkr).trans h13, hG2⟩
      · intro x hx
        rcases List.mem_cons.1 hx with e | hx
        · exact .inl (by simp [e])
        rcases List.mem_cons.1 hx with e | hx
        · exact .inl (by simp [e])
        · rcases hcs x hx with e | e
          · exact .inl (by simp [e])
          · exact .inr (by omega)
      · intro e
        rcases List.mem_cons.1 e with e | e
        · omega
        rcases List.mem_cons.1 e with e | e
        · omega
        · exact (hcs2 _ e).2.2 rfl
    unfold clV
    rw [hcl]
    generalize hok : (nextF n g t).c.isSome = ok
    have HT3 := hideIt (HTold.out ok hok)
    clear HTold hok hF0 hF2 hT1 hT2 hG1 hG2 hcs hcs2 hcl hk hr2 hkb hkr q0 q1 q4 q5 qf
    go_wp2
    change bodyPost _ _ _ _ _ (set3 W2 w.heap.size (.bool q) (.int .i64 kk) (.int .i64 vv))
    refine bodyPost_ret (results_two rfl _ _ _ _ rfl (load_set3D z0 z1 z2)) rfl ?_
    exact HT3.out
end Go.Proofs.YthblokfiojccmaaGreatDoor.Gn
