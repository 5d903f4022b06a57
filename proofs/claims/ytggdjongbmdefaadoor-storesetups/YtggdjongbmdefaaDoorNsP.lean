/-
  The program's net, walked: Send.
-/
import Derived.Test.YtggdjongbmdefaaDoorNpM
namespace Go.Proofs.YtggdjongbmdefaaDoor
open Go.RowKit

/-- What Send tells. -/
def SendQ (base B o : Nat) (v : Value) (L : List Mq) (m : Mq) (w : World) (e : Ending) (w' : World) : Prop :=
  (500 ≤ L.length ∧ e = .returned (.iface 29 (.int .i64 4)) ∧ Below w.heap.size w w') ∨
  (L.length < 500 ∧ e = .returned .nilIface ∧ MailTold base B o v (L ++ [m]) w w')
theorem run_appM {w : World} {base B : Nat} {v : Value} {L : List Mq} {m : Mq} (hown : w.ownsRow base 47 3 v L.length (mqCs L)) (hB : w.heap[B]? = some (.cells #[.int .i64 m.fr, .int .i64 m.tt, .int .i64 m.wh] 47)) (hb : base ≤ w.heap.size) (hL : L.length < 500) (ty : TypeId) :
    ∃ v' w', (Builtin.append_ #[36, 36] ty #[v, .slice (some ⟨B, 0, none⟩) 1 1]).run Tryd.prog w = .ok v' w' ∧ w'.ownsRow base 47 3 v' (L ++ [m]).length (mqCs (L ++ [m])) ∧ w.grownBy w' v.ownBlock ∧ (v'.ownBlock = v.ownBlock ∨ v'.ownBlock = some w.heap.size) := by
  obtain ⟨i, hi, hz, hsz, hby⟩ := info_parts' infoMq
  have hnews : ∀ j u, (mqC m)[j]? = some u → w.cell? ((⟨B, 0, none⟩ : Addr).add j) = some u := by
    intro j u hj
    rw [Addr.add_lit, Nat.zero_add, cell_of_row _ _ _ _ 47 _ hB]
    rw [← hj]
    simp [mqC]
  obtain ⟨v', w', hr, ho, hg, _, hob⟩ := run_append_own_at (P := Tryd.prog) (w := w) base 36 ty 47 i _ 3 24 Tryd.underlying36 hi hz hsz hby rfl (by decide) v _ _ hown ⟨B, 0, none⟩ 1 1 (mqC m) rfl hnews (fun u => mqC_one) (by unfold maxLen; omega) (by omega) hb
  refine ⟨v', w', hr, ?_, hg, hob⟩
  rw [mqCs_app, mqCs_one, List.length_append]
  exact ho

set_option maxRecDepth 100000 in
set_option maxHeartbeats 4000000 in
theorem psend_any (m : Mq) (base B o : Nat) (lv v : Value) (L : List Mq) (w : World) (h : NetP w base B o lv v L) :
    Calls Tryd.prog 10 #[.pointer (some ⟨B, o, none⟩), .agg #[.int .i64 m.fr, .int .i64 m.tt, .int .i64 m.wh]] w fun e w' => SendQ base B o v L m w e w' := by
  have HN := hideIt h
  have hBl : B < w.heap.size := h.lt
  obtain ⟨va, vc, rfl⟩ := h.slice
  have c2' : (w.alloc (.cells #[.int .i64 m.fr, .int .i64 m.tt, .int .i64 m.wh] 47)).cell? ⟨B, o, none⟩ = some (.slice va L.length vc) := by
    rw [World.cell?_alloc_lt _ _ ⟨B, o, none⟩ hBl]; exact h.c0
  clear h
  by_cases hl : L.length < 500
  · have hl' : ¬ ((500 : Int) ≤ (L.length : Int)) := by omega
    have hl2 : decide ((L.length : Int) ≥ 500) = false := decide_eq_false (by omega)
    go_enter Tryd.func10, Tryd.ntmps10
    go_upto_region 3 with fail
    have HX := hideIt (blkMq (m := m) (heap_alloc_new w (.cells #[.int .i64 m.fr, .int .i64 m.tt, .int .i64 m.wh] 47)))
    have HT : Hid (∀ Z, Below (w.alloc (.cells #[.int .i64 m.fr, .int .i64 m.tt, .int .i64 m.wh] 47)).heap.size (w.alloc (.cells #[.int .i64 m.fr, .int .i64 m.tt, .int .i64 m.wh] 47)) Z → Z.cell? ⟨B, o, none⟩ = some (.slice va L.length vc)) := fun Z hZ => (hZ.cell (p := ⟨B, o, none⟩) (by simp; omega)).trans c2'
    have HU : Hid (∀ Z, Below (w.alloc (.cells #[.int .i64 m.fr, .int .i64 m.tt, .int .i64 m.wh] 47)).heap.size (w.alloc (.cells #[.int .i64 m.fr, .int .i64 m.tt, .int .i64 m.wh] 47)) Z → Z.cell? ⟨w.heap.size, 0, none⟩ = some (.int .i64 m.fr) ∧ Z.cell? ⟨w.heap.size, 1, none⟩ = some (.int .i64 m.tt) ∧ Z.cell? ⟨w.heap.size, 2, none⟩ = some (.int .i64 m.wh)) := fun Z hZ => blkMq ((hZ.block w.heap.size (by simp)).trans (heap_alloc_new w _))
    have HA : Hid (Below w.heap.size w (w.alloc (.cells #[.int .i64 m.fr, .int .i64 m.tt, .int .i64 m.wh] 47))) := belA (Below.refl _ _) _
    have hsz : (w.alloc (.cells #[.int .i64 m.fr, .int .i64 m.tt, .int .i64 m.wh] 47)).heap.size = w.heap.size + 1 := by simp
    have HSz := hideIt hsz
    clear hsz HX c2'
    generalize w.alloc (.cells #[.int .i64 m.fr, .int .i64 m.tt, .int .i64 m.wh] 47) = W1 at *
    refine wp_region_L (B := [7, 10]) (S := fun _ => True) (T := fun Z => Below W1.heap.size W1 Z) (by kernel_rfl) ⟨trivial, (Below.refl _ _).drew⟩ (fun hHeld => ?_)
    refine wpAnyL_takeS (i := 0) (v := ?_) rfl (by kernel_rfl) (by kernel_rfl) (by kernel_rfl) (by kernel_rfl) (fun _ _ _ h => h) (Or.inl ⟨by rfl, ?_⟩) (by assumption) ?_
    rotate_left 1
    · intro wz _
      go_simp
      all_goals with_reducible rfl
    simp only [Act.put, List.setIfInBounds_toArray, List.set_cons_zero, List.set_cons_succ, List.getElem_toArray, List.getElem_cons_zero]
    refine wpAnyL_takeS (i := 1) (v := ?_) rfl (by kernel_rfl) (by kernel_rfl) (by kernel_rfl) (by kernel_rfl) (fun _ _ _ h => h) (Or.inl ⟨by rfl, ?_⟩) (by assumption) ?_
    rotate_left 1
    · intro wz _
      go_simp
      all_goals with_reducible rfl
    simp only [Act.put, List.setIfInBounds_toArray, List.set_cons_zero, List.set_cons_succ, List.getElem_toArray, List.getElem_cons_zero, List.getElem_cons_succ]
    refine wpAnyL_takeS (i := 2) (v := ?_) rfl (by kernel_rfl) (by kernel_rfl) (by kernel_rfl) (by kernel_rfl) (fun _ _ _ h => h) (Or.inl ⟨by rfl, ?_⟩) (by assumption) ?_
    rotate_left 1
    · intro wz _
      go_simp
      all_goals with_reducible rfl
    simp only [Act.put, List.setIfInBounds_toArray, List.set_cons_zero, List.set_cons_succ, List.getElem_toArray, List.getElem_cons_zero, List.getElem_cons_succ]
    refine wpAnyL_takeS (i := 3) (v := ?_) rfl (by kernel_rfl) (by kernel_rfl) (by kernel_rfl) (by kernel_rfl) (fun _ _ _ h => h) (Or.inl ⟨by rfl, ?_⟩) (by assumption) ?_
    rotate_left 1
    · intro wz _
      go_simp
      all_goals with_reducible rfl
    simp only [Act.put, List.setIfInBounds_toArray, List.set_cons_zero, List.set_cons_succ, List.getElem_toArray, List.getElem_cons_zero, List.getElem_cons_succ]
    refine wpAnyL_take [7, 8, 9, 10] (i := 4) (v := ?_) rfl (by kernel_rfl) (by kernel_rfl) (by kernel_rfl) (by kernel_rfl) (fun _ _ _ h => h) (Or.inl ⟨by rfl, ?_⟩) (by assumption) ?_
    rotate_left 1
    · intro wz sb
      have y0 := HT.out wz sb.2
      go_simp
      all_goals with_reducible rfl
    simp only [Act.put, List.setIfInBounds_toArray, List.set_cons_zero, List.set_cons_succ, List.getElem_toArray, List.getElem_cons_zero, List.getElem_cons_succ]
    refine wpAnyL_take [6, 7, 8, 9, 10] (i := 5) (v := ?_) rfl (by kernel_rfl) (by kernel_rfl) (by kernel_rfl) (by kernel_rfl) (fun _ _ _ h => h) (Or.inl ⟨by rfl, ?_⟩) (by assumption) ?_
    rotate_left 1
    · intro wz sb
      obtain ⟨y0, y1, y2⟩ := HU.out wz sb.2
      go_simp
      all_goals with_reducible rfl
    simp only [Act.put, List.setIfInBounds_toArray, List.set_cons_zero, List.set_cons_succ, List.getElem_toArray, List.getElem_cons_zero, List.getElem_cons_succ]
    generalize W1.drew = Y0 at hHeld ⊢
    refine wpAnyL_ready (rs := [6]) (by kernel_rfl) (by simp) (AllReadyL.cons rfl (fun K hK => ?_) AllReadyL.nil)
    go_simp
    have hb1 : Below W1.heap.size W1 (Y0.alloc (.cells #[.int .i64 m.fr, .int .i64 m.tt, .int .i64 m.wh] 47)) := hHeld.2.alloc hHeld.2.size _
    have hnew := heap_alloc_new Y0 (.cells #[.int .i64 m.fr, .int .i64 m.tt, .int .i64 m.wh] 47)
    refine hK.out _ _ ⟨trivial, hb1⟩ (fun hHeld2 => ?_)
    clear hK K hb1
    have hY0 := hHeld.2.size
    have hHb := belJ HA.out hHeld2.2
    generalize Y0.alloc (.cells #[.int .i64 m.fr, .int .i64 m.tt, .int .i64 m.wh] 47) = Y1 at *
    have hP := HN.out.below hHb
    obtain ⟨v', w6, hr, ho, hg, hob⟩ := run_appM (m := m) hP.row hnew hP.lo hl 36
    refine wpAnyL_ready (rs := [7]) (by kernel_rfl) (by simp) (AllReadyL.last rfl (by kernel_rfl) (fun K hK => ?_) AllReadyL.nil)
    refine step_append_run (by rfl) _ _ 36 rfl _ _ v' w6 rfl rfl hr ?_
    obtain ⟨a6, cap6, rfl⟩ := ownsRow_slice ho
    simp only [Act.put, List.setIfInBounds_toArray]
    have eB : w6.heap[B]? = Y1.heap[B]? := hg.block B (Nat.lt_of_lt_of_le hBl hHb.size) (fun e => HN.out.ne e.symm)
    have c6 : w6.cell? ⟨B, o, none⟩ = some (.slice va L.length vc) := (World.cell?_of_block (a := ⟨B, o, none⟩) eB).trans hP.c0
    have f6 : w6.frozen? ⟨B, o, none⟩ = false := (World.frozen?_of_block (a := ⟨B, o, none⟩) eB).trans hP.f0
    have HG : Hid (MailTold base B o (.slice va L.length vc) (L ++ [m]) w (w6.setCell ⟨B, o, none⟩ (.slice a6 (L.length + 1) cap6))) :=
      (by rw [show L.length + 1 = (L ++ [m]).length by simp]; exact ⟨_, MailT.of HN.out (((grown_below hHb).but _).trans hg) ho (hob.imp id fun e => ⟨_, e, hHb.size⟩)⟩)
    refine hK.out _ _ trivial (fun _ => ?_)
    clear hK K hr ho hg hob hP hHb hHeld hHeld2 hnew eB HT HU HA HSz
    refine wpAnyL_takeE (i := 8) (v := ?_) rfl (by kernel_rfl) (by kernel_rfl) (by kernel_rfl) (by kernel_rfl) (by kernel_rfl) (fun _ _ _ h => h) (Or.inl ⟨by rfl, ?_⟩) (by assumption) ?_
    rotate_left 1
    · intro wz _
      go_simp
      all_goals with_reducible rfl
    simp only [Act.put, List.setIfInBounds_toArray, List.set_cons_zero, List.set_cons_succ, List.getElem_toArray, List.getElem_cons_zero, List.getElem_cons_succ]
    refine wpAnyL_takeE (i := 9) (v := ?_) rfl (by kernel_rfl) (by kernel_rfl) (by kernel_rfl) (by kernel_rfl) (by kernel_rfl) (fun _ _ _ h => h) (Or.inl ⟨by rfl, ?_⟩) (by assumption) ?_
    rotate_left 1
    · intro wz _
      go_simp
      all_goals with_reducible rfl
    simp only [Act.put, List.setIfInBounds_toArray, List.set_cons_zero, List.set_cons_succ, List.getElem_toArray, List.getElem_cons_zero, List.getElem_cons_succ]
    refine wpAnyL_ready (rs := [10]) (by kernel_rfl) (by simp) (AllReadyL.last rfl (by kernel_rfl) (fun K hK => ?_) AllReadyL.nil)
    go_simp
    refine hK.out _ _ trivial (fun _ => ?_)
    clear hK K
    refine wpAnyL_done (by kernel_rfl) ?_ _
    go_wp2
    go_ret
    exact .inr ⟨hl, rfl, HG.out⟩
  · have hl' : ((500 : Int) ≤ (L.length : Int)) := by omega
    have hl2 : decide ((L.length : Int) ≥ 500) = true := decide_eq_true (by omega)
    go_enter Tryd.func10, Tryd.ntmps10
    go_wp2
    go_ret
    exact .inl ⟨by omega, rfl, belA (Below.refl _ w) _⟩
end Go.Proofs.YtggdjongbmdefaaDoor
