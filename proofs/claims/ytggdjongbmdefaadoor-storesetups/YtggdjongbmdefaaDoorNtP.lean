/-
  The program's net, walked: Take.
-/
import Derived.Test.YtggdjongbmdefaaDoorNaPZ
import Derived.Test.YtggdjongbmdefaaDoorNlP
namespace Go.Proofs.YtggdjongbmdefaaDoor
open Go.RowKit

/-- What Take tells. -/
def TakeQ (base B o : Nat) (v : Value) (L : List Mq) (nil : Bool) (M : List (List Bool)) (i : Int) (w : World) (e : Ending) (w' : World) : Prop :=
  ((i < 0 ∨ (L.length : Int) ≤ i) ∧ e = .returned (.tuple #[mqV mq0, .iface 29 (.int .i64 8)]) ∧ Below w.heap.size w w') ∨
  (∃ (k : Nat) (m : Mq), i = k ∧ L[k]? = some m ∧ letL nil M m.fr m.tt = false ∧ e = .returned (.tuple #[mqV mq0, .iface 29 (.int .i64 6)]) ∧ Below w.heap.size w w') ∨
  (∃ (k : Nat) (m : Mq), i = k ∧ L[k]? = some m ∧ letL nil M m.fr m.tt = true ∧ e = .returned (.tuple #[mqV m, .nilIface]) ∧ MailTold base B o v (L.eraseIdx k) w w')
theorem setMq_rest {W : World} {b : Nat} (y0 y1 y2 : Value) {g : Nat} (hg : g ≠ b) : ((((W).setCell ⟨b, 0, none⟩ (y0)).setCell ⟨b, 1, none⟩ (y1)).setCell ⟨b, 2, none⟩ (y2)).heap[g]? = W.heap[g]? := by
  rw [Below.heap_setCell _ _ _ g hg, Below.heap_setCell _ _ _ g hg, Below.heap_setCell _ _ _ g hg]
theorem setMq_size (W : World) (b : Nat) (y0 y1 y2 : Value) : ((((W).setCell ⟨b, 0, none⟩ (y0)).setCell ⟨b, 1, none⟩ (y1)).setCell ⟨b, 2, none⟩ (y2)).heap.size = W.heap.size := by simp

set_option maxRecDepth 100000 in
set_option maxHeartbeats 8000000 in
theorem ptake_any (i : Int) (base B o : Nat) (lv v : Value) (L : List Mq) (hL : L.length ≤ 500) (X : Nat → Prop) (nil : Bool) (M : List (List Bool)) (w : World) (h : NetP w base B o lv v L) (hM : LnkN w X lv nil M) :
    Calls Tryd.prog 12 #[.pointer (some ⟨B, o, none⟩), .int .i64 i] w fun e w' => TakeQ base B o v L nil M i w e w' := by
  have HN := hideIt h
  have HM := hideIt hM
  have HB0 := hideIt (belA (Below.refl _ w) (.cells #[.int .i64 0, .int .i64 0, .int .i64 0] 47))
  have HA := hideIt (pat_any i base B o lv v L _ (h.below HB0.out))
  have HV : Hid ((w.alloc (.cells #[.int .i64 0, .int .i64 0, .int .i64 0] 47)).heap[w.heap.size]? = some (.cells #[.int .i64 0, .int .i64 0, .int .i64 0] 47 (0, 0))) := heap_alloc_new w _
  have hsV : (w.alloc (.cells #[.int .i64 0, .int .i64 0, .int .i64 0] 47)).heap.size = w.heap.size + 1 := by simp
  have HSV := hideIt hsV
  have hBl := h.lt
  clear h hM hsV
  go_enter Tryd.func12, Tryd.ntmps12
  go_upto_region 1 with fail
  generalize w.alloc (.cells #[.int .i64 0, .int .i64 0, .int .i64 0] 47) = V at *
  go_wp2_with fail
  refine HA.out.mono ?_
  clear HA
  rintro e W1 ⟨(⟨hi, rfl⟩ | ⟨k, m, rfl, hm, rfl⟩), hb⟩
  · have HI := hideIt hi
    have HV1 : Hid ((W1.alloc (.cells #[.int .i64 0, .int .i64 0, .int .i64 0] 47)).heap[w.heap.size]? = some (.cells #[.int .i64 0, .int .i64 0, .int .i64 0] 47 (0, 0))) := by
      have h1 : W1.heap[w.heap.size]? = _ := (hb.block w.heap.size (by have := HSV.out; omega)).trans HV.out
      exact (Below.heap_alloc W1 _ w.heap.size (lt_of_heap h1)).trans h1
    have HB := hideIt (belA (belJ HB0.out hb) (.cells #[.int .i64 0, .int .i64 0, .int .i64 0] 47))
    have hmz : (mqV mq0) = .agg #[.int .i64 0, .int .i64 0, .int .i64 0] := rfl
    rw [hmz]
    clear hi hb hmz
    obtain ⟨z0, z1, z2⟩ := blkMq (m := mq0) HV1.out
    have fz := fun j => frozen_of_row (W1.alloc (.cells #[.int .i64 0, .int .i64 0, .int .i64 0] 47)) w.heap.size j _ 47 HV1.out
    unfold mq0 at z0 z1 z2
    go_wp2
    exact bodyPost_ret (results_cell2 rfl _ _ _ _ rfl (loadMq (m := mq0) (blkMq (m := mq0) (setMq HV1.out)))) rfl (.inl ⟨HI.out, rfl, setMq_bel _ _ _ HB.out (Nat.le_refl _)⟩)
  · have HMm := hideIt hm
    have hk : k < L.length := (List.getElem?_eq_some_iff.1 hm).1
    have HV1 : Hid ((W1.alloc (.cells #[.int .i64 m.fr, .int .i64 m.tt, .int .i64 m.wh] 47)).heap[w.heap.size]? = some (.cells #[.int .i64 0, .int .i64 0, .int .i64 0] 47 (0, 0))) := by
      have h1 : W1.heap[w.heap.size]? = _ := (hb.block w.heap.size (by have := HSV.out; omega)).trans HV.out
      exact (Below.heap_alloc W1 _ w.heap.size (lt_of_heap h1)).trans h1
    have HMb : Hid ((W1.alloc (.cells #[.int .i64 m.fr, .int .i64 m.tt, .int .i64 m.wh] 47)).heap[W1.heap.size]? = some (.cells #[.int .i64 m.fr, .int .i64 m.tt, .int .i64 m.wh] 47 (0, 0))) := heap_alloc_new W1 _
    have HB := hideIt (belA (belJ HB0.out hb) (.cells #[.int .i64 m.fr, .int .i64 m.tt, .int .i64 m.wh] 47))
    have hrs : w.heap.size < W1.heap.size := by have h1 := hb.size; have h2 := HSV.out; omega
    clear hb hm HV HB0 HSV
    unfold mqV
    go_wp2_with fail
    generalize W1.alloc (.cells #[.int .i64 m.fr, .int .i64 m.tt, .int .i64 m.wh] 47) = W2 at *
    have hP := HN.out.below HB.out
    have HP := hideIt hP
    have c1 := hP.c1
    obtain ⟨y0, y1, y2⟩ := blkMq (m := m) HMb.out
    have HC := hideIt (fun q : Nat => plet_any m.fr m.tt X lv nil M (W2.drewN q) (HM.out.below (below_drewN HB.out q)))
    clear hP
    generalize hle : letL nil M m.fr m.tt = le at *
    have HLe := hideIt hle
    clear hle
    cases le
    · go_quiet ((go_at_call 31; exact Calls.quiet_of_same (HC.out _)))
      generalize hV3 : W2.drewN _ = V3
      have HV3 : Hid (V3.heap[w.heap.size]? = some (.cells #[.int .i64 0, .int .i64 0, .int .i64 0] 47 (0, 0))) := by rw [← hV3]; exact HV1.out
      have HB3 : Hid (Below w.heap.size w V3) := by rw [← hV3]; exact below_drewN HB.out _
      clear hV3 c1 y0 y1 y2 HC
      obtain ⟨z0, z1, z2⟩ := blkMq (m := mq0) HV3.out
      have fz := fun j => frozen_of_row V3 w.heap.size j _ 47 HV3.out
      unfold mq0 at z0 z1 z2
      go_wp2
      exact bodyPost_ret (results_cell2 rfl _ _ _ _ rfl (loadMq (m := mq0) (blkMq (m := mq0) (setMq HV3.out)))) rfl (.inr (.inl ⟨k, m, rfl, HMm.out, HLe.out, rfl, setMq_bel _ _ _ HB3.out (Nat.le_refl _)⟩))
    · go_quiet ((go_at_call 31; exact Calls.quiet_of_same (HC.out _)))
      go_wp2_with fail
      generalize hV3 : W2.drewN _ = V3
      have HV3 : Hid (V3.heap[w.heap.size]? = some (.cells #[.int .i64 0, .int .i64 0, .int .i64 0] 47 (0, 0))) := by rw [← hV3]; exact HV1.out
      have HM3 : Hid (V3.heap[W1.heap.size]? = some (.cells #[.int .i64 m.fr, .int .i64 m.tt, .int .i64 m.wh] 47 (0, 0))) := by rw [← hV3]; exact HMb.out
      have HB3 : Hid (Below w.heap.size w V3) := by rw [← hV3]; exact below_drewN HB.out _
      clear hV3 c1 y0 y1 y2 HC HB HP HV1 HMb
      have HY : Hid (∀ Z : World, Z.heap[W1.heap.size]? = V3.heap[W1.heap.size]? → Z.cell? ⟨W1.heap.size, 0, none⟩ = some (.int .i64 m.fr) ∧ Z.cell? ⟨W1.heap.size, 1, none⟩ = some (.int .i64 m.tt) ∧ Z.cell? ⟨W1.heap.size, 2, none⟩ = some (.int .i64 m.wh)) := fun Z hZ => blkMq (hZ.trans HM3.out)
      refine wp_region_held_drew (S := fun Z => Z.heap[W1.heap.size]? = V3.heap[W1.heap.size]?) (by kernel_rfl) rfl (fun hHeld => ?_)
      refine wpAnyH_take (i := 0) (v := ?_) rfl (by kernel_rfl) (by kernel_rfl) (by kernel_rfl) (fun _ _ _ h => h) (Or.inl ⟨by rfl, ?_⟩) (by assumption) ?_
      rotate_left 1
      · intro wz sb
        obtain ⟨y0, y1, y2⟩ := HY.out wz sb
        go_simp
        all_goals with_reducible rfl
      simp only [Act.put, List.setIfInBounds_toArray, List.set_cons_zero, List.set_cons_succ, List.getElem_toArray, List.getElem_cons_zero]
      refine wpAnyH_take (i := 1) (v := ?_) rfl (by kernel_rfl) (by kernel_rfl) (by kernel_rfl) (fun _ _ _ h => h) (Or.inl ⟨by rfl, ?_⟩) (by assumption) ?_
      rotate_left 1
      · intro wz _
        go_simp
        all_goals with_reducible rfl
      simp only [Act.put, List.setIfInBounds_toArray, List.set_cons_zero, List.set_cons_succ, List.getElem_toArray, List.getElem_cons_zero, List.getElem_cons_succ]
      refine wpAnyH_take (i := 2) (v := ?_) rfl (by kernel_rfl) (by kernel_rfl) (by kernel_rfl) (fun _ _ _ h => h) (Or.inl ⟨by rfl, ?_⟩) (by assumption) ?_
      rotate_left 1
      · intro wz _
        go_simp
        all_goals with_reducible rfl
      simp only [Act.put, List.setIfInBounds_toArray, List.set_cons_zero, List.set_cons_succ, List.getElem_toArray, List.getElem_cons_zero, List.getElem_cons_succ]
      have HBd : Hid (Below w.heap.size w V3.drew) := HB3.out.trans ⟨rfl, rfl, rfl, Nat.le_refl _, fun _ _ => rfl⟩
      have HDr := hideIt (pdrop_any (k : Int) base B o lv v L hL V3.drew (HN.out.below HBd.out))
      have hv3 : W1.heap.size < V3.drew.heap.size := lt_of_heap HM3.out
      have HVd : Hid (V3.drew.heap[w.heap.size]? = some (.cells #[.int .i64 0, .int .i64 0, .int .i64 0] 47 (0, 0))) := HV3.out
      have HMd : Hid (V3.drew.heap[W1.heap.size]? = V3.heap[W1.heap.size]?) := rfl
      generalize V3.drew = Y0 at *
      refine wpAnyH_ready (rs := [3]) (by kernel_rfl) (by simp) (AllReadyH.cons rfl (fun K hK => ?_) AllReadyH.nil)
      go_simp
      refine HDr.out.mono ?_
      clear HDr
      rintro e W4 (⟨hbad, _⟩ | ⟨k', m', hkk, hm', rfl, v', ht⟩)
      · omega
      obtain rfl : k = k' := by omega
      have hvo : ∀ b, v.ownBlock = some b → b < w.heap.size := fun b hb => (ownsRow_block HN.out.row b hb).2.1
      have hE1 : W4.heap[W1.heap.size]? = V3.heap[W1.heap.size]? := (ht.rest _ hv3 (by omega) (fun e => by have := hvo _ e; omega)).trans HMd.out
      have hE2 : W4.heap[w.heap.size]? = some (.cells #[.int .i64 0, .int .i64 0, .int .i64 0] 47 (0, 0)) := (ht.rest _ (by omega) (by omega) (fun e => by have := hvo _ e; omega)).trans HVd.out
      have HT : Hid (MailT base B o v (L.eraseIdx k) w W4 v') := ht.pre HN.out HBd.out
      have HO : Hid (v'.ownBlock ≠ some w.heap.size) := by
        show _ ≠ _
        rcases ht.own with e | ⟨b, e, hb⟩
        · rw [e]; intro e'; have := hvo _ e'; omega
        · rw [e]; intro e'; cases e'; omega
      have HE2 := hideIt hE2
      refine hK.out _ _ hE1 (fun hHeld => ?_)
      clear hK K ht hE1 hE2 hvo
      obtain ⟨z0, z1, z2⟩ := blkMq (m := mq0) HE2.out
      have fz := fun j => frozen_of_row W4 w.heap.size j _ 47 HE2.out
      unfold mq0 at z0 z1 z2
      refine wpAnyH_ready (rs := [4]) (by kernel_rfl) (by simp) (AllReadyH.cons rfl (fun K hK => ?_) AllReadyH.nil)
      go_simp
      refine hK.out _ _ ((setMq_rest _ _ _ (by omega)).trans hHeld) (fun hHeld => ?_)
      clear hK K
      refine wpAnyH_take (i := 5) (v := ?_) rfl (by kernel_rfl) (by kernel_rfl) (by kernel_rfl) (fun _ _ _ h => h) (Or.inl ⟨by rfl, ?_⟩) (by assumption) ?_
      rotate_left 1
      · intro wz _
        go_simp
        all_goals with_reducible rfl
      simp only [Act.put, List.setIfInBounds_toArray, List.set_cons_zero, List.set_cons_succ, List.getElem_toArray, List.getElem_cons_zero, List.getElem_cons_succ]
      refine wpAnyH_done (by kernel_rfl) ?_ _
      go_wp2
      refine bodyPost_ret (results_cell2 rfl _ _ _ _ rfl (loadMq (m := m) (blkMq (m := m) (setMq HE2.out)))) rfl (.inr (.inr ⟨k, m, rfl, HMm.out, HLe.out, rfl, v', HT.out.past HN.out (fun b hb => setMq_rest _ _ _ ?_) (by rw [setMq_size]; exact Nat.le_refl _) rfl rfl rfl⟩))
      rcases hb with hb | hb
      · omega
      · intro e; exact HO.out (by rw [hb, e])
end Go.Proofs.YtggdjongbmdefaaDoor
