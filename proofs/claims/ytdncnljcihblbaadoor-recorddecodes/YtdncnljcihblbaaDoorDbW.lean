/-
  The statement RecordDecodes: walked.
-/
import Derived.Test.YtdncnljcihblbaaDoorDDe
import Derived.Test.YtdncnljcihblbaaDoorJaW
namespace Go.Proofs.YtdncnljcihblbaaDoor
open Go.RowKit

theorem toldT : toldV 3 = .iface 28 (.int .i64 3) := by simp [toldV]

set_option maxHeartbeats 4000000 in
set_option maxRecDepth 100000 in
theorem decodes_any (v : Value) (l : List Nat) (w : World) (hq : ByQ w v l) (hG : GlE w) :
    Calls Tryd.prog 4 #[v] w fun r w' => r = .returned (.bool true) ∧ Below w.heap.size w w' := by
  have HQ := hideIt hq
  have HG := hideIt hG
  obtain ⟨a, c, rfl⟩ := hq.form
  clear hq hG
  by_cases h100 : l.length ≤ 100
  · have h100' : ¬ (100 : Int) < (l.length : Int) := by omega
    have HD := hideIt (fun W (h : ByQ W (.slice a l.length c) l) => decode_any (.slice a l.length c) l W h (by omega))
    have HR := hideIt (fun W (h : ByQ W (.slice a l.length c) l) => refDecode_any (.slice a l.length c) l W h (by omega))
    unfold decV at HD
    unfold decDV at HR
    cases hd : decL l with
    | none =>
      rw [hd] at HD HR
      simp only [zeroE, Ev.agg] at HD HR
      have HBa := hideIt (fun W (hg : GlE W) => bare_any 3 W hg)
      rw [toldT] at HBa
      clear hd
      go_enter Tryd.func4, Tryd.ntmps4
      go_wp2_with fail
      refine (HD.out _ HQ.out).mono ?_
      rintro x w1 ⟨rfl, hb1⟩
      have HB1 := hideIt hb1
      have HV1 := hideIt (ev7_new w1 ⟨0, 0, 0, 0, 0, 0, 0⟩ 23)
      clear hb1
      go_wp2_with fail
      refine (HR.out _ (HQ.out.below (below_alloc HB1.out _))).mono ?_
      rintro x w2 ⟨rfl, hb2⟩
      have HB2 := hideIt (below_join (below_alloc HB1.out _) hb2)
      have HV2 := hideIt (HV1.out.low hb2)
      clear hb2
      go_wp2_with fail
      refine (HBa.out _ (HG.out.below (below_alloc HB2.out _))).mono ?_
      rintro x w3 ⟨rfl, hb3⟩
      have HB3 := hideIt (below_join (below_alloc HB2.out _) hb3)
      obtain ⟨q0, q1, q2, q3, q4, q5, q6, qlt⟩ := (HV2.out.low (below_alloc (Below.refl _ _) _)).low hb3
      clear hb3
      go_wp2
      go_ret
      exact ⟨rfl, HB3.out⟩
    | some e =>
      rw [hd] at HD HR
      obtain ⟨p, t, k, d, na, nb, nr⟩ := e
      simp only [Ev.agg] at HD HR
      clear hd
      go_enter Tryd.func4, Tryd.ntmps4
      go_wp2_with fail
      refine (HD.out _ HQ.out).mono ?_
      rintro x w1 ⟨rfl, hb1⟩
      have HB1 := hideIt hb1
      have HV1 := hideIt (ev7_new w1 ⟨p, t, k, d, na, nb, nr⟩ 23)
      clear hb1
      go_wp2_with fail
      refine (HR.out _ (HQ.out.below (below_alloc HB1.out _))).mono ?_
      rintro x w2 ⟨rfl, hb2⟩
      have HB2 := hideIt (below_join (below_alloc HB1.out _) hb2)
      have HV2 := hideIt (HV1.out.low hb2)
      clear hb2
      go_wp2_with fail
      obtain ⟨W3, hW3⟩ : ∃ W3, W3 = w2.alloc (.cells #[.int .i64 p, .int .i64 t, .int .i64 k, .int .i64 d, .int .i64 na, .int .i64 nb, .int .i64 nr] 24) := ⟨_, rfl⟩
      rw [← hW3]
      have HB3 : Hid (Below w.heap.size w W3) := by rw [hW3]; exact below_alloc HB2.out _
      have HV3 : Hid (Ev7 W3 w1.heap.size ⟨p, t, k, d, na, nb, nr⟩) := by rw [hW3]; exact HV2.out.low (below_alloc (Below.refl _ _) _)
      have HD3 : Hid (Ev7 W3 w2.heap.size ⟨p, t, k, d, na, nb, nr⟩) := by rw [hW3]; exact ev7_new w2 ⟨p, t, k, d, na, nb, nr⟩ _
      clear hW3
      refine wp_region_held_drew (S := fun W => Below W3.heap.size W3 W) (by kernel_rfl) (below_drewN (Below.refl _ _) 1) (fun hHeld => ?_)
      refine wpAnyH_take (i := 0) (v := ?_) rfl (by kernel_rfl) (by kernel_rfl) (by kernel_rfl) (fun _ _ _ h => h) (Or.inl ⟨by rfl, ?_⟩) (by assumption) ?_
      rotate_left 1
      · intro wz hwz
        go_simp
        all_goals with_reducible rfl
      simp only [Act.put, List.setIfInBounds_toArray, List.set_cons_zero, List.set_cons_succ, List.getElem_toArray, List.getElem_cons_zero]
      refine wpAnyH_take (i := 1) (v := ?_) rfl (by kernel_rfl) (by kernel_rfl) (by kernel_rfl) (fun _ _ _ h => h) (Or.inl ⟨by rfl, ?_⟩) (by assumption) ?_
      rotate_left 1
      · intro wz hwz
        go_simp
        all_goals with_reducible rfl
      simp only [Act.put, List.setIfInBounds_toArray, List.set_cons_zero, List.set_cons_succ, List.getElem_toArray, List.getElem_cons_zero, List.getElem_cons_succ]
      refine wpAnyH_take (i := 2) (v := ?_) rfl (by kernel_rfl) (by kernel_rfl) (by kernel_rfl) (fun _ _ _ h => h) (Or.inl ⟨by rfl, ?_⟩) (by assumption) ?_
      rotate_left 1
      · intro wz hwz
        go_simp
        all_goals with_reducible rfl
      simp only [Act.put, List.setIfInBounds_toArray, List.set_cons_zero, List.set_cons_succ, List.getElem_toArray, List.getElem_cons_zero, List.getElem_cons_succ]
      refine wpAnyH_take (i := 3) (v := ?_) rfl (by kernel_rfl) (by kernel_rfl) (by kernel_rfl) (fun _ _ _ h => h) (Or.inl ⟨by rfl, ?_⟩) (by assumption) ?_
      rotate_left 1
      · intro wz hwz
        obtain ⟨q0, q1, q2, q3, q4, q5, q6, _⟩ := HV3.out.low hwz
        go_simp
        all_goals with_reducible rfl
      simp only [Act.put, List.setIfInBounds_toArray, List.set_cons_zero, List.set_cons_succ, List.getElem_toArray, List.getElem_cons_zero, List.getElem_cons_succ]
      refine wpAnyH_take (i := 8) (v := ?_) rfl (by kernel_rfl) (by kernel_rfl) (by kernel_rfl) (fun _ _ _ h => h) (Or.inl ⟨by rfl, ?_⟩) (by assumption) ?_
      rotate_left 1
      · intro wz hwz
        obtain ⟨q0, q1, q2, q3, q4, q5, q6, _⟩ := HD3.out.low hwz
        go_simp
        all_goals with_reducible rfl
      simp only [Act.put, List.setIfInBounds_toArray, List.set_cons_zero, List.set_cons_succ, List.getElem_toArray, List.getElem_cons_zero, List.getElem_cons_succ]
      refine wpAnyH_ready (rs := [4]) (by kernel_rfl) (by simp) (AllReadyH.cons rfl (fun K hK => ?_) AllReadyH.nil)
      go_simp
      refine hK.out _ _ ?_ (fun hHeld => ?_)
      · exact below_alloc (below_drewN (Below.refl W3.heap.size W3) 1) _
      clear hK K
      refine wpAnyH_ready (rs := [5]) (by kernel_rfl) (by simp) (AllReadyH.cons rfl (fun K hK => ?_) AllReadyH.nil)
      go_simp
      refine (events_one ⟨p, t, k, d, na, nb, nr⟩ W3.heap.size 1 _ ((ev7_new W3 ⟨p, t, k, d, na, nb, nr⟩ 23).low (below_drewN (Below.refl _ _) 1)) (Nat.le_refl _)).mono ?_
      rintro x w4 ⟨g4, c4, rfl, hv4, hb4, hg4⟩
      have hb34 : Below W3.heap.size W3 w4 := below_join (below_drewN (below_alloc (Below.refl _ _) _) 1) hb4
      have HV4 := hideIt hv4
      have HB4 := hideIt hb34
      clear hb4 hv4
      refine hK.out _ _ ?_ (fun hHeld => ?_)
      · exact hb34
      clear hK K
      refine wpAnyH_more (S' := fun W => Below w4.heap.size w4 W) (fun W h => below_join HB4.out h) _ _ _ _ ?_
      have hH4 := Below.refl w4.heap.size w4
      clear hHeld
      refine wpAnyH_take (i := 6) (v := ?_) rfl (by kernel_rfl) (by kernel_rfl) (by kernel_rfl) (fun _ _ _ h => h) (Or.inl ⟨by rfl, ?_⟩) (by assumption) ?_
      rotate_left 1
      · intro wz hwz
        go_simp
        all_goals with_reducible rfl
      simp only [Act.put, List.setIfInBounds_toArray, List.set_cons_zero, List.set_cons_succ, List.getElem_toArray, List.getElem_cons_zero, List.getElem_cons_succ]
      refine wpAnyH_take (i := 7) (v := ?_) rfl (by kernel_rfl) (by kernel_rfl) (by kernel_rfl) (fun _ _ _ h => h) (Or.inl ⟨by rfl, ?_⟩) (by assumption) ?_
      rotate_left 1
      · intro wz hwz
        obtain ⟨q0, q1, q2, q3, q4, q5, q6, _⟩ := HV4.out.low hwz
        go_simp
        all_goals with_reducible rfl
      simp only [Act.put, List.setIfInBounds_toArray, List.set_cons_zero, List.set_cons_succ, List.getElem_toArray, List.getElem_cons_zero, List.getElem_cons_succ]
      refine wpAnyH_take (i := 9) (v := ?_) rfl (by kernel_rfl) (by kernel_rfl) (by kernel_rfl) (fun _ _ _ h => h) (Or.inl ⟨by rfl, ?_⟩) (by assumption) ?_
      rotate_left 1
      · intro wz hwz
        go_simp
        all_goals with_reducible rfl
      simp only [Act.put, List.setIfInBounds_toArray, List.set_cons_zero, List.set_cons_succ, List.getElem_toArray, List.getElem_cons_zero, List.getElem_cons_succ]
      refine wpAnyH_take (i := 10) (v := ?_) rfl (by kernel_rfl) (by kernel_rfl) (by kernel_rfl) (fun _ _ _ h => h) (Or.inl ⟨by rfl, ?_⟩) (by assumption) ?_
      rotate_left 1
      · intro wz hwz
        go_simp
        all_goals with_reducible rfl
      simp only [Act.put, List.setIfInBounds_toArray, List.set_cons_zero, List.set_cons_succ, List.getElem_toArray, List.getElem_cons_zero, List.getElem_cons_succ]
      refine wpAnyH_take (i := 11) (v := ?_) rfl (by kernel_rfl) (by kernel_rfl) (by kernel_rfl) (fun _ _ _ h => h) (Or.inl ⟨by rfl, ?_⟩) (by assumption) ?_
      rotate_left 1
      · intro wz hwz
        go_simp
        all_goals with_reducible rfl
      simp only [Act.put, List.setIfInBounds_toArray, List.set_cons_zero, List.set_cons_succ, List.getElem_toArray, List.getElem_cons_zero, List.getElem_cons_succ]
      refine wpAnyH_done (by kernel_rfl) ?_ _
      go_wp2
      go_ret
      exact ⟨rfl, below_join HB3.out HB4.out⟩
  · have h100' : (100 : Int) < (l.length : Int) := by omega
    go_enter Tryd.func4, Tryd.ntmps4
    go_wp2
    go_ret
    exact ⟨rfl, Below.refl _ _⟩

end Go.Proofs.YtdncnljcihblbaaDoor
