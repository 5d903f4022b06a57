/-
  The statement RecordEncodes: walked.
-/
import Derived.Test.YtdncnljcihblbaaDoorEvX
import Derived.Test.YtdncnljcihblbaaDoorDEn
import Derived.Test.YtdncnljcihblbaaDoorDFr
import Derived.Test.YtdncnljcihblbaaDoorWalkAZ
import Derived.Test.YtdncnljcihblbaaDoorJaW
namespace Go.Proofs.YtdncnljcihblbaaDoor
open Go.RowKit

theorem own_formX {w : World} {base : Nat} {e : TypeId} {z : Nat} {v : Value} {n : Nat} {xs : List Value} (h : w.ownsRow base e z v n xs) (hn : 0 < n) : ∃ g c, v = .slice (some ⟨g, 0, none⟩) n c := by
  obtain ⟨_, ⟨_, h0⟩ | ⟨g, c, _, rfl, _⟩⟩ := h
  · omega
  · exact ⟨g, c, rfl⟩
theorem str_self (s : ByteArray) : (s.toList == s.toList) = true := beq_self_eq_true _

set_option maxHeartbeats 2000000 in
set_option maxRecDepth 100000 in
theorem encodes_bad (e : Ev) (w : World) (hG : GlE w) (h : fltE e ≠ 0) :
    Calls Tryd.prog 3 #[e.agg] w fun r w' => r = .returned (.bool true) ∧ Below w.heap.size w w' := by
  have HE := hideIt (fun W => encode_bad e W h)
  have HV := hideIt (fun (W : World) (k : Nat) (hk : k = W.heap.size) => events_one e k 1 (W.alloc (.cells #[.int .i64 e.p, .int .i64 e.t, .int .i64 e.k, .int .i64 e.d, .int .i64 e.a, .int .i64 e.b, .int .i64 e.r] 23)) (hk ▸ ev7_new W e _) (Nat.le_refl _))
  have HR := hideIt (fun W => refCheck_any e.p e.t e.k e.d e.a e.b e.r W)
  have HN : Hid (faultN e.p e.t e.k e.d e.a e.b e.r = fltE e) := rfl
  have HB := hideIt (fun W (hg : GlE W) => bare_any (fltE e) W hg)
  have HG := hideIt hG
  have hne : (fltE e != 0) = true := by simp [h]
  rw [HN.out] at HR
  have hT : toldV (fltE e) = .iface 28 (.int .i64 (fltE e)) := toldV_pos h
  simp only [hT] at HE HB
  clear h HN hT hG
  generalize fltE e = f at *
  unfold Ev.agg at *
  go_enter Tryd.func3, Tryd.ntmps3
  go_wp2_with fail
  refine (HV.out _ _ (by simp)).mono ?_
  rintro x w1 ⟨g1, c1, rfl, hv1, hb1, hg1⟩
  have hB1 : Below w.heap.size w w1 := below_join (below_alloc (below_alloc (Below.refl _ _) _) _) hb1
  have he1 : Ev7 w1 w.heap.size e := ((ev7_new w e 23).low (below_alloc (Below.refl _ _) _)).low hb1
  obtain ⟨q0, q1, q2, q3, q4, q5, q6, qlt⟩ := hv1
  have HB1 := hideIt hB1
  have HE1 := hideIt he1
  clear hb1 hB1 he1
  go_wp2_with fail
  refine (HR.out _).mono ?_
  rintro x w2 ⟨rfl, hb2⟩
  have HB2 := hideIt (below_join (below_alloc HB1.out _) hb2)
  obtain ⟨k0, k1, k2, k3, k4, k5, k6, klt⟩ := (HE1.out.low (below_alloc (Below.refl _ _) _)).low hb2
  clear hb2 q0 q1 q2 q3 q4 q5 q6
  go_wp2_with fail
  refine (HE.out _).mono ?_
  rintro x w3 ⟨rfl, hb3⟩
  have HB3 := hideIt (below_join HB2.out hb3)
  clear hb3 k0 k1 k2 k3 k4 k5 k6
  go_wp2_with fail
  refine (HB.out _ (HG.out.below HB3.out)).mono ?_
  rintro x w4 ⟨rfl, hb4⟩
  have HB4 := hideIt (below_join HB3.out hb4)
  clear hb4
  go_wp2
  go_ret
  exact ⟨rfl, HB4.out⟩

set_option maxHeartbeats 4000000 in
set_option maxRecDepth 100000 in
theorem encodes_ok (e : Ev) (w : World) (h : fltE e = 0) :
    Calls Tryd.prog 3 #[e.agg] w fun r w' => r = .returned (.bool true) ∧ Below w.heap.size w w' := by
  have hok := okE_of h
  have hlen := encL_len hok
  have h4 := encL_four e
  have HBy : Hid (Byt (encL e)) := encL_byte hok
  have HE : Hid (∀ W, Calls Tryd.prog 9 #[e.agg] W fun r w' => ∃ g c, r = .returned (.tuple #[.slice (some ⟨g, 0, none⟩) (encL e).length c, .nilIface]) ∧ ByQ w' (.slice (some ⟨g, 0, none⟩) (encL e).length c) (encL e) ∧ Below W.heap.size W w') := by
    intro W
    refine Calls.mono (encode_ok e W h) ?_
    rintro x w' ⟨v, rfl, ho, hb⟩
    obtain ⟨g, c, rfl⟩ := own_formX ho (by omega)
    exact ⟨g, c, rfl, own_byq HBy.out ho, hb⟩
  have HD : Hid (∀ W, Calls Tryd.prog 11 #[e.agg] W fun r w' => ∃ v, r = .returned v ∧ ByQ w' v (encL e) ∧ Below W.heap.size W w') := by
    intro W
    refine Calls.mono (refEncode_any e W hok) ?_
    rintro x w' ⟨v, rfl, ho, hb⟩
    exact ⟨v, rfl, own_byq HBy.out ho, hb⟩
  have HF : Hid (∀ W g c, ByQ W (.slice (some ⟨g, 0, none⟩) (encL e).length c) (encL e) → Calls Tryd.prog 12 #[.slice (some ⟨g, 0, none⟩) (encL e).length c] W fun r w' => ∃ v, r = .returned v ∧ ByQ w' v (frameL (encL e)) ∧ Below W.heap.size W w') := by
    intro W g c hq
    obtain ⟨hB, ⟨h0, _⟩ | ⟨b, o, c', e1, hc, hb, hA⟩⟩ := hq
    · rw [h0] at h4; simp at h4
    · cases e1
      refine Calls.mono (frame_any g 0 c (encL e) W hB hc hb hA (by omega)) ?_
      rintro x w' ⟨v, rfl, ho, hb⟩
      exact ⟨v, rfl, own_byq (frame_byte HBy.out) ho, hb⟩
  have HFD : Hid (∀ W v, ByQ W v (encL e) → Calls Tryd.prog 13 #[v] W fun r w' => ∃ v', r = .returned v' ∧ ByQ w' v' (frameL (encL e)) ∧ Below W.heap.size W w') := by
    intro W v hq
    refine Calls.mono (refFrame_any v (encL e) W hq (by omega)) ?_
    rintro x w' ⟨v', rfl, ho, hb⟩
    exact ⟨v', rfl, own_byq (frame_byte HBy.out) ho, hb⟩
  have HV := hideIt (fun (W : World) (k : Nat) (hk : k = W.heap.size) => events_one e k 1 (W.alloc (.cells #[.int .i64 e.p, .int .i64 e.t, .int .i64 e.k, .int .i64 e.d, .int .i64 e.a, .int .i64 e.b, .int .i64 e.r] 23)) (hk ▸ ev7_new W e _) (Nat.le_refl _))
  have HR : Hid (∀ W, Calls Tryd.prog 8 #[.agg #[.int .i64 e.p, .int .i64 e.t, .int .i64 e.k, .int .i64 e.d, .int .i64 e.a, .int .i64 e.b, .int .i64 e.r]] W fun x w' => x = .returned (.int .i64 0) ∧ Below W.heap.size W w') := by
    intro W
    have := refCheck_any e.p e.t e.k e.d e.a e.b e.r W
    rw [show faultN e.p e.t e.k e.d e.a e.b e.r = 0 from h] at this
    exact this
  clear h hok HBy
  generalize encL e = L at *
  generalize frameL L = F at *
  unfold Ev.agg at *
  go_enter Tryd.func3, Tryd.ntmps3
  go_wp2_with fail
  refine (HV.out _ _ (by simp)).mono ?_
  rintro x w1 ⟨g1, c1, rfl, hv1, hb1, hg1⟩
  have hB1 : Below w.heap.size w w1 := below_join (below_alloc (below_alloc (Below.refl _ _) _) _) hb1
  have he1 : Ev7 w1 w.heap.size e := ((ev7_new w e 23).low (below_alloc (Below.refl _ _) _)).low hb1
  obtain ⟨q0, q1, q2, q3, q4, q5, q6, qlt⟩ := hv1
  have HB1 := hideIt hB1
  have HE1 := hideIt he1
  clear hb1 hB1 he1
  go_wp2_with fail
  refine (HR.out _).mono ?_
  rintro x w2 ⟨rfl, hb2⟩
  have HB2 := hideIt (below_join (below_alloc HB1.out _) hb2)
  have HD2 := hideIt ((ev7_new w1 e 24).low hb2)
  obtain ⟨k0, k1, k2, k3, k4, k5, k6, klt⟩ := (HE1.out.low (below_alloc (Below.refl _ _) _)).low hb2
  clear hb2 q0 q1 q2 q3 q4 q5 q6
  go_wp2_with fail
  refine (HE.out _).mono ?_
  rintro x w3 ⟨g, c, rfl, hq3, hb3⟩
  have HB3 := hideIt (below_join HB2.out hb3)
  have HQ3 := hideIt hq3
  have HD3 := hideIt (HD2.out.low hb3)
  clear hb3 hq3 k0 k1 k2 k3 k4 k5 k6 HE1 HD2
  go_wp2_with fail
  refine wp_region_held_drew (S := fun W => Below w3.heap.size w3 W) (by kernel_rfl) (below_drewN (Below.refl _ _) 1) (fun hHeld => ?_)
  refine wpAnyH_take (i := 0) (v := ?_) rfl (by kernel_rfl) (by kernel_rfl) (by kernel_rfl) (fun _ _ _ h => h) (Or.inl ⟨by rfl, ?_⟩) (by assumption) ?_
  rotate_left 1
  · intro wz hwz
    go_simp
    all_goals with_reducible rfl
  simp only [Act.put, List.setIfInBounds_toArray, List.set_cons_zero, List.set_cons_succ, List.getElem_toArray, List.getElem_cons_zero]
  refine wpAnyH_take (i := 1) (v := ?_) rfl (by kernel_rfl) (by kernel_rfl) (by kernel_rfl) (fun _ _ _ h => h) (Or.inl ⟨by rfl, ?_⟩) (by assumption) ?_
  rotate_left 1
  · intro wz hwz
    go_simp
    all_goals with_reducible rfl
  simp only [Act.put, List.setIfInBounds_toArray, List.set_cons_zero, List.set_cons_succ, List.getElem_toArray, List.getElem_cons_zero, List.getElem_cons_succ]
  refine wpAnyH_take (i := 2) (v := ?_) rfl (by kernel_rfl) (by kernel_rfl) (by kernel_rfl) (fun _ _ _ h => h) (Or.inl ⟨by rfl, ?_⟩) (by assumption) ?_
  rotate_left 1
  · intro wz hwz
    go_simp
    all_goals with_reducible rfl
  simp only [Act.put, List.setIfInBounds_toArray, List.set_cons_zero, List.set_cons_succ, List.getElem_toArray, List.getElem_cons_zero, List.getElem_cons_succ]
  refine wpAnyH_take (i := 3) (v := ?_) rfl (by kernel_rfl) (by kernel_rfl) (by kernel_rfl) (fun _ _ _ h => h) (Or.inl ⟨by rfl, ?_⟩) (by assumption) ?_
  rotate_left 1
  · intro wz hwz
    go_simp
    all_goals with_reducible rfl
  simp only [Act.put, List.setIfInBounds_toArray, List.set_cons_zero, List.set_cons_succ, List.getElem_toArray, List.getElem_cons_zero, List.getElem_cons_succ]
  refine wpAnyH_take (i := 4) (v := ?_) rfl (by kernel_rfl) (by kernel_rfl) (by kernel_rfl) (fun _ _ _ h => h) (Or.inl ⟨by rfl, ?_⟩) (by assumption) ?_
  rotate_left 1
  · intro wz hwz
    have hst := (HQ3.out.below hwz).str
    go_simp
    all_goals with_reducible rfl
  simp only [Act.put, List.setIfInBounds_toArray, List.set_cons_zero, List.set_cons_succ, List.getElem_toArray, List.getElem_cons_zero, List.getElem_cons_succ]
  refine wpAnyH_take (i := 5) (v := ?_) rfl (by kernel_rfl) (by kernel_rfl) (by kernel_rfl) (fun _ _ _ h => h) (Or.inl ⟨by rfl, ?_⟩) (by assumption) ?_
  rotate_left 1
  · intro wz hwz
    obtain ⟨z0, z1, z2, z3, z4, z5, z6, _⟩ := HD3.out.low hwz
    go_simp
    all_goals with_reducible rfl
  simp only [Act.put, List.setIfInBounds_toArray, List.set_cons_zero, List.set_cons_succ, List.getElem_toArray, List.getElem_cons_zero, List.getElem_cons_succ]
  refine wpAnyH_ready (rs := [6]) (by kernel_rfl) (by simp) (AllReadyH.cons rfl (fun K hK => ?_) AllReadyH.nil)
  go_simp
  refine (HD.out _).mono ?_
  rintro x w4 ⟨v4, rfl, hq4, hb4⟩
  have hb34 : Below w3.heap.size w3 w4 := below_join (below_drewN (Below.refl _ _) 1) hb4
  have HQ4 := hideIt hq4
  have HB4 := hideIt hb34
  clear hq4 hb4
  refine hK.out _ _ ?_ (fun hHeld => ?_)
  · exact hb34
  clear hK K
  refine wpAnyH_more (S' := fun W => Below w4.heap.size w4 W) (fun W h => below_join HB4.out h) _ _ _ _ ?_
  have hH4 := Below.refl w4.heap.size w4
  clear hHeld
  refine wpAnyH_take (i := 7) (v := ?_) rfl (by kernel_rfl) (by kernel_rfl) (by kernel_rfl) (fun _ _ _ h => h) (Or.inl ⟨by rfl, ?_⟩) (by assumption) ?_
  rotate_left 1
  · intro wz hwz
    have hst := (HQ4.out.below hwz).str
    go_simp
    all_goals with_reducible rfl
  simp only [Act.put, List.setIfInBounds_toArray, List.set_cons_zero, List.set_cons_succ, List.getElem_toArray, List.getElem_cons_zero, List.getElem_cons_succ]
  refine wpAnyH_take (i := 8) (v := ?_) rfl (by kernel_rfl) (by kernel_rfl) (by kernel_rfl) (fun _ _ _ h => h) (Or.inl ⟨by rfl, ?_⟩) (by assumption) ?_
  rotate_left 1
  · intro wz hwz
    have hss := str_self (strB L)
    go_simp
    all_goals with_reducible rfl
  simp only [Act.put, List.setIfInBounds_toArray, List.set_cons_zero, List.set_cons_succ, List.getElem_toArray, List.getElem_cons_zero, List.getElem_cons_succ]
  refine wpAnyH_take (i := 9) (v := ?_) rfl (by kernel_rfl) (by kernel_rfl) (by kernel_rfl) (fun _ _ _ h => h) (Or.inl ⟨by rfl, ?_⟩) (by assumption) ?_
  rotate_left 1
  · intro wz hwz
    go_simp
    all_goals with_reducible rfl
  simp only [Act.put, List.setIfInBounds_toArray, List.set_cons_zero, List.set_cons_succ, List.getElem_toArray, List.getElem_cons_zero, List.getElem_cons_succ]
  refine wpAnyH_take (i := 10) (v := ?_) rfl (by kernel_rfl) (by kernel_rfl) (by kernel_rfl) (fun _ _ _ h => h) (Or.inl ⟨by rfl, ?_⟩) (by assumption) ?_
  rotate_left 1
  · intro wz hwz
    go_simp
    all_goals with_reducible rfl
  simp only [Act.put, List.setIfInBounds_toArray, List.set_cons_zero, List.set_cons_succ, List.getElem_toArray, List.getElem_cons_zero, List.getElem_cons_succ]
  refine wpAnyH_take (i := 11) (v := ?_) rfl (by kernel_rfl) (by kernel_rfl) (by kernel_rfl) (fun _ _ _ h => h) (Or.inl ⟨by rfl, ?_⟩) (by assumption) ?_
  rotate_left 1
  · intro wz hwz
    go_simp
    all_goals with_reducible rfl
  simp only [Act.put, List.setIfInBounds_toArray, List.set_cons_zero, List.set_cons_succ, List.getElem_toArray, List.getElem_cons_zero, List.getElem_cons_succ]
  refine wpAnyH_take (i := 14) (v := ?_) rfl (by kernel_rfl) (by kernel_rfl) (by kernel_rfl) (fun _ _ _ h => h) (Or.inl ⟨by rfl, ?_⟩) (by assumption) ?_
  rotate_left 1
  · intro wz hwz
    go_simp
    all_goals with_reducible rfl
  simp only [Act.put, List.setIfInBounds_toArray, List.set_cons_zero, List.set_cons_succ, List.getElem_toArray, List.getElem_cons_zero, List.getElem_cons_succ]
  refine wpAnyH_ready (rs := [12]) (by kernel_rfl) (by simp) (AllReadyH.cons rfl (fun K hK => ?_) AllReadyH.nil)
  go_simp
  refine (HF.out _ _ _ (HQ3.out.below HB4.out)).mono ?_
  rintro x w5 ⟨v5, rfl, hq5, hb5⟩
  have HQ5 := hideIt hq5
  have HB5 := hideIt hb5
  clear hq5
  refine hK.out _ _ ?_ (fun hHeld => ?_)
  · exact hb5
  clear hK K
  refine wpAnyH_more (S' := fun W => Below w5.heap.size w5 W) (fun W h => below_join HB5.out h) _ _ _ _ ?_
  have hH5 := Below.refl w5.heap.size w5
  clear hHeld hH4 hb5
  refine wpAnyH_take (i := 13) (v := ?_) rfl (by kernel_rfl) (by kernel_rfl) (by kernel_rfl) (fun _ _ _ h => h) (Or.inl ⟨by rfl, ?_⟩) (by assumption) ?_
  rotate_left 1
  · intro wz hwz
    have hst := (HQ5.out.below hwz).str
    go_simp
    all_goals with_reducible rfl
  simp only [Act.put, List.setIfInBounds_toArray, List.set_cons_zero, List.set_cons_succ, List.getElem_toArray, List.getElem_cons_zero, List.getElem_cons_succ]
  refine wpAnyH_ready (rs := [15]) (by kernel_rfl) (by simp) (AllReadyH.cons rfl (fun K hK => ?_) AllReadyH.nil)
  go_simp
  refine (HFD.out _ _ (HQ3.out.below (below_join HB4.out HB5.out))).mono ?_
  rintro x w6 ⟨v6, rfl, hq6, hb6⟩
  have HQ6 := hideIt hq6
  have HB6 := hideIt hb6
  clear hq6
  refine hK.out _ _ ?_ (fun hHeld => ?_)
  · exact hb6
  clear hK K
  refine wpAnyH_more (S' := fun W => Below w6.heap.size w6 W) (fun W h => below_join HB6.out h) _ _ _ _ ?_
  have hH6 := Below.refl w6.heap.size w6
  clear hHeld hH5 hb6
  refine wpAnyH_take (i := 16) (v := ?_) rfl (by kernel_rfl) (by kernel_rfl) (by kernel_rfl) (fun _ _ _ h => h) (Or.inl ⟨by rfl, ?_⟩) (by assumption) ?_
  rotate_left 1
  · intro wz hwz
    have hst := (HQ6.out.below hwz).str
    go_simp
    all_goals with_reducible rfl
  simp only [Act.put, List.setIfInBounds_toArray, List.set_cons_zero, List.set_cons_succ, List.getElem_toArray, List.getElem_cons_zero, List.getElem_cons_succ]
  refine wpAnyH_take (i := 17) (v := ?_) rfl (by kernel_rfl) (by kernel_rfl) (by kernel_rfl) (fun _ _ _ h => h) (Or.inl ⟨by rfl, ?_⟩) (by assumption) ?_
  rotate_left 1
  · intro wz hwz
    have hss := str_self (strB F)
    go_simp
    all_goals with_reducible rfl
  simp only [Act.put, List.setIfInBounds_toArray, List.set_cons_zero, List.set_cons_succ, List.getElem_toArray, List.getElem_cons_zero, List.getElem_cons_succ]
  refine wpAnyH_take (i := 18) (v := ?_) rfl (by kernel_rfl) (by kernel_rfl) (by kernel_rfl) (fun _ _ _ h => h) (Or.inl ⟨by rfl, ?_⟩) (by assumption) ?_
  rotate_left 1
  · intro wz hwz
    go_simp
    all_goals with_reducible rfl
  simp only [Act.put, List.setIfInBounds_toArray, List.set_cons_zero, List.set_cons_succ, List.getElem_toArray, List.getElem_cons_zero, List.getElem_cons_succ]
  refine wpAnyH_take (i := 19) (v := ?_) rfl (by kernel_rfl) (by kernel_rfl) (by kernel_rfl) (fun _ _ _ h => h) (Or.inl ⟨by rfl, ?_⟩) (by assumption) ?_
  rotate_left 1
  · intro wz hwz
    go_simp
    all_goals with_reducible rfl
  simp only [Act.put, List.setIfInBounds_toArray, List.set_cons_zero, List.set_cons_succ, List.getElem_toArray, List.getElem_cons_zero, List.getElem_cons_succ]
  refine wpAnyH_done (by kernel_rfl) ?_ _
  go_wp2
  go_ret
  exact ⟨rfl, below_join HB3.out (below_join HB4.out (below_join HB5.out HB6.out))⟩

theorem encodes_any (e : Ev) (w : World) (hG : GlE w) :
    Calls Tryd.prog 3 #[e.agg] w fun r w' => r = .returned (.bool true) ∧ Below w.heap.size w w' := by
  by_cases h : fltE e = 0
  · exact encodes_ok e w h
  · exact encodes_bad e w hG h

end Go.Proofs.YtdncnljcihblbaaDoor
