/-
  The statement ClockJoins, walked.
-/
import Derived.Test.YtmonbkoelehdlabLeW
import Derived.Test.YtmonbkoelehdlabMatP
import Derived.Deep.RegionHeld3
import Derived.Deep.QuietTactic
import Derived.BigQuiet
namespace Go.Proofs.Ytmonbkoelehdlab
open Go.RowKit

def leN (v u : Nat → Int) (k : Nat) : Bool := (List.range k).all fun q => decide (v q ≤ u q)
theorem leN_succ (v u : Nat → Int) (k : Nat) : leN v u (k + 1) = (leN v u k && decide (v k ≤ u k)) := by simp [leN, List.range_succ, List.all_append]
theorem leN_all (v u : Nat → Int) : leN v u 8 = leB v u := rfl
theorem eqB_self {v u : Nat → Int} (h : ∀ q, q < 8 → v q = u q) : eqB v u = true := eqB_iff.2 h

set_option maxRecDepth 100000 in
set_option maxHeartbeats 4000000 in
theorem cj_walk (v u : Nat → Int) (w : World) : Calls Try.prog 3 #[vecA v, vecA u] w fun e w' => e = .returned (.bool true) ∧ Below w.heap.size w w' := by
  have HV0 : Hid (VecB ((w.alloc (vecO v 22)).alloc (vecO u 22)) w.heap.size v) := (vecB_new w v 22).alloc _
  have HU0 : Hid (VecB ((w.alloc (vecO v 22)).alloc (vecO u 22)) (w.heap.size + 1) u) := by
    have := vecB_new (w.alloc (vecO v 22)) u 22
    rw [World.size_alloc] at this
    exact this
  have HB0 : Hid (Below w.heap.size w ((w.alloc (vecO v 22)).alloc (vecO u 22))) := belA (belA (Below.refl _ _) _) _
  have HS0 : Hid (((w.alloc (vecO v 22)).alloc (vecO u 22)).heap.size = w.heap.size + 1 + 1) := by simp [Hid]
  unfold vecO at HV0 HU0 HB0 HS0
  unfold vecA
  go_enter Try.func3, Try.ntmps3
  go_upto_region 1 with fail
  generalize (w.alloc _).alloc _ = W at HV0 HU0 HB0 HS0 ⊢
  obtain ⟨v0, v1, v2, v3, v4, v5, v6, v7⟩ := HV0.out.eight
  have HSn : Hid (w.heap.size + 1 < W.heap.size) := by
    show w.heap.size + 1 < W.heap.size
    rw [HS0.out]; omega
  have hx1 : ¬ w.heap.size = W.heap.size := fun h => by have := HSn.out; omega
  have hx3 : w.heap.size < W.heap.size := by have := HSn.out; omega
  have hx2 : ¬ W.heap.size = w.heap.size := fun h => by have := HSn.out; omega
  go_cut [5, 6] (fun x y wx => x = .bool true ∧ y = .pointer (some ⟨W.heap.size, 0, none⟩) ∧ VecB wx W.heap.size v ∧ VecB wx w.heap.size v ∧ VecB wx (w.heap.size + 1) u ∧ Below w.heap.size w wx)
  case first =>
    have HJ : Hid (∀ W', W' = (W.alloc (vecO v 22)).drew → VecB W' W.heap.size v ∧ VecB W' w.heap.size v ∧ VecB W' (w.heap.size + 1) u ∧ Below w.heap.size w W') := fun W' hW => by
      subst hW
      have h1 := vecB_new W v 22
      have h2 := HV0.out.alloc (vecO v 22)
      have h3 := HU0.out.alloc (vecO v 22)
      exact ⟨⟨h1.blk, h1.at_⟩, ⟨h2.blk, h2.at_⟩, ⟨h3.blk, h3.at_⟩, (belA HB0.out _).drew⟩
    unfold vecO at HJ
    go_region
    all_goals
      go_wp2_with fail
      go_meet
    all_goals exact ⟨rfl, rfl, HJ.out _ rfl⟩
  case rest =>
    obtain ⟨rfl, rfl, hj, hv, hu, hb⟩ := hcut
    have HJ := hideIt hj
    have HV := hideIt hv
    have HU := hideIt hu
    have HB := hideIt hb
    clear hj hv hu hb HV0 HU0 HB0 HS0 v0 v1 v2 v3 v4 v5 v6 v7 hx1 hx2 hx3
    generalize W.heap.size = J at HJ HSn ⊢
    go_wp2
    go_loopw [5, 7] (fun x i wr => ∃ k : Nat, k ≤ 8 ∧ x = .bool (leN v u k) ∧ i = .int .i64 k ∧ VecB wr J (fun q => if q < k then joinV v u q else v q) ∧ VecB wr w.heap.size v ∧ VecB wr (w.heap.size + 1) u ∧ Below w.heap.size w wr) (fun _ i _ => 8 - (intOf i).toNat)
    case atStart => exact ⟨0, by omega, rfl, rfl, HJ.out.same fun q _ => by simp, HV.out, HU.out, HB.out⟩
    case round =>
      clear HJ HV HU HB
      obtain ⟨k, hk, rfl, rfl, hj, hv, hu, hb⟩ := hrel
      have HJ := hideIt hj
      have HV := hideIt hv
      have HU := hideIt hu
      have HB := hideIt hb
      clear hj hv hu hb
      by_cases hk8 : k < 8
      · have hk8' : (k : Int) < 8 := by omega
        have v0 := HV.out.at' hk8
        have u0 := HU.out.at' hk8
        have HN := hideIt (leN_succ v u k)
        go_upto_region 5 with fail
        have HD : Hid (∀ n, VecB (wr.drewN n) J (fun q => if q < k then joinV v u q else v q) ∧ VecB (wr.drewN n) w.heap.size v ∧ VecB (wr.drewN n) (w.heap.size + 1) u ∧ Below w.heap.size w (wr.drewN n)) := fun n => ⟨HJ.out.block rfl, HV.out.block rfl, HU.out.block rfl, below_drewN HB.out _⟩
        go_cut [5] (fun x wx => x = .bool (leN v u (k + 1)) ∧ VecB wx J (fun q => if q < k then joinV v u q else v q) ∧ VecB wx w.heap.size v ∧ VecB wx (w.heap.size + 1) u ∧ Below w.heap.size w wx)
        case first =>
          cases hN : leN v u k
          · have HO : Hid (leN v u (k + 1) = false) := by
              show _ = _
              rw [HN.out, hN]; rfl
            clear hN
            go_quiet (fail)
            go_wp2
            go_meet
            exact ⟨by rw [HO.out], HD.out _⟩
          · by_cases hle : v k ≤ u k
            · have hle' : decide (v k ≤ u k) = true := by simp [hle]
              have HO : Hid (leN v u (k + 1) = true) := by
                show _ = _
                rw [HN.out, hN, hle']; rfl
              clear hN hle
              go_quiet (fail)
              go_wp2
              go_meet
              exact ⟨by rw [HO.out], HD.out _⟩
            · have hle' : decide (v k ≤ u k) = false := by simp [hle]
              have HO : Hid (leN v u (k + 1) = false) := by
                show _ = _
                rw [HN.out, hN, hle']; rfl
              clear hN hle
              go_quiet (fail)
              go_wp2
              go_meet
              exact ⟨by rw [HO.out], HD.out _⟩
        case rest =>
          clear v0 u0 HJ HV HU HB HD HN
          obtain ⟨rfl, hj, hv, hu, hb⟩ := hcut
          have HJ := hideIt hj
          have HB := hideIt hb
          have HV := hideIt hv
          have HU := hideIt hu
          have v0 := hv.at' hk8
          have u0 := hu.at' hk8
          have j0 := hj.at' hk8
          have zj := hj.fz k
          simp only [Nat.lt_irrefl, if_false] at j0
          clear hj hv hu hb
          have HE : Hid (∀ W', W' = (wc.setCell ⟨J, k, none⟩ (.int .i64 (if v k < u k then u k else v k))).drew → ∃ k' : Nat, k' ≤ 8 ∧ Value.bool (leN v u (k + 1)) = .bool (leN v u k') ∧ Value.int .i64 ((k : Int) + 1) = .int .i64 k' ∧ VecB W' J (fun q => if q < k' then joinV v u q else v q) ∧ VecB W' w.heap.size v ∧ VecB W' (w.heap.size + 1) u ∧ Below w.heap.size w W') := fun W' hW => by
            have hs := HSn.out
            subst hW
            have h1 := (HJ.out.put hk8 (if v k < u k then u k else v k)).same (u := fun q => if q < k + 1 then joinV v u q else v q) fun q hq => by
              by_cases e : q = k
              · subst e; simp [joinV]
              · have : q < k + 1 ↔ q < k := by omega
                simp [e, this]
            have h2 := HV.out.other (p := ⟨J, k, none⟩) (by show w.heap.size ≠ J; omega) (.int .i64 (if v k < u k then u k else v k))
            have h3 := HU.out.other (p := ⟨J, k, none⟩) (by show w.heap.size + 1 ≠ J; omega) (.int .i64 (if v k < u k then u k else v k))
            have h4 := HB.out.setCell (p := ⟨J, k, none⟩) (by show w.heap.size ≤ J; omega) (.int .i64 (if v k < u k then u k else v k))
            exact ⟨k + 1, by omega, rfl, by go_num, ⟨h1.blk, h1.at_⟩, ⟨h2.blk, h2.at_⟩, ⟨h3.blk, h3.at_⟩, h4.drew⟩
          have hs := HSn.out
          go_upto_region 6 with fail
          refine wp_region_held_drew (S := (fun w' => w'.cell? ⟨w.heap.size, k, none⟩ = some (.int .i64 (v k)) ∧ w'.cell? ⟨w.heap.size + 1, k, none⟩ = some (.int .i64 (u k)))) (by kernel_rfl) ⟨v0, u0⟩ (fun hHeld => ?_)
          refine wpAnyH_take (i := 0) (v := ?_) rfl (by kernel_rfl) (by kernel_rfl) (by kernel_rfl) (fun _ _ _ h => h) (Or.inl ⟨by rfl, ?_⟩) (by assumption) ?_
          rotate_left 1
          · intro wz ⟨s0, s1⟩
            go_simp
            all_goals with_reducible rfl
          simp only [Act.put, List.setIfInBounds_toArray, List.set_cons_zero, List.set_cons_succ, List.getElem_toArray, List.getElem_cons_zero]
          refine wpAnyH_take (i := 1) (v := ?_) rfl (by kernel_rfl) (by kernel_rfl) (by kernel_rfl) (fun _ _ _ h => h) (Or.inl ⟨by rfl, ?_⟩) (by assumption) ?_
          rotate_left 1
          · intro wz ⟨s0, s1⟩
            go_simp
            all_goals with_reducible rfl
          simp only [Act.put, List.setIfInBounds_toArray, List.set_cons_zero, List.set_cons_succ, List.getElem_toArray, List.getElem_cons_zero, List.getElem_cons_succ]
          refine wpAnyH_take (i := 2) (v := ?_) rfl (by kernel_rfl) (by kernel_rfl) (by kernel_rfl) (fun _ _ _ h => h) (Or.inl ⟨by rfl, ?_⟩) (by assumption) ?_
          rotate_left 1
          · intro wz ⟨s0, s1⟩
            go_simp
            all_goals with_reducible rfl
          simp only [Act.put, List.setIfInBounds_toArray, List.set_cons_zero, List.set_cons_succ, List.getElem_toArray, List.getElem_cons_zero, List.getElem_cons_succ]
          refine wpAnyH_take (i := 3) (v := ?_) rfl (by kernel_rfl) (by kernel_rfl) (by kernel_rfl) (fun _ _ _ h => h) (Or.inl ⟨by rfl, ?_⟩) (by assumption) ?_
          rotate_left 1
          · intro wz ⟨s0, s1⟩
            go_simp
            all_goals with_reducible rfl
          simp only [Act.put, List.setIfInBounds_toArray, List.set_cons_zero, List.set_cons_succ, List.getElem_toArray, List.getElem_cons_zero, List.getElem_cons_succ]
          refine wpAnyH_take (i := 4) (v := ?_) rfl (by kernel_rfl) (by kernel_rfl) (by kernel_rfl) (fun _ _ _ h => h) (Or.inl ⟨by rfl, ?_⟩) (by assumption) ?_
          rotate_left 1
          · intro wz ⟨s0, s1⟩
            go_simp
            all_goals with_reducible rfl
          simp only [Act.put, List.setIfInBounds_toArray, List.set_cons_zero, List.set_cons_succ, List.getElem_toArray, List.getElem_cons_zero, List.getElem_cons_succ]
          refine wpAnyH_take (i := 5) (v := ?_) rfl (by kernel_rfl) (by kernel_rfl) (by kernel_rfl) (fun _ _ _ h => h) (Or.inl ⟨by rfl, ?_⟩) (by assumption) ?_
          rotate_left 1
          · intro wz ⟨s0, s1⟩
            go_simp
            all_goals with_reducible rfl
          simp only [Act.put, List.setIfInBounds_toArray, List.set_cons_zero, List.set_cons_succ, List.getElem_toArray, List.getElem_cons_zero, List.getElem_cons_succ]
          refine wpAnyH_take (i := 6) (v := ?_) rfl (by kernel_rfl) (by kernel_rfl) (by kernel_rfl) (fun _ _ _ h => h) (Or.inl ⟨by rfl, ?_⟩) (by assumption) ?_
          rotate_left 1
          · intro wz ⟨s0, s1⟩
            go_simp
            all_goals with_reducible rfl
          simp only [Act.put, List.setIfInBounds_toArray, List.set_cons_zero, List.set_cons_succ, List.getElem_toArray, List.getElem_cons_zero, List.getElem_cons_succ]
          refine wpAnyH_take (i := 7) (v := ?_) rfl (by kernel_rfl) (by kernel_rfl) (by kernel_rfl) (fun _ _ _ h => h) (Or.inl ⟨by rfl, ?_⟩) (by assumption) ?_
          rotate_left 1
          · intro wz ⟨s0, s1⟩
            go_simp
            all_goals with_reducible rfl
          simp only [Act.put, List.setIfInBounds_toArray, List.set_cons_zero, List.set_cons_succ, List.getElem_toArray, List.getElem_cons_zero, List.getElem_cons_succ]
          refine wpAnyH_take (i := 8) (v := ?_) rfl (by kernel_rfl) (by kernel_rfl) (by kernel_rfl) (fun _ _ _ h => h) (Or.inl ⟨by rfl, ?_⟩) (by assumption) ?_
          rotate_left 1
          · intro wz ⟨s0, s1⟩
            go_simp
            all_goals with_reducible rfl
          simp only [Act.put, List.setIfInBounds_toArray, List.set_cons_zero, List.set_cons_succ, List.getElem_toArray, List.getElem_cons_zero, List.getElem_cons_succ]
          refine wpAnyH_ready (rs := [9]) (by kernel_rfl) (by simp) (AllReadyH.cons rfl (fun K hK => ?_) AllReadyH.nil)
          go_simp
          refine hK.out _ _ ?_ (fun hHeld => ?_)
          · exact ⟨(World.cell?_setCell_other _ _ _ _ (blkNe (by omega))).trans hHeld.1, (World.cell?_setCell_other _ _ _ _ (blkNe (by omega))).trans hHeld.2⟩
          clear hK K
          refine wpAnyH_done (by kernel_rfl) ?_ _
          go_wp2
          go_roundw
          case rel => exact HE.out _ rfl
          case measure => simp [intOf]; omega
      · obtain rfl : k = 8 := by omega
        have HJ8 : Hid (VecB wr J (joinV v u)) := HJ.out.same fun q hq => by simp [hq]
        clear HJ
        rw [leN_all]
        go_upto_region 7 with fail
        go_cut [8, 9] (fun x y wx => ∃ ga gb, x = .pointer (some ⟨ga, 0, none⟩) ∧ y = .pointer (some ⟨gb, 0, none⟩) ∧ VecB wx ga v ∧ VecB wx gb u ∧ VecB wx J (joinV v u) ∧ VecB wx w.heap.size v ∧ VecB wx (w.heap.size + 1) u ∧ Below w.heap.size w wx)
        case first =>
          have v0 := HV.out.eight
          have u0 := HU.out.eight
          have hvl := HV.out.lt
          have hul := HU.out.lt
          have HT : Hid (∀ x y : Nat → Int, VecB ((wr.alloc (vecO x 23)).alloc (vecO y 23)).drew wr.heap.size x ∧ VecB ((wr.alloc (vecO x 23)).alloc (vecO y 23)).drew (wr.heap.size + 1) y ∧ VecB ((wr.alloc (vecO x 23)).alloc (vecO y 23)).drew J (joinV v u) ∧ VecB ((wr.alloc (vecO x 23)).alloc (vecO y 23)).drew w.heap.size v ∧ VecB ((wr.alloc (vecO x 23)).alloc (vecO y 23)).drew (w.heap.size + 1) u ∧ Below w.heap.size w ((wr.alloc (vecO x 23)).alloc (vecO y 23)).drew) := fun x y => by
            have h1 := (vecB_new wr x 23).alloc (vecO y 23)
            have h2 := vecB_new (wr.alloc (vecO x 23)) y 23
            rw [World.size_alloc] at h2
            have h3 := (HJ8.out.alloc (vecO x 23)).alloc (vecO y 23)
            have h4 := (HV.out.alloc (vecO x 23)).alloc (vecO y 23)
            have h5 := (HU.out.alloc (vecO x 23)).alloc (vecO y 23)
            exact ⟨⟨h1.blk, h1.at_⟩, ⟨h2.blk, h2.at_⟩, ⟨h3.blk, h3.at_⟩, ⟨h4.blk, h4.at_⟩, ⟨h5.blk, h5.at_⟩, (belA (belA HB.out _) _).drew⟩
          unfold vecO at HT
          refine wp_region_held_drew (S := (fun w' => Below wr.heap.size wr w')) (by kernel_rfl) (Below.refl _ _).drew (fun hHeld => ?_)
          refine wpAnyH_take (i := 0) (v := ?_) rfl (by kernel_rfl) (by kernel_rfl) (by kernel_rfl) (fun _ _ _ h => h) (Or.inl ⟨by rfl, ?_⟩) (by assumption) ?_
          rotate_left 1
          · intro wz s0
            obtain ⟨z0, z1, z2, z3, z4, z5, z6, z7⟩ := v0
            have c0 := (s0.cell (p := ⟨w.heap.size, 0, none⟩) hvl).trans z0
            have c1 := (s0.cell (p := ⟨w.heap.size, 1, none⟩) hvl).trans z1
            have c2 := (s0.cell (p := ⟨w.heap.size, 2, none⟩) hvl).trans z2
            have c3 := (s0.cell (p := ⟨w.heap.size, 3, none⟩) hvl).trans z3
            have c4 := (s0.cell (p := ⟨w.heap.size, 4, none⟩) hvl).trans z4
            have c5 := (s0.cell (p := ⟨w.heap.size, 5, none⟩) hvl).trans z5
            have c6 := (s0.cell (p := ⟨w.heap.size, 6, none⟩) hvl).trans z6
            have c7 := (s0.cell (p := ⟨w.heap.size, 7, none⟩) hvl).trans z7
            go_simp
            all_goals with_reducible rfl
          simp only [Act.put, List.setIfInBounds_toArray, List.set_cons_zero, List.set_cons_succ, List.getElem_toArray, List.getElem_cons_zero]
          refine wpAnyH_take (i := 1) (v := ?_) rfl (by kernel_rfl) (by kernel_rfl) (by kernel_rfl) (fun _ _ _ h => h) (Or.inl ⟨by rfl, ?_⟩) (by assumption) ?_
          rotate_left 1
          · intro wz s0
            obtain ⟨z0, z1, z2, z3, z4, z5, z6, z7⟩ := u0
            have c0 := (s0.cell (p := ⟨w.heap.size + 1, 0, none⟩) hul).trans z0
            have c1 := (s0.cell (p := ⟨w.heap.size + 1, 1, none⟩) hul).trans z1
            have c2 := (s0.cell (p := ⟨w.heap.size + 1, 2, none⟩) hul).trans z2
            have c3 := (s0.cell (p := ⟨w.heap.size + 1, 3, none⟩) hul).trans z3
            have c4 := (s0.cell (p := ⟨w.heap.size + 1, 4, none⟩) hul).trans z4
            have c5 := (s0.cell (p := ⟨w.heap.size + 1, 5, none⟩) hul).trans z5
            have c6 := (s0.cell (p := ⟨w.heap.size + 1, 6, none⟩) hul).trans z6
            have c7 := (s0.cell (p := ⟨w.heap.size + 1, 7, none⟩) hul).trans z7
            go_simp
            all_goals with_reducible rfl
          simp only [Act.put, List.setIfInBounds_toArray, List.set_cons_zero, List.set_cons_succ, List.getElem_toArray, List.getElem_cons_zero, List.getElem_cons_succ]
          refine wpAnyH_ready (rs := [2, 3]) (by kernel_rfl) (by simp) (AllReadyH.cons rfl (fun K hK => ?_) (AllReadyH.cons rfl (fun K hK => ?_) AllReadyH.nil))
          · go_simp
            refine hK.out _ _ ?_ (fun hHeld => ?_)
            · exact hHeld.alloc hHeld.size _
            clear hK K
            refine wpAnyH_ready (rs := [3]) (by kernel_rfl) (by simp) (AllReadyH.cons rfl (fun K hK => ?_) AllReadyH.nil)
            go_simp
            refine hK.out _ _ ?_ (fun hHeld => ?_)
            · exact hHeld.alloc hHeld.size _
            clear hK K
            refine wpAnyH_ready (rs := [4]) (by kernel_rfl) (by simp) (AllReadyH.cons rfl (fun K hK => ?_) AllReadyH.nil)
            go_simp
            refine hK.out _ _ ?_ (fun hHeld => ?_)
            · exact (belA (belA (Below.refl wr.heap.size wr) _) _).drew
            clear hK K
            refine wpAnyH_ready (rs := [5]) (by kernel_rfl) (by simp) (AllReadyH.cons rfl (fun K hK => ?_) AllReadyH.nil)
            go_simp
            refine hK.out _ _ ?_ (fun hHeld => ?_)
            · exact (belA (belA (Below.refl wr.heap.size wr) _) _).drew
            clear hK K
            refine wpAnyH_done (by kernel_rfl) ?_ _
            go_wp2
            go_meet
            exact ⟨_, _, rfl, rfl, (HT.out v u).1, (HT.out v u).2.1, (HT.out v u).2.2⟩
          · go_simp
            refine hK.out _ _ ?_ (fun hHeld => ?_)
            · exact hHeld.alloc hHeld.size _
            clear hK K
            refine wpAnyH_ready (rs := [2]) (by kernel_rfl) (by simp) (AllReadyH.cons rfl (fun K hK => ?_) AllReadyH.nil)
            go_simp
            refine hK.out _ _ ?_ (fun hHeld => ?_)
            · exact hHeld.alloc hHeld.size _
            clear hK K
            refine wpAnyH_ready (rs := [4]) (by kernel_rfl) (by simp) (AllReadyH.cons rfl (fun K hK => ?_) AllReadyH.nil)
            go_simp
            refine hK.out _ _ ?_ (fun hHeld => ?_)
            · exact (belA (belA (Below.refl wr.heap.size wr) _) _).drew
            clear hK K
            refine wpAnyH_ready (rs := [5]) (by kernel_rfl) (by simp) (AllReadyH.cons rfl (fun K hK => ?_) AllReadyH.nil)
            go_simp
            refine hK.out _ _ ?_ (fun hHeld => ?_)
            · exact (belA (belA (Below.refl wr.heap.size wr) _) _).drew
            clear hK K
            refine wpAnyH_done (by kernel_rfl) ?_ _
            go_wp2
            go_meet
            exact ⟨_, _, rfl, rfl, (HT.out u v).2.1, (HT.out u v).1, (HT.out u v).2.2⟩
        case rest =>
          obtain ⟨ga, gb, rfl, rfl, ha, hbb, hj, hv, hu, hb⟩ := hcut
          clear HJ8 HV HU HB
          have HB := hideIt hb
          have a0 := ha.eight
          have b0 := hbb.eight
          have j0 := hj.eight
          have v0 := hv.eight
          have u0 := hu.eight
          have hal := ha.lt
          have hbl := hbb.lt
          have hjl := hj.lt
          have hvl := hv.lt
          have hul := hu.lt
          clear ha hbb hj hv hu hb
          have HJn : Hid (∀ W', Calls Try.prog 7 #[vecA v, vecA u] W' fun e w' => e = .returned (vecA (joinV v u)) ∧ Below W'.heap.size W' w') := fun W' => join_any v u W'
          have HWi : Hid (∀ W', Calls Try.prog 8 #[vecA v, vecA u] W' fun e w' => e = .returned (.bool (leB v u)) ∧ Below W'.heap.size W' w') := fun W' => within_any v u W'
          have HLs : Hid (∀ W', Calls Try.prog 9 #[vecA v, vecA u] W' fun e w' => e = .returned (.bool (!eqB v u && leB v u)) ∧ Below W'.heap.size W' w') := fun W' => less_any v u W'
          have heq1 : ∀ W', (Op.equalIn 10000 22 (vecA (joinV v u)) (vecA (joinV v u))).run Try.prog W' = .ok true W' := fun W' => by rw [eq45 W' _ _ 22 (.inl rfl), eqB_self fun _ _ => rfl]
          have heq2 : ∀ W', (Op.equalIn 10000 22 (vecA v) (vecA u)).run Try.prog W' = .ok (eqB v u) W' := fun W' => eq45 W' _ _ 22 (.inl rfl)
          unfold vecA at HJn HWi HLs heq1 heq2
          go_upto_region 8 with fail
          generalize leB v u = lb at HWi HLs ⊢
          generalize eqB v u = eb at HLs heq2 ⊢
          cases lb
          · have HLf : Hid (∀ W', Calls Try.prog 9 #[.agg #[.int .i64 (v 0), .int .i64 (v 1), .int .i64 (v 2), .int .i64 (v 3), .int .i64 (v 4), .int .i64 (v 5), .int .i64 (v 6), .int .i64 (v 7)], .agg #[.int .i64 (u 0), .int .i64 (u 1), .int .i64 (u 2), .int .i64 (u 3), .int .i64 (u 4), .int .i64 (u 5), .int .i64 (u 6), .int .i64 (u 7)]] W' fun e w' => e = .returned (.bool false) ∧ Below W'.heap.size W' w') := fun W' => by
              have := HLs.out W'
              rw [Bool.and_false] at this
              exact this
            refine wp_region_held_drew (S := (fun w' => Below wc.heap.size wc w')) (by kernel_rfl) (Below.refl _ _).drew (fun hHeld => ?_)
            refine wpAnyH_take (i := 0) (v := ?_) rfl (by kernel_rfl) (by kernel_rfl) (by kernel_rfl) (fun _ _ _ h => h) (Or.inl ⟨by rfl, ?_⟩) (by assumption) ?_
            rotate_left 1
            · intro wz s0
              obtain ⟨z0, z1, z2, z3, z4, z5, z6, z7⟩ := a0
              have c0 := (s0.cell (p := ⟨ga, 0, none⟩) hal).trans z0
              have c1 := (s0.cell (p := ⟨ga, 1, none⟩) hal).trans z1
              have c2 := (s0.cell (p := ⟨ga, 2, none⟩) hal).trans z2
              have c3 := (s0.cell (p := ⟨ga, 3, none⟩) hal).trans z3
              have c4 := (s0.cell (p := ⟨ga, 4, none⟩) hal).trans z4
              have c5 := (s0.cell (p := ⟨ga, 5, none⟩) hal).trans z5
              have c6 := (s0.cell (p := ⟨ga, 6, none⟩) hal).trans z6
              have c7 := (s0.cell (p := ⟨ga, 7, none⟩) hal).trans z7
              go_simp
              all_goals with_reducible rfl
            simp only [Act.put, List.setIfInBounds_toArray, List.set_cons_zero, List.set_cons_succ, List.getElem_toArray, List.getElem_cons_zero]
            refine wpAnyH_take (i := 1) (v := ?_) rfl (by kernel_rfl) (by kernel_rfl) (by kernel_rfl) (fun _ _ _ h => h) (Or.inl ⟨by rfl, ?_⟩) (by assumption) ?_
            rotate_left 1
            · intro wz s0
              obtain ⟨z0, z1, z2, z3, z4, z5, z6, z7⟩ := b0
              have c0 := (s0.cell (p := ⟨gb, 0, none⟩) hbl).trans z0
              have c1 := (s0.cell (p := ⟨gb, 1, none⟩) hbl).trans z1
              have c2 := (s0.cell (p := ⟨gb, 2, none⟩) hbl).trans z2
              have c3 := (s0.cell (p := ⟨gb, 3, none⟩) hbl).trans z3
              have c4 := (s0.cell (p := ⟨gb, 4, none⟩) hbl).trans z4
              have c5 := (s0.cell (p := ⟨gb, 5, none⟩) hbl).trans z5
              have c6 := (s0.cell (p := ⟨gb, 6, none⟩) hbl).trans z6
              have c7 := (s0.cell (p := ⟨gb, 7, none⟩) hbl).trans z7
              go_simp
              all_goals with_reducible rfl
            simp only [Act.put, List.setIfInBounds_toArray, List.set_cons_zero, List.set_cons_succ, List.getElem_toArray, List.getElem_cons_zero, List.getElem_cons_succ]
            refine wpAnyH_take (i := 3) (v := ?_) rfl (by kernel_rfl) (by kernel_rfl) (by kernel_rfl) (fun _ _ _ h => h) (Or.inl ⟨by rfl, ?_⟩) (by assumption) ?_
            rotate_left 1
            · intro wz s0
              obtain ⟨z0, z1, z2, z3, z4, z5, z6, z7⟩ := j0
              have c0 := (s0.cell (p := ⟨J, 0, none⟩) hjl).trans z0
              have c1 := (s0.cell (p := ⟨J, 1, none⟩) hjl).trans z1
              have c2 := (s0.cell (p := ⟨J, 2, none⟩) hjl).trans z2
              have c3 := (s0.cell (p := ⟨J, 3, none⟩) hjl).trans z3
              have c4 := (s0.cell (p := ⟨J, 4, none⟩) hjl).trans z4
              have c5 := (s0.cell (p := ⟨J, 5, none⟩) hjl).trans z5
              have c6 := (s0.cell (p := ⟨J, 6, none⟩) hjl).trans z6
              have c7 := (s0.cell (p := ⟨J, 7, none⟩) hjl).trans z7
              go_simp
              all_goals with_reducible rfl
            simp only [Act.put, List.setIfInBounds_toArray, List.set_cons_zero, List.set_cons_succ, List.getElem_toArray, List.getElem_cons_zero, List.getElem_cons_succ]
            refine wpAnyH_ready (rs := [2]) (by kernel_rfl) (by simp) (AllReadyH.cons rfl (fun K hK => ?_) AllReadyH.nil)
            go_simp
            refine (HJn.out _).mono ?_
            rintro e w2 ⟨rfl, hb2⟩
            refine hK.out _ _ ?_ (fun hHeld => ?_)
            · exact hHeld.trans (hb2.mono hHeld.size)
            clear hK K hb2
            refine wpAnyH_take (i := 4) (v := .bool true) rfl (by kernel_rfl) (by kernel_rfl) (by kernel_rfl) (fun _ _ _ h => h) (Or.inl ⟨by rfl, ?_⟩) (by assumption) ?_
            · intro wz s0
              go_simp
              all_goals (first | with_reducible rfl | simp)
            simp only [Act.put, List.setIfInBounds_toArray, List.set_cons_zero, List.set_cons_succ, List.getElem_toArray, List.getElem_cons_zero, List.getElem_cons_succ]
            refine wpAnyH_take (i := 5) (v := .bool true) rfl (by kernel_rfl) (by kernel_rfl) (by kernel_rfl) (fun _ _ _ h => h) (Or.inl ⟨by rfl, ?_⟩) (by assumption) ?_
            · intro wz s0
              go_simp
              all_goals (first | with_reducible rfl | simp)
            simp only [Act.put, List.setIfInBounds_toArray, List.set_cons_zero, List.set_cons_succ, List.getElem_toArray, List.getElem_cons_zero, List.getElem_cons_succ]
            refine wpAnyH_take (i := 6) (v := ?_) rfl (by kernel_rfl) (by kernel_rfl) (by kernel_rfl) (fun _ _ _ h => h) (Or.inl ⟨by rfl, ?_⟩) (by assumption) ?_
            rotate_left 1
            · intro wz s0
              obtain ⟨z0, z1, z2, z3, z4, z5, z6, z7⟩ := a0
              have c0 := (s0.cell (p := ⟨ga, 0, none⟩) hal).trans z0
              have c1 := (s0.cell (p := ⟨ga, 1, none⟩) hal).trans z1
              have c2 := (s0.cell (p := ⟨ga, 2, none⟩) hal).trans z2
              have c3 := (s0.cell (p := ⟨ga, 3, none⟩) hal).trans z3
              have c4 := (s0.cell (p := ⟨ga, 4, none⟩) hal).trans z4
              have c5 := (s0.cell (p := ⟨ga, 5, none⟩) hal).trans z5
              have c6 := (s0.cell (p := ⟨ga, 6, none⟩) hal).trans z6
              have c7 := (s0.cell (p := ⟨ga, 7, none⟩) hal).trans z7
              go_simp
              all_goals with_reducible rfl
            simp only [Act.put, List.setIfInBounds_toArray, List.set_cons_zero, List.set_cons_succ, List.getElem_toArray, List.getElem_cons_zero, List.getElem_cons_succ]
            refine wpAnyH_take (i := 7) (v := ?_) rfl (by kernel_rfl) (by kernel_rfl) (by kernel_rfl) (fun _ _ _ h => h) (Or.inl ⟨by rfl, ?_⟩) (by assumption) ?_
            rotate_left 1
            · intro wz s0
              obtain ⟨z0, z1, z2, z3, z4, z5, z6, z7⟩ := b0
              have c0 := (s0.cell (p := ⟨gb, 0, none⟩) hbl).trans z0
              have c1 := (s0.cell (p := ⟨gb, 1, none⟩) hbl).trans z1
              have c2 := (s0.cell (p := ⟨gb, 2, none⟩) hbl).trans z2
              have c3 := (s0.cell (p := ⟨gb, 3, none⟩) hbl).trans z3
              have c4 := (s0.cell (p := ⟨gb, 4, none⟩) hbl).trans z4
              have c5 := (s0.cell (p := ⟨gb, 5, none⟩) hbl).trans z5
              have c6 := (s0.cell (p := ⟨gb, 6, none⟩) hbl).trans z6
              have c7 := (s0.cell (p := ⟨gb, 7, none⟩) hbl).trans z7
              go_simp
              all_goals with_reducible rfl
            simp only [Act.put, List.setIfInBounds_toArray, List.set_cons_zero, List.set_cons_succ, List.getElem_toArray, List.getElem_cons_zero, List.getElem_cons_succ]
            refine wpAnyH_take (i := 9) (v := ?_) rfl (by kernel_rfl) (by kernel_rfl) (by kernel_rfl) (fun _ _ _ h => h) (Or.inl ⟨by rfl, ?_⟩) (by assumption) ?_
            rotate_left 1
            · intro wz s0
              go_simp
              all_goals with_reducible rfl
            simp only [Act.put, List.setIfInBounds_toArray, List.set_cons_zero, List.set_cons_succ, List.getElem_toArray, List.getElem_cons_zero, List.getElem_cons_succ]
            refine wpAnyH_ready (rs := [8]) (by kernel_rfl) (by simp) (AllReadyH.cons rfl (fun K hK => ?_) AllReadyH.nil)
            go_simp
            refine (HWi.out _).mono ?_
            rintro e w2 ⟨rfl, hb2⟩
            refine hK.out _ _ ?_ (fun hHeld => ?_)
            · exact hHeld.trans (hb2.mono hHeld.size)
            clear hK K hb2
            refine wpAnyH_take (i := 10) (v := .bool true) rfl (by kernel_rfl) (by kernel_rfl) (by kernel_rfl) (fun _ _ _ h => h) (Or.inl ⟨by rfl, ?_⟩) (by assumption) ?_
            · intro wz s0
              go_simp
              all_goals (first | with_reducible rfl | simp)
            simp only [Act.put, List.setIfInBounds_toArray, List.set_cons_zero, List.set_cons_succ, List.getElem_toArray, List.getElem_cons_zero, List.getElem_cons_succ]
            refine wpAnyH_take (i := 11) (v := .bool true) rfl (by kernel_rfl) (by kernel_rfl) (by kernel_rfl) (fun _ _ _ h => h) (Or.inl ⟨by rfl, ?_⟩) (by assumption) ?_
            · intro wz s0
              go_simp
              all_goals (first | with_reducible rfl | simp)
            simp only [Act.put, List.setIfInBounds_toArray, List.set_cons_zero, List.set_cons_succ, List.getElem_toArray, List.getElem_cons_zero, List.getElem_cons_succ]
            refine wpAnyH_take (i := 12) (v := .bool true) rfl (by kernel_rfl) (by kernel_rfl) (by kernel_rfl) (fun _ _ _ h => h) (Or.inl ⟨by rfl, ?_⟩) (by assumption) ?_
            · intro wz s0
              go_simp
              all_goals (first | with_reducible rfl | simp)
            simp only [Act.put, List.setIfInBounds_toArray, List.set_cons_zero, List.set_cons_succ, List.getElem_toArray, List.getElem_cons_zero, List.getElem_cons_succ]
            refine wpAnyH_take (i := 13) (v := ?_) rfl (by kernel_rfl) (by kernel_rfl) (by kernel_rfl) (fun _ _ _ h => h) (Or.inl ⟨by rfl, ?_⟩) (by assumption) ?_
            rotate_left 1
            · intro wz s0
              obtain ⟨z0, z1, z2, z3, z4, z5, z6, z7⟩ := a0
              have c0 := (s0.cell (p := ⟨ga, 0, none⟩) hal).trans z0
              have c1 := (s0.cell (p := ⟨ga, 1, none⟩) hal).trans z1
              have c2 := (s0.cell (p := ⟨ga, 2, none⟩) hal).trans z2
              have c3 := (s0.cell (p := ⟨ga, 3, none⟩) hal).trans z3
              have c4 := (s0.cell (p := ⟨ga, 4, none⟩) hal).trans z4
              have c5 := (s0.cell (p := ⟨ga, 5, none⟩) hal).trans z5
              have c6 := (s0.cell (p := ⟨ga, 6, none⟩) hal).trans z6
              have c7 := (s0.cell (p := ⟨ga, 7, none⟩) hal).trans z7
              go_simp
              all_goals with_reducible rfl
            simp only [Act.put, List.setIfInBounds_toArray, List.set_cons_zero, List.set_cons_succ, List.getElem_toArray, List.getElem_cons_zero, List.getElem_cons_succ]
            refine wpAnyH_take (i := 14) (v := ?_) rfl (by kernel_rfl) (by kernel_rfl) (by kernel_rfl) (fun _ _ _ h => h) (Or.inl ⟨by rfl, ?_⟩) (by assumption) ?_
            rotate_left 1
            · intro wz s0
              obtain ⟨z0, z1, z2, z3, z4, z5, z6, z7⟩ := b0
              have c0 := (s0.cell (p := ⟨gb, 0, none⟩) hbl).trans z0
              have c1 := (s0.cell (p := ⟨gb, 1, none⟩) hbl).trans z1
              have c2 := (s0.cell (p := ⟨gb, 2, none⟩) hbl).trans z2
              have c3 := (s0.cell (p := ⟨gb, 3, none⟩) hbl).trans z3
              have c4 := (s0.cell (p := ⟨gb, 4, none⟩) hbl).trans z4
              have c5 := (s0.cell (p := ⟨gb, 5, none⟩) hbl).trans z5
              have c6 := (s0.cell (p := ⟨gb, 6, none⟩) hbl).trans z6
              have c7 := (s0.cell (p := ⟨gb, 7, none⟩) hbl).trans z7
              go_simp
              all_goals with_reducible rfl
            simp only [Act.put, List.setIfInBounds_toArray, List.set_cons_zero, List.set_cons_succ, List.getElem_toArray, List.getElem_cons_zero, List.getElem_cons_succ]
            refine wpAnyH_take (i := 16) (v := .bool false) rfl (by kernel_rfl) (by kernel_rfl) (by kernel_rfl) (fun _ _ _ h => h) (Or.inl ⟨by rfl, ?_⟩) (by assumption) ?_
            · intro wz s0
              go_simp
              all_goals (first | with_reducible rfl | simp)
            simp only [Act.put, List.setIfInBounds_toArray, List.set_cons_zero, List.set_cons_succ, List.getElem_toArray, List.getElem_cons_zero, List.getElem_cons_succ]
            refine wpAnyH_ready (rs := [15]) (by kernel_rfl) (by simp) (AllReadyH.cons rfl (fun K hK => ?_) AllReadyH.nil)
            go_simp
            refine (HLf.out _).mono ?_
            rintro e w2 ⟨rfl, hb2⟩
            refine hK.out _ _ ?_ (fun hHeld => ?_)
            · exact hHeld.trans (hb2.mono hHeld.size)
            clear hK K hb2
            refine wpAnyH_take (i := 17) (v := .bool false) rfl (by kernel_rfl) (by kernel_rfl) (by kernel_rfl) (fun _ _ _ h => h) (Or.inl ⟨by rfl, ?_⟩) (by assumption) ?_
            · intro wz s0
              go_simp
              all_goals (first | with_reducible rfl | simp)
            simp only [Act.put, List.setIfInBounds_toArray, List.set_cons_zero, List.set_cons_succ, List.getElem_toArray, List.getElem_cons_zero, List.getElem_cons_succ]
            refine wpAnyH_take (i := 18) (v := undef) rfl (by kernel_rfl) (by kernel_rfl) (by kernel_rfl) (fun _ _ _ h => h) (Or.inr ⟨by rfl, rfl⟩) (by assumption) ?_
            simp only [Act.put, List.setIfInBounds_toArray, List.set_cons_zero, List.set_cons_succ, List.getElem_toArray, List.getElem_cons_zero, List.getElem_cons_succ]
            refine wpAnyH_take (i := 19) (v := undef) rfl (by kernel_rfl) (by kernel_rfl) (by kernel_rfl) (fun _ _ _ h => h) (Or.inr ⟨by rfl, rfl⟩) (by assumption) ?_
            simp only [Act.put, List.setIfInBounds_toArray, List.set_cons_zero, List.set_cons_succ, List.getElem_toArray, List.getElem_cons_zero, List.getElem_cons_succ]
            refine wpAnyH_take (i := 20) (v := undef) rfl (by kernel_rfl) (by kernel_rfl) (by kernel_rfl) (fun _ _ _ h => h) (Or.inr ⟨by rfl, rfl⟩) (by assumption) ?_
            simp only [Act.put, List.setIfInBounds_toArray, List.set_cons_zero, List.set_cons_succ, List.getElem_toArray, List.getElem_cons_zero, List.getElem_cons_succ]
            refine wpAnyH_take (i := 21) (v := .bool false) rfl (by kernel_rfl) (by kernel_rfl) (by kernel_rfl) (fun _ _ _ h => h) (Or.inl ⟨by rfl, ?_⟩) (by assumption) ?_
            · intro wz s0
              go_simp
              all_goals (first | with_reducible rfl | simp)
            simp only [Act.put, List.setIfInBounds_toArray, List.set_cons_zero, List.set_cons_succ, List.getElem_toArray, List.getElem_cons_zero, List.getElem_cons_succ]
            refine wpAnyH_take (i := 22) (v := .bool true) rfl (by kernel_rfl) (by kernel_rfl) (by kernel_rfl) (fun _ _ _ h => h) (Or.inl ⟨by rfl, ?_⟩) (by assumption) ?_
            · intro wz s0
              go_simp
              all_goals (first | with_reducible rfl | simp)
            simp only [Act.put, List.setIfInBounds_toArray, List.set_cons_zero, List.set_cons_succ, List.getElem_toArray, List.getElem_cons_zero, List.getElem_cons_succ]
            refine wpAnyH_take (i := 23) (v := .bool true) rfl (by kernel_rfl) (by kernel_rfl) (by kernel_rfl) (fun _ _ _ h => h) (Or.inl ⟨by rfl, ?_⟩) (by assumption) ?_
            · intro wz s0
              go_simp
              all_goals (first | with_reducible rfl | simp)
            simp only [Act.put, List.setIfInBounds_toArray, List.set_cons_zero, List.set_cons_succ, List.getElem_toArray, List.getElem_cons_zero, List.getElem_cons_succ]
            refine wpAnyH_take (i := 24) (v := ?_) rfl (by kernel_rfl) (by kernel_rfl) (by kernel_rfl) (fun _ _ _ h => h) (Or.inl ⟨by rfl, ?_⟩) (by assumption) ?_
            rotate_left 1
            · intro wz s0
              go_simp
              all_goals with_reducible rfl
            simp only [Act.put, List.setIfInBounds_toArray, List.set_cons_zero, List.set_cons_succ, List.getElem_toArray, List.getElem_cons_zero, List.getElem_cons_succ]
            refine wpAnyH_done (by kernel_rfl) ?_ _
            go_wp2
            go_ret
            exact ⟨rfl, HB.out.trans (hHeld.mono HB.out.size)⟩
          · cases eb
            · refine wp_region_held_drew (S := (fun w' => Below wc.heap.size wc w')) (by kernel_rfl) (Below.refl _ _).drew (fun hHeld => ?_)
              refine wpAnyH_take (i := 0) (v := ?_) rfl (by kernel_rfl) (by kernel_rfl) (by kernel_rfl) (fun _ _ _ h => h) (Or.inl ⟨by rfl, ?_⟩) (by assumption) ?_
              rotate_left 1
              · intro wz s0
                obtain ⟨z0, z1, z2, z3, z4, z5, z6, z7⟩ := a0
                have c0 := (s0.cell (p := ⟨ga, 0, none⟩) hal).trans z0
                have c1 := (s0.cell (p := ⟨ga, 1, none⟩) hal).trans z1
                have c2 := (s0.cell (p := ⟨ga, 2, none⟩) hal).trans z2
                have c3 := (s0.cell (p := ⟨ga, 3, none⟩) hal).trans z3
                have c4 := (s0.cell (p := ⟨ga, 4, none⟩) hal).trans z4
                have c5 := (s0.cell (p := ⟨ga, 5, none⟩) hal).trans z5
                have c6 := (s0.cell (p := ⟨ga, 6, none⟩) hal).trans z6
                have c7 := (s0.cell (p := ⟨ga, 7, none⟩) hal).trans z7
                go_simp
                all_goals with_reducible rfl
              simp only [Act.put, List.setIfInBounds_toArray, List.set_cons_zero, List.set_cons_succ, List.getElem_toArray, List.getElem_cons_zero]
              refine wpAnyH_take (i := 1) (v := ?_) rfl (by kernel_rfl) (by kernel_rfl) (by kernel_rfl) (fun _ _ _ h => h) (Or.inl ⟨by rfl, ?_⟩) (by assumption) ?_
              rotate_left 1
              · intro wz s0
                obtain ⟨z0, z1, z2, z3, z4, z5, z6, z7⟩ := b0
                have c0 := (s0.cell (p := ⟨gb, 0, none⟩) hbl).trans z0
                have c1 := (s0.cell (p := ⟨gb, 1, none⟩) hbl).trans z1
                have c2 := (s0.cell (p := ⟨gb, 2, none⟩) hbl).trans z2
                have c3 := (s0.cell (p := ⟨gb, 3, none⟩) hbl).trans z3
                have c4 := (s0.cell (p := ⟨gb, 4, none⟩) hbl).trans z4
                have c5 := (s0.cell (p := ⟨gb, 5, none⟩) hbl).trans z5
                have c6 := (s0.cell (p := ⟨gb, 6, none⟩) hbl).trans z6
                have c7 := (s0.cell (p := ⟨gb, 7, none⟩) hbl).trans z7
                go_simp
                all_goals with_reducible rfl
              simp only [Act.put, List.setIfInBounds_toArray, List.set_cons_zero, List.set_cons_succ, List.getElem_toArray, List.getElem_cons_zero, List.getElem_cons_succ]
              refine wpAnyH_take (i := 3) (v := ?_) rfl (by kernel_rfl) (by kernel_rfl) (by kernel_rfl) (fun _ _ _ h => h) (Or.inl ⟨by rfl, ?_⟩) (by assumption) ?_
              rotate_left 1
              · intro wz s0
                obtain ⟨z0, z1, z2, z3, z4, z5, z6, z7⟩ := j0
                have c0 := (s0.cell (p := ⟨J, 0, none⟩) hjl).trans z0
                have c1 := (s0.cell (p := ⟨J, 1, none⟩) hjl).trans z1
                have c2 := (s0.cell (p := ⟨J, 2, none⟩) hjl).trans z2
                have c3 := (s0.cell (p := ⟨J, 3, none⟩) hjl).trans z3
                have c4 := (s0.cell (p := ⟨J, 4, none⟩) hjl).trans z4
                have c5 := (s0.cell (p := ⟨J, 5, none⟩) hjl).trans z5
                have c6 := (s0.cell (p := ⟨J, 6, none⟩) hjl).trans z6
                have c7 := (s0.cell (p := ⟨J, 7, none⟩) hjl).trans z7
                go_simp
                all_goals with_reducible rfl
              simp only [Act.put, List.setIfInBounds_toArray, List.set_cons_zero, List.set_cons_succ, List.getElem_toArray, List.getElem_cons_zero, List.getElem_cons_succ]
              refine wpAnyH_ready (rs := [2]) (by kernel_rfl) (by simp) (AllReadyH.cons rfl (fun K hK => ?_) AllReadyH.nil)
              go_simp
              refine (HJn.out _).mono ?_
              rintro e w2 ⟨rfl, hb2⟩
              refine hK.out _ _ ?_ (fun hHeld => ?_)
              · exact hHeld.trans (hb2.mono hHeld.size)
              clear hK K hb2
              refine wpAnyH_take (i := 4) (v := .bool true) rfl (by kernel_rfl) (by kernel_rfl) (by kernel_rfl) (fun _ _ _ h => h) (Or.inl ⟨by rfl, ?_⟩) (by assumption) ?_
              · intro wz s0
                go_simp
                all_goals (first | with_reducible rfl | simp)
              simp only [Act.put, List.setIfInBounds_toArray, List.set_cons_zero, List.set_cons_succ, List.getElem_toArray, List.getElem_cons_zero, List.getElem_cons_succ]
              refine wpAnyH_take (i := 5) (v := .bool true) rfl (by kernel_rfl) (by kernel_rfl) (by kernel_rfl) (fun _ _ _ h => h) (Or.inl ⟨by rfl, ?_⟩) (by assumption) ?_
              · intro wz s0
                go_simp
                all_goals (first | with_reducible rfl | simp)
              simp only [Act.put, List.setIfInBounds_toArray, List.set_cons_zero, List.set_cons_succ, List.getElem_toArray, List.getElem_cons_zero, List.getElem_cons_succ]
              refine wpAnyH_take (i := 6) (v := ?_) rfl (by kernel_rfl) (by kernel_rfl) (by kernel_rfl) (fun _ _ _ h => h) (Or.inl ⟨by rfl, ?_⟩) (by assumption) ?_
              rotate_left 1
              · intro wz s0
                obtain ⟨z0, z1, z2, z3, z4, z5, z6, z7⟩ := a0
                have c0 := (s0.cell (p := ⟨ga, 0, none⟩) hal).trans z0
                have c1 := (s0.cell (p := ⟨ga, 1, none⟩) hal).trans z1
                have c2 := (s0.cell (p := ⟨ga, 2, none⟩) hal).trans z2
                have c3 := (s0.cell (p := ⟨ga, 3, none⟩) hal).trans z3
                have c4 := (s0.cell (p := ⟨ga, 4, none⟩) hal).trans z4
                have c5 := (s0.cell (p := ⟨ga, 5, none⟩) hal).trans z5
                have c6 := (s0.cell (p := ⟨ga, 6, none⟩) hal).trans z6
                have c7 := (s0.cell (p := ⟨ga, 7, none⟩) hal).trans z7
                go_simp
                all_goals with_reducible rfl
              simp only [Act.put, List.setIfInBounds_toArray, List.set_cons_zero, List.set_cons_succ, List.getElem_toArray, List.getElem_cons_zero, List.getElem_cons_succ]
              refine wpAnyH_take (i := 7) (v := ?_) rfl (by kernel_rfl) (by kernel_rfl) (by kernel_rfl) (fun _ _ _ h => h) (Or.inl ⟨by rfl, ?_⟩) (by assumption) ?_
              rotate_left 1
              · intro wz s0
                obtain ⟨z0, z1, z2, z3, z4, z5, z6, z7⟩ := b0
                have c0 := (s0.cell (p := ⟨gb, 0, none⟩) hbl).trans z0
                have c1 := (s0.cell (p := ⟨gb, 1, none⟩) hbl).trans z1
                have c2 := (s0.cell (p := ⟨gb, 2, none⟩) hbl).trans z2
                have c3 := (s0.cell (p := ⟨gb, 3, none⟩) hbl).trans z3
                have c4 := (s0.cell (p := ⟨gb, 4, none⟩) hbl).trans z4
                have c5 := (s0.cell (p := ⟨gb, 5, none⟩) hbl).trans z5
                have c6 := (s0.cell (p := ⟨gb, 6, none⟩) hbl).trans z6
                have c7 := (s0.cell (p := ⟨gb, 7, none⟩) hbl).trans z7
                go_simp
                all_goals with_reducible rfl
              simp only [Act.put, List.setIfInBounds_toArray, List.set_cons_zero, List.set_cons_succ, List.getElem_toArray, List.getElem_cons_zero, List.getElem_cons_succ]
              refine wpAnyH_take (i := 9) (v := ?_) rfl (by kernel_rfl) (by kernel_rfl) (by kernel_rfl) (fun _ _ _ h => h) (Or.inl ⟨by rfl, ?_⟩) (by assumption) ?_
              rotate_left 1
              · intro wz s0
                go_simp
                all_goals with_reducible rfl
              simp only [Act.put, List.setIfInBounds_toArray, List.set_cons_zero, List.set_cons_succ, List.getElem_toArray, List.getElem_cons_zero, List.getElem_cons_succ]
              refine wpAnyH_ready (rs := [8]) (by kernel_rfl) (by simp) (AllReadyH.cons rfl (fun K hK => ?_) AllReadyH.nil)
              go_simp
              refine (HWi.out _).mono ?_
              rintro e w2 ⟨rfl, hb2⟩
              refine hK.out _ _ ?_ (fun hHeld => ?_)
              · exact hHeld.trans (hb2.mono hHeld.size)
              clear hK K hb2
              refine wpAnyH_take (i := 10) (v := .bool true) rfl (by kernel_rfl) (by kernel_rfl) (by kernel_rfl) (fun _ _ _ h => h) (Or.inl ⟨by rfl, ?_⟩) (by assumption) ?_
              · intro wz s0
                go_simp
                all_goals (first | with_reducible rfl | simp)
              simp only [Act.put, List.setIfInBounds_toArray, List.set_cons_zero, List.set_cons_succ, List.getElem_toArray, List.getElem_cons_zero, List.getElem_cons_succ]
              refine wpAnyH_take (i := 11) (v := .bool true) rfl (by kernel_rfl) (by kernel_rfl) (by kernel_rfl) (fun _ _ _ h => h) (Or.inl ⟨by rfl, ?_⟩) (by assumption) ?_
              · intro wz s0
                go_simp
                all_goals (first | with_reducible rfl | simp)
              simp only [Act.put, List.setIfInBounds_toArray, List.set_cons_zero, List.set_cons_succ, List.getElem_toArray, List.getElem_cons_zero, List.getElem_cons_succ]
              refine wpAnyH_take (i := 12) (v := .bool true) rfl (by kernel_rfl) (by kernel_rfl) (by kernel_rfl) (fun _ _ _ h => h) (Or.inl ⟨by rfl, ?_⟩) (by assumption) ?_
              · intro wz s0
                go_simp
                all_goals (first | with_reducible rfl | simp)
              simp only [Act.put, List.setIfInBounds_toArray, List.set_cons_zero, List.set_cons_succ, List.getElem_toArray, List.getElem_cons_zero, List.getElem_cons_succ]
              refine wpAnyH_take (i := 13) (v := ?_) rfl (by kernel_rfl) (by kernel_rfl) (by kernel_rfl) (fun _ _ _ h => h) (Or.inl ⟨by rfl, ?_⟩) (by assumption) ?_
              rotate_left 1
              · intro wz s0
                obtain ⟨z0, z1, z2, z3, z4, z5, z6, z7⟩ := a0
                have c0 := (s0.cell (p := ⟨ga, 0, none⟩) hal).trans z0
                have c1 := (s0.cell (p := ⟨ga, 1, none⟩) hal).trans z1
                have c2 := (s0.cell (p := ⟨ga, 2, none⟩) hal).trans z2
                have c3 := (s0.cell (p := ⟨ga, 3, none⟩) hal).trans z3
                have c4 := (s0.cell (p := ⟨ga, 4, none⟩) hal).trans z4
                have c5 := (s0.cell (p := ⟨ga, 5, none⟩) hal).trans z5
                have c6 := (s0.cell (p := ⟨ga, 6, none⟩) hal).trans z6
                have c7 := (s0.cell (p := ⟨ga, 7, none⟩) hal).trans z7
                go_simp
                all_goals with_reducible rfl
              simp only [Act.put, List.setIfInBounds_toArray, List.set_cons_zero, List.set_cons_succ, List.getElem_toArray, List.getElem_cons_zero, List.getElem_cons_succ]
              refine wpAnyH_take (i := 14) (v := ?_) rfl (by kernel_rfl) (by kernel_rfl) (by kernel_rfl) (fun _ _ _ h => h) (Or.inl ⟨by rfl, ?_⟩) (by assumption) ?_
              rotate_left 1
              · intro wz s0
                obtain ⟨z0, z1, z2, z3, z4, z5, z6, z7⟩ := b0
                have c0 := (s0.cell (p := ⟨gb, 0, none⟩) hbl).trans z0
                have c1 := (s0.cell (p := ⟨gb, 1, none⟩) hbl).trans z1
                have c2 := (s0.cell (p := ⟨gb, 2, none⟩) hbl).trans z2
                have c3 := (s0.cell (p := ⟨gb, 3, none⟩) hbl).trans z3
                have c4 := (s0.cell (p := ⟨gb, 4, none⟩) hbl).trans z4
                have c5 := (s0.cell (p := ⟨gb, 5, none⟩) hbl).trans z5
                have c6 := (s0.cell (p := ⟨gb, 6, none⟩) hbl).trans z6
                have c7 := (s0.cell (p := ⟨gb, 7, none⟩) hbl).trans z7
                go_simp
                all_goals with_reducible rfl
              simp only [Act.put, List.setIfInBounds_toArray, List.set_cons_zero, List.set_cons_succ, List.getElem_toArray, List.getElem_cons_zero, List.getElem_cons_succ]
              refine wpAnyH_take (i := 16) (v := .bool true) rfl (by kernel_rfl) (by kernel_rfl) (by kernel_rfl) (fun _ _ _ h => h) (Or.inl ⟨by rfl, ?_⟩) (by assumption) ?_
              · intro wz s0
                go_simp
                all_goals (first | with_reducible rfl | simp)
              simp only [Act.put, List.setIfInBounds_toArray, List.set_cons_zero, List.set_cons_succ, List.getElem_toArray, List.getElem_cons_zero, List.getElem_cons_succ]
              refine wpAnyH_ready (rs := [15]) (by kernel_rfl) (by simp) (AllReadyH.cons rfl (fun K hK => ?_) AllReadyH.nil)
              go_simp
              refine (HLs.out _).mono ?_
              rintro e w2 ⟨rfl, hb2⟩
              refine hK.out _ _ ?_ (fun hHeld => ?_)
              · exact hHeld.trans (hb2.mono hHeld.size)
              clear hK K hb2
              refine wpAnyH_take (i := 17) (v := .bool true) rfl (by kernel_rfl) (by kernel_rfl) (by kernel_rfl) (fun _ _ _ h => h) (Or.inl ⟨by rfl, ?_⟩) (by assumption) ?_
              · intro wz s0
                go_simp
                all_goals (first | with_reducible rfl | simp)
              simp only [Act.put, List.setIfInBounds_toArray, List.set_cons_zero, List.set_cons_succ, List.getElem_toArray, List.getElem_cons_zero, List.getElem_cons_succ]
              refine wpAnyH_take (i := 18) (v := ?_) rfl (by kernel_rfl) (by kernel_rfl) (by kernel_rfl) (fun _ _ _ h => h) (Or.inl ⟨by rfl, ?_⟩) (by assumption) ?_
              rotate_left 1
              · intro wz s0
                obtain ⟨z0, z1, z2, z3, z4, z5, z6, z7⟩ := v0
                have c0 := (s0.cell (p := ⟨w.heap.size, 0, none⟩) hvl).trans z0
                have c1 := (s0.cell (p := ⟨w.heap.size, 1, none⟩) hvl).trans z1
                have c2 := (s0.cell (p := ⟨w.heap.size, 2, none⟩) hvl).trans z2
                have c3 := (s0.cell (p := ⟨w.heap.size, 3, none⟩) hvl).trans z3
                have c4 := (s0.cell (p := ⟨w.heap.size, 4, none⟩) hvl).trans z4
                have c5 := (s0.cell (p := ⟨w.heap.size, 5, none⟩) hvl).trans z5
                have c6 := (s0.cell (p := ⟨w.heap.size, 6, none⟩) hvl).trans z6
                have c7 := (s0.cell (p := ⟨w.heap.size, 7, none⟩) hvl).trans z7
                go_simp
                all_goals with_reducible rfl
              simp only [Act.put, List.setIfInBounds_toArray, List.set_cons_zero, List.set_cons_succ, List.getElem_toArray, List.getElem_cons_zero, List.getElem_cons_succ]
              refine wpAnyH_take (i := 19) (v := ?_) rfl (by kernel_rfl) (by kernel_rfl) (by kernel_rfl) (fun _ _ _ h => h) (Or.inl ⟨by rfl, ?_⟩) (by assumption) ?_
              rotate_left 1
              · intro wz s0
                obtain ⟨z0, z1, z2, z3, z4, z5, z6, z7⟩ := u0
                have c0 := (s0.cell (p := ⟨w.heap.size + 1, 0, none⟩) hul).trans z0
                have c1 := (s0.cell (p := ⟨w.heap.size + 1, 1, none⟩) hul).trans z1
                have c2 := (s0.cell (p := ⟨w.heap.size + 1, 2, none⟩) hul).trans z2
                have c3 := (s0.cell (p := ⟨w.heap.size + 1, 3, none⟩) hul).trans z3
                have c4 := (s0.cell (p := ⟨w.heap.size + 1, 4, none⟩) hul).trans z4
                have c5 := (s0.cell (p := ⟨w.heap.size + 1, 5, none⟩) hul).trans z5
                have c6 := (s0.cell (p := ⟨w.heap.size + 1, 6, none⟩) hul).trans z6
                have c7 := (s0.cell (p := ⟨w.heap.size + 1, 7, none⟩) hul).trans z7
                go_simp
                all_goals with_reducible rfl
              simp only [Act.put, List.setIfInBounds_toArray, List.set_cons_zero, List.set_cons_succ, List.getElem_toArray, List.getElem_cons_zero, List.getElem_cons_succ]
              refine wpAnyH_take (i := 20) (v := .bool true) rfl (by kernel_rfl) (by kernel_rfl) (by kernel_rfl) (fun _ _ _ h => h) (Or.inl ⟨by rfl, ?_⟩) (by assumption) ?_
              · intro wz s0
                go_simp
                all_goals (first | with_reducible rfl | simp)
              simp only [Act.put, List.setIfInBounds_toArray, List.set_cons_zero, List.set_cons_succ, List.getElem_toArray, List.getElem_cons_zero, List.getElem_cons_succ]
              refine wpAnyH_take (i := 21) (v := .bool true) rfl (by kernel_rfl) (by kernel_rfl) (by kernel_rfl) (fun _ _ _ h => h) (Or.inl ⟨by rfl, ?_⟩) (by assumption) ?_
              · intro wz s0
                go_simp
                all_goals (first | with_reducible rfl | simp)
              simp only [Act.put, List.setIfInBounds_toArray, List.set_cons_zero, List.set_cons_succ, List.getElem_toArray, List.getElem_cons_zero, List.getElem_cons_succ]
              refine wpAnyH_take (i := 22) (v := .bool true) rfl (by kernel_rfl) (by kernel_rfl) (by kernel_rfl) (fun _ _ _ h => h) (Or.inl ⟨by rfl, ?_⟩) (by assumption) ?_
              · intro wz s0
                go_simp
                all_goals (first | with_reducible rfl | simp)
              simp only [Act.put, List.setIfInBounds_toArray, List.set_cons_zero, List.set_cons_succ, List.getElem_toArray, List.getElem_cons_zero, List.getElem_cons_succ]
              refine wpAnyH_take (i := 23) (v := .bool true) rfl (by kernel_rfl) (by kernel_rfl) (by kernel_rfl) (fun _ _ _ h => h) (Or.inl ⟨by rfl, ?_⟩) (by assumption) ?_
              · intro wz s0
                go_simp
                all_goals (first | with_reducible rfl | simp)
              simp only [Act.put, List.setIfInBounds_toArray, List.set_cons_zero, List.set_cons_succ, List.getElem_toArray, List.getElem_cons_zero, List.getElem_cons_succ]
              refine wpAnyH_take (i := 24) (v := ?_) rfl (by kernel_rfl) (by kernel_rfl) (by kernel_rfl) (fun _ _ _ h => h) (Or.inl ⟨by rfl, ?_⟩) (by assumption) ?_
              rotate_left 1
              · intro wz s0
                go_simp
                all_goals with_reducible rfl
              simp only [Act.put, List.setIfInBounds_toArray, List.set_cons_zero, List.set_cons_succ, List.getElem_toArray, List.getElem_cons_zero, List.getElem_cons_succ]
              refine wpAnyH_done (by kernel_rfl) ?_ _
              go_wp2
              go_ret
              exact ⟨rfl, HB.out.trans (hHeld.mono HB.out.size)⟩
            · refine wp_region_held_drew (S := (fun w' => Below wc.heap.size wc w')) (by kernel_rfl) (Below.refl _ _).drew (fun hHeld => ?_)
              refine wpAnyH_take (i := 0) (v := ?_) rfl (by kernel_rfl) (by kernel_rfl) (by kernel_rfl) (fun _ _ _ h => h) (Or.inl ⟨by rfl, ?_⟩) (by assumption) ?_
              rotate_left 1
              · intro wz s0
                obtain ⟨z0, z1, z2, z3, z4, z5, z6, z7⟩ := a0
                have c0 := (s0.cell (p := ⟨ga, 0, none⟩) hal).trans z0
                have c1 := (s0.cell (p := ⟨ga, 1, none⟩) hal).trans z1
                have c2 := (s0.cell (p := ⟨ga, 2, none⟩) hal).trans z2
                have c3 := (s0.cell (p := ⟨ga, 3, none⟩) hal).trans z3
                have c4 := (s0.cell (p := ⟨ga, 4, none⟩) hal).trans z4
                have c5 := (s0.cell (p := ⟨ga, 5, none⟩) hal).trans z5
                have c6 := (s0.cell (p := ⟨ga, 6, none⟩) hal).trans z6
                have c7 := (s0.cell (p := ⟨ga, 7, none⟩) hal).trans z7
                go_simp
                all_goals with_reducible rfl
              simp only [Act.put, List.setIfInBounds_toArray, List.set_cons_zero, List.set_cons_succ, List.getElem_toArray, List.getElem_cons_zero]
              refine wpAnyH_take (i := 1) (v := ?_) rfl (by kernel_rfl) (by kernel_rfl) (by kernel_rfl) (fun _ _ _ h => h) (Or.inl ⟨by rfl, ?_⟩) (by assumption) ?_
              rotate_left 1
              · intro wz s0
                obtain ⟨z0, z1, z2, z3, z4, z5, z6, z7⟩ := b0
                have c0 := (s0.cell (p := ⟨gb, 0, none⟩) hbl).trans z0
                have c1 := (s0.cell (p := ⟨gb, 1, none⟩) hbl).trans z1
                have c2 := (s0.cell (p := ⟨gb, 2, none⟩) hbl).trans z2
                have c3 := (s0.cell (p := ⟨gb, 3, none⟩) hbl).trans z3
                have c4 := (s0.cell (p := ⟨gb, 4, none⟩) hbl).trans z4
                have c5 := (s0.cell (p := ⟨gb, 5, none⟩) hbl).trans z5
                have c6 := (s0.cell (p := ⟨gb, 6, none⟩) hbl).trans z6
                have c7 := (s0.cell (p := ⟨gb, 7, none⟩) hbl).trans z7
                go_simp
                all_goals with_reducible rfl
              simp only [Act.put, List.setIfInBounds_toArray, List.set_cons_zero, List.set_cons_succ, List.getElem_toArray, List.getElem_cons_zero, List.getElem_cons_succ]
              refine wpAnyH_take (i := 3) (v := ?_) rfl (by kernel_rfl) (by kernel_rfl) (by kernel_rfl) (fun _ _ _ h => h) (Or.inl ⟨by rfl, ?_⟩) (by assumption) ?_
              rotate_left 1
              · intro wz s0
                obtain ⟨z0, z1, z2, z3, z4, z5, z6, z7⟩ := j0
                have c0 := (s0.cell (p := ⟨J, 0, none⟩) hjl).trans z0
                have c1 := (s0.cell (p := ⟨J, 1, none⟩) hjl).trans z1
                have c2 := (s0.cell (p := ⟨J, 2, none⟩) hjl).trans z2
                have c3 := (s0.cell (p := ⟨J, 3, none⟩) hjl).trans z3
                have c4 := (s0.cell (p := ⟨J, 4, none⟩) hjl).trans z4
                have c5 := (s0.cell (p := ⟨J, 5, none⟩) hjl).trans z5
                have c6 := (s0.cell (p := ⟨J, 6, none⟩) hjl).trans z6
                have c7 := (s0.cell (p := ⟨J, 7, none⟩) hjl).trans z7
                go_simp
                all_goals with_reducible rfl
              simp only [Act.put, List.setIfInBounds_toArray, List.set_cons_zero, List.set_cons_succ, List.getElem_toArray, List.getElem_cons_zero, List.getElem_cons_succ]
              refine wpAnyH_ready (rs := [2]) (by kernel_rfl) (by simp) (AllReadyH.cons rfl (fun K hK => ?_) AllReadyH.nil)
              go_simp
              refine (HJn.out _).mono ?_
              rintro e w2 ⟨rfl, hb2⟩
              refine hK.out _ _ ?_ (fun hHeld => ?_)
              · exact hHeld.trans (hb2.mono hHeld.size)
              clear hK K hb2
              refine wpAnyH_take (i := 4) (v := .bool true) rfl (by kernel_rfl) (by kernel_rfl) (by kernel_rfl) (fun _ _ _ h => h) (Or.inl ⟨by rfl, ?_⟩) (by assumption) ?_
              · intro wz s0
                go_simp
                all_goals (first | with_reducible rfl | simp)
              simp only [Act.put, List.setIfInBounds_toArray, List.set_cons_zero, List.set_cons_succ, List.getElem_toArray, List.getElem_cons_zero, List.getElem_cons_succ]
              refine wpAnyH_take (i := 5) (v := .bool true) rfl (by kernel_rfl) (by kernel_rfl) (by kernel_rfl) (fun _ _ _ h => h) (Or.inl ⟨by rfl, ?_⟩) (by assumption) ?_
              · intro wz s0
                go_simp
                all_goals (first | with_reducible rfl | simp)
              simp only [Act.put, List.setIfInBounds_toArray, List.set_cons_zero, List.set_cons_succ, List.getElem_toArray, List.getElem_cons_zero, List.getElem_cons_succ]
              refine wpAnyH_take (i := 6) (v := ?_) rfl (by kernel_rfl) (by kernel_rfl) (by kernel_rfl) (fun _ _ _ h => h) (Or.inl ⟨by rfl, ?_⟩) (by assumption) ?_
              rotate_left 1
              · intro wz s0
                obtain ⟨z0, z1, z2, z3, z4, z5, z6, z7⟩ := a0
                have c0 := (s0.cell (p := ⟨ga, 0, none⟩) hal).trans z0
                have c1 := (s0.cell (p := ⟨ga, 1, none⟩) hal).trans z1
                have c2 := (s0.cell (p := ⟨ga, 2, none⟩) hal).trans z2
                have c3 := (s0.cell (p := ⟨ga, 3, none⟩) hal).trans z3
                have c4 := (s0.cell (p := ⟨ga, 4, none⟩) hal).trans z4
                have c5 := (s0.cell (p := ⟨ga, 5, none⟩) hal).trans z5
                have c6 := (s0.cell (p := ⟨ga, 6, none⟩) hal).trans z6
                have c7 := (s0.cell (p := ⟨ga, 7, none⟩) hal).trans z7
                go_simp
                all_goals with_reducible rfl
              simp only [Act.put, List.setIfInBounds_toArray, List.set_cons_zero, List.set_cons_succ, List.getElem_toArray, List.getElem_cons_zero, List.getElem_cons_succ]
              refine wpAnyH_take (i := 7) (v := ?_) rfl (by kernel_rfl) (by kernel_rfl) (by kernel_rfl) (fun _ _ _ h => h) (Or.inl ⟨by rfl, ?_⟩) (by assumption) ?_
              rotate_left 1
              · intro wz s0
                obtain ⟨z0, z1, z2, z3, z4, z5, z6, z7⟩ := b0
                have c0 := (s0.cell (p := ⟨gb, 0, none⟩) hbl).trans z0
                have c1 := (s0.cell (p := ⟨gb, 1, none⟩) hbl).trans z1
                have c2 := (s0.cell (p := ⟨gb, 2, none⟩) hbl).trans z2
                have c3 := (s0.cell (p := ⟨gb, 3, none⟩) hbl).trans z3
                have c4 := (s0.cell (p := ⟨gb, 4, none⟩) hbl).trans z4
                have c5 := (s0.cell (p := ⟨gb, 5, none⟩) hbl).trans z5
                have c6 := (s0.cell (p := ⟨gb, 6, none⟩) hbl).trans z6
                have c7 := (s0.cell (p := ⟨gb, 7, none⟩) hbl).trans z7
                go_simp
                all_goals with_reducible rfl
              simp only [Act.put, List.setIfInBounds_toArray, List.set_cons_zero, List.set_cons_succ, List.getElem_toArray, List.getElem_cons_zero, List.getElem_cons_succ]
              refine wpAnyH_take (i := 9) (v := ?_) rfl (by kernel_rfl) (by kernel_rfl) (by kernel_rfl) (fun _ _ _ h => h) (Or.inl ⟨by rfl, ?_⟩) (by assumption) ?_
              rotate_left 1
              · intro wz s0
                go_simp
                all_goals with_reducible rfl
              simp only [Act.put, List.setIfInBounds_toArray, List.set_cons_zero, List.set_cons_succ, List.getElem_toArray, List.getElem_cons_zero, List.getElem_cons_succ]
              refine wpAnyH_ready (rs := [8]) (by kernel_rfl) (by simp) (AllReadyH.cons rfl (fun K hK => ?_) AllReadyH.nil)
              go_simp
              refine (HWi.out _).mono ?_
              rintro e w2 ⟨rfl, hb2⟩
              refine hK.out _ _ ?_ (fun hHeld => ?_)
              · exact hHeld.trans (hb2.mono hHeld.size)
              clear hK K hb2
              refine wpAnyH_take (i := 10) (v := .bool true) rfl (by kernel_rfl) (by kernel_rfl) (by kernel_rfl) (fun _ _ _ h => h) (Or.inl ⟨by rfl, ?_⟩) (by assumption) ?_
              · intro wz s0
                go_simp
                all_goals (first | with_reducible rfl | simp)
              simp only [Act.put, List.setIfInBounds_toArray, List.set_cons_zero, List.set_cons_succ, List.getElem_toArray, List.getElem_cons_zero, List.getElem_cons_succ]
              refine wpAnyH_take (i := 11) (v := .bool true) rfl (by kernel_rfl) (by kernel_rfl) (by kernel_rfl) (fun _ _ _ h => h) (Or.inl ⟨by rfl, ?_⟩) (by assumption) ?_
              · intro wz s0
                go_simp
                all_goals (first | with_reducible rfl | simp)
              simp only [Act.put, List.setIfInBounds_toArray, List.set_cons_zero, List.set_cons_succ, List.getElem_toArray, List.getElem_cons_zero, List.getElem_cons_succ]
              refine wpAnyH_take (i := 12) (v := .bool true) rfl (by kernel_rfl) (by kernel_rfl) (by kernel_rfl) (fun _ _ _ h => h) (Or.inl ⟨by rfl, ?_⟩) (by assumption) ?_
              · intro wz s0
                go_simp
                all_goals (first | with_reducible rfl | simp)
              simp only [Act.put, List.setIfInBounds_toArray, List.set_cons_zero, List.set_cons_succ, List.getElem_toArray, List.getElem_cons_zero, List.getElem_cons_succ]
              refine wpAnyH_take (i := 13) (v := ?_) rfl (by kernel_rfl) (by kernel_rfl) (by kernel_rfl) (fun _ _ _ h => h) (Or.inl ⟨by rfl, ?_⟩) (by assumption) ?_
              rotate_left 1
              · intro wz s0
                obtain ⟨z0, z1, z2, z3, z4, z5, z6, z7⟩ := a0
                have c0 := (s0.cell (p := ⟨ga, 0, none⟩) hal).trans z0
                have c1 := (s0.cell (p := ⟨ga, 1, none⟩) hal).trans z1
                have c2 := (s0.cell (p := ⟨ga, 2, none⟩) hal).trans z2
                have c3 := (s0.cell (p := ⟨ga, 3, none⟩) hal).trans z3
                have c4 := (s0.cell (p := ⟨ga, 4, none⟩) hal).trans z4
                have c5 := (s0.cell (p := ⟨ga, 5, none⟩) hal).trans z5
                have c6 := (s0.cell (p := ⟨ga, 6, none⟩) hal).trans z6
                have c7 := (s0.cell (p := ⟨ga, 7, none⟩) hal).trans z7
                go_simp
                all_goals with_reducible rfl
              simp only [Act.put, List.setIfInBounds_toArray, List.set_cons_zero, List.set_cons_succ, List.getElem_toArray, List.getElem_cons_zero, List.getElem_cons_succ]
              refine wpAnyH_take (i := 14) (v := ?_) rfl (by kernel_rfl) (by kernel_rfl) (by kernel_rfl) (fun _ _ _ h => h) (Or.inl ⟨by rfl, ?_⟩) (by assumption) ?_
              rotate_left 1
              · intro wz s0
                obtain ⟨z0, z1, z2, z3, z4, z5, z6, z7⟩ := b0
                have c0 := (s0.cell (p := ⟨gb, 0, none⟩) hbl).trans z0
                have c1 := (s0.cell (p := ⟨gb, 1, none⟩) hbl).trans z1
                have c2 := (s0.cell (p := ⟨gb, 2, none⟩) hbl).trans z2
                have c3 := (s0.cell (p := ⟨gb, 3, none⟩) hbl).trans z3
                have c4 := (s0.cell (p := ⟨gb, 4, none⟩) hbl).trans z4
                have c5 := (s0.cell (p := ⟨gb, 5, none⟩) hbl).trans z5
                have c6 := (s0.cell (p := ⟨gb, 6, none⟩) hbl).trans z6
                have c7 := (s0.cell (p := ⟨gb, 7, none⟩) hbl).trans z7
                go_simp
                all_goals with_reducible rfl
              simp only [Act.put, List.setIfInBounds_toArray, List.set_cons_zero, List.set_cons_succ, List.getElem_toArray, List.getElem_cons_zero, List.getElem_cons_succ]
              refine wpAnyH_take (i := 16) (v := .bool true) rfl (by kernel_rfl) (by kernel_rfl) (by kernel_rfl) (fun _ _ _ h => h) (Or.inl ⟨by rfl, ?_⟩) (by assumption) ?_
              · intro wz s0
                go_simp
                all_goals (first | with_reducible rfl | simp)
              simp only [Act.put, List.setIfInBounds_toArray, List.set_cons_zero, List.set_cons_succ, List.getElem_toArray, List.getElem_cons_zero, List.getElem_cons_succ]
              refine wpAnyH_ready (rs := [15]) (by kernel_rfl) (by simp) (AllReadyH.cons rfl (fun K hK => ?_) AllReadyH.nil)
              go_simp
              refine (HLs.out _).mono ?_
              rintro e w2 ⟨rfl, hb2⟩
              refine hK.out _ _ ?_ (fun hHeld => ?_)
              · exact hHeld.trans (hb2.mono hHeld.size)
              clear hK K hb2
              refine wpAnyH_take (i := 17) (v := .bool true) rfl (by kernel_rfl) (by kernel_rfl) (by kernel_rfl) (fun _ _ _ h => h) (Or.inl ⟨by rfl, ?_⟩) (by assumption) ?_
              · intro wz s0
                go_simp
                all_goals (first | with_reducible rfl | simp)
              simp only [Act.put, List.setIfInBounds_toArray, List.set_cons_zero, List.set_cons_succ, List.getElem_toArray, List.getElem_cons_zero, List.getElem_cons_succ]
              refine wpAnyH_take (i := 18) (v := ?_) rfl (by kernel_rfl) (by kernel_rfl) (by kernel_rfl) (fun _ _ _ h => h) (Or.inl ⟨by rfl, ?_⟩) (by assumption) ?_
              rotate_left 1
              · intro wz s0
                obtain ⟨z0, z1, z2, z3, z4, z5, z6, z7⟩ := v0
                have c0 := (s0.cell (p := ⟨w.heap.size, 0, none⟩) hvl).trans z0
                have c1 := (s0.cell (p := ⟨w.heap.size, 1, none⟩) hvl).trans z1
                have c2 := (s0.cell (p := ⟨w.heap.size, 2, none⟩) hvl).trans z2
                have c3 := (s0.cell (p := ⟨w.heap.size, 3, none⟩) hvl).trans z3
                have c4 := (s0.cell (p := ⟨w.heap.size, 4, none⟩) hvl).trans z4
                have c5 := (s0.cell (p := ⟨w.heap.size, 5, none⟩) hvl).trans z5
                have c6 := (s0.cell (p := ⟨w.heap.size, 6, none⟩) hvl).trans z6
                have c7 := (s0.cell (p := ⟨w.heap.size, 7, none⟩) hvl).trans z7
                go_simp
                all_goals with_reducible rfl
              simp only [Act.put, List.setIfInBounds_toArray, List.set_cons_zero, List.set_cons_succ, List.getElem_toArray, List.getElem_cons_zero, List.getElem_cons_succ]
              refine wpAnyH_take (i := 19) (v := ?_) rfl (by kernel_rfl) (by kernel_rfl) (by kernel_rfl) (fun _ _ _ h => h) (Or.inl ⟨by rfl, ?_⟩) (by assumption) ?_
              rotate_left 1
              · intro wz s0
                obtain ⟨z0, z1, z2, z3, z4, z5, z6, z7⟩ := u0
                have c0 := (s0.cell (p := ⟨w.heap.size + 1, 0, none⟩) hul).trans z0
                have c1 := (s0.cell (p := ⟨w.heap.size + 1, 1, none⟩) hul).trans z1
                have c2 := (s0.cell (p := ⟨w.heap.size + 1, 2, none⟩) hul).trans z2
                have c3 := (s0.cell (p := ⟨w.heap.size + 1, 3, none⟩) hul).trans z3
                have c4 := (s0.cell (p := ⟨w.heap.size + 1, 4, none⟩) hul).trans z4
                have c5 := (s0.cell (p := ⟨w.heap.size + 1, 5, none⟩) hul).trans z5
                have c6 := (s0.cell (p := ⟨w.heap.size + 1, 6, none⟩) hul).trans z6
                have c7 := (s0.cell (p := ⟨w.heap.size + 1, 7, none⟩) hul).trans z7
                go_simp
                all_goals with_reducible rfl
              simp only [Act.put, List.setIfInBounds_toArray, List.set_cons_zero, List.set_cons_succ, List.getElem_toArray, List.getElem_cons_zero, List.getElem_cons_succ]
              refine wpAnyH_take (i := 20) (v := .bool false) rfl (by kernel_rfl) (by kernel_rfl) (by kernel_rfl) (fun _ _ _ h => h) (Or.inl ⟨by rfl, ?_⟩) (by assumption) ?_
              · intro wz s0
                go_simp
                all_goals (first | with_reducible rfl | simp)
              simp only [Act.put, List.setIfInBounds_toArray, List.set_cons_zero, List.set_cons_succ, List.getElem_toArray, List.getElem_cons_zero, List.getElem_cons_succ]
              refine wpAnyH_take (i := 21) (v := .bool false) rfl (by kernel_rfl) (by kernel_rfl) (by kernel_rfl) (fun _ _ _ h => h) (Or.inl ⟨by rfl, ?_⟩) (by assumption) ?_
              · intro wz s0
                go_simp
                all_goals (first | with_reducible rfl | simp)
              simp only [Act.put, List.setIfInBounds_toArray, List.set_cons_zero, List.set_cons_succ, List.getElem_toArray, List.getElem_cons_zero, List.getElem_cons_succ]
              refine wpAnyH_take (i := 22) (v := .bool true) rfl (by kernel_rfl) (by kernel_rfl) (by kernel_rfl) (fun _ _ _ h => h) (Or.inl ⟨by rfl, ?_⟩) (by assumption) ?_
              · intro wz s0
                go_simp
                all_goals (first | with_reducible rfl | simp)
              simp only [Act.put, List.setIfInBounds_toArray, List.set_cons_zero, List.set_cons_succ, List.getElem_toArray, List.getElem_cons_zero, List.getElem_cons_succ]
              refine wpAnyH_take (i := 23) (v := .bool true) rfl (by kernel_rfl) (by kernel_rfl) (by kernel_rfl) (fun _ _ _ h => h) (Or.inl ⟨by rfl, ?_⟩) (by assumption) ?_
              · intro wz s0
                go_simp
                all_goals (first | with_reducible rfl | simp)
              simp only [Act.put, List.setIfInBounds_toArray, List.set_cons_zero, List.set_cons_succ, List.getElem_toArray, List.getElem_cons_zero, List.getElem_cons_succ]
              refine wpAnyH_take (i := 24) (v := ?_) rfl (by kernel_rfl) (by kernel_rfl) (by kernel_rfl) (fun _ _ _ h => h) (Or.inl ⟨by rfl, ?_⟩) (by assumption) ?_
              rotate_left 1
              · intro wz s0
                go_simp
                all_goals with_reducible rfl
              simp only [Act.put, List.setIfInBounds_toArray, List.set_cons_zero, List.set_cons_succ, List.getElem_toArray, List.getElem_cons_zero, List.getElem_cons_succ]
              refine wpAnyH_done (by kernel_rfl) ?_ _
              go_wp2
              go_ret
              exact ⟨rfl, HB.out.trans (hHeld.mono HB.out.size)⟩
end Go.Proofs.Ytmonbkoelehdlab
