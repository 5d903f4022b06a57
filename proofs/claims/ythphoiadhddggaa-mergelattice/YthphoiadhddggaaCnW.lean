/-
  The statements' own 'counts' (a counter made of numbers), walked.
-/
import Derived.Test.YthphoiadhddggaaLaC
import Derived.Test.YthphoiadhddggaaGrT
namespace Go.Proofs.Ythphoiadhddggaa
open Go.RowKit

theorem wp_storeN {op : Oper} {a : Act} {w : World} {K : Act → World → Prop} {Q : Exit → Act → World → Prop} (ty : TypeId) (x y : Operand) (ho : op.op = .store ty x y) (b n : Nat) (c d : Nat → Int) (hx : a.eval x = .pointer (some ⟨b, 0, none⟩)) (hy : a.eval y = .agg (nL n d).toArray) (h : NumB w b n c)
    (hi : (Try.prog.info? ty).map (·.size) = some n) (hK : ∀ w', NumB w' b n d → w.grownBy w' (some b) → K (a.put op.dst undef) w') : Oper.wp Try.prog op a w K Q :=
  wp_store_mid ty x y ho b 0 (nL n d).toArray hx hy (by rw [nS]; exact h.there) (by rw [nS]; exact hi) (all_oneCell_toArray (nL_one n d)) (hK _ (h.store d) (grown_setC w b n d))
theorem modB (y : Int) : -1000000 ≤ y.tmod 1000 ∧ y.tmod 1000 ≤ 1000000 := by
  have h1 : y.tmod 1000 < 1000 := Int.tmod_lt_of_pos y (by omega)
  have h2 : -1000 < y.tmod 1000 := by
    have := Int.tmod_lt_of_pos (-y) (show (0 : Int) < 1000 by omega)
    rw [Int.neg_tmod] at this
    omega
  omega
/-- .. behind Add. -/
def AddCut (wr : World) (u e : Value) (wx : World) : Prop := ∃ (b : Nat) (d : Nat → Int), u = .pointer (some ⟨b, 0, none⟩) ∧ e = .nilIface ∧ NumB wx b 14 d ∧ wr.heap.size ≤ b ∧ Below wr.heap.size wr wx
/-- What counts tells: a counter. -/
def CntTold (w : World) (e : Ending) (w' : World) : Prop := ∃ c : Nat → Int, e = .returned (.agg (nL 14 c).toArray) ∧ Below w.heap.size w w'

set_option maxRecDepth 100000 in
set_option maxHeartbeats 8000000 in
theorem counts_any (l : List Int) (a : Option Addr) (cap : Nat) (w : World) (hl : IntsQ w a l) :
    Calls Try.prog 12 #[.slice a l.length cap] w fun e w' => CntTold w e w' := by
  have HL := hideIt hl
  clear hl
  have HV0 : Hid (NumB ((w.alloc (.cells (nL 14 fun _ => 0).toArray 33)).alloc (.cells (nL 14 fun _ => 0).toArray 33)) w.heap.size 14 (fun _ => 0)) := (numB_new w 14 (fun _ => 0) 33).alloc _
  have HV1 : Hid (NumB ((w.alloc (.cells (nL 14 fun _ => 0).toArray 33)).alloc (.cells (nL 14 fun _ => 0).toArray 33)) (w.heap.size + 1) 14 (fun _ => 0)) := by
    have := numB_new (w.alloc (.cells (nL 14 fun _ => 0).toArray 33)) 14 (fun _ => 0) 33
    rw [World.size_alloc] at this
    exact this
  have HB0 : Hid (Below w.heap.size w ((w.alloc (.cells (nL 14 fun _ => 0).toArray 33)).alloc (.cells (nL 14 fun _ => 0).toArray 33))) := belA (belA (Below.refl _ _) _) _
  go_enter Try.func12, Try.ntmps12
  go_upto_region 2 with fail
  rw [zero33]
  generalize (w.alloc _).alloc _ = W at HV0 HV1 HB0 ⊢
  go_wp2
  go_loopw [4] (fun v wr => ∃ (k : Nat) (c : Nat → Int), k ≤ 30 ∧ v = .int .i64 k ∧ NumB wr w.heap.size 14 (fun _ => 0) ∧ NumB wr (w.heap.size + 1) 14 c ∧ Below w.heap.size w wr) (fun v _ => 30 - (intOf v).toNat)
  case atStart => exact ⟨0, fun _ => 0, by omega, rfl, HV0.out, HV1.out, HB0.out⟩
  case round =>
    clear HV0 HV1 HB0
    obtain ⟨k, c, hk, rfl, hv0, hv1, hbe⟩ := hrel
    have HV0 := hideIt hv0
    have HV1 := hideIt hv1
    have HB := hideIt hbe
    clear hv0 hv1 hbe
    by_cases hkn : k < l.length
    · have hkn' : (k : Int) < l.length := by omega
      by_cases hk20 : k < 30
      · have hk20' : (k : Int) < 30 := by omega
        obtain ⟨g, off, rfl, hgl, hcl⟩ := (HL.out.below HB.out).at hkn
        generalize l[k] = x at hcl
        have qn : ∀ W : World, (binOp .eql 43 .nilIface .nilIface).run Try.prog W = .ok (.bool true) W := fun W => by rfl
        have h1l := HV0.out.lt
        have h2l := HV1.out.lt
        have HX : Hid (∀ Z, Below wr.heap.size wr Z → Z.cell? ⟨g, off + k, none⟩ = some (.int .i64 x) ∧ True) := fun Z hZ => ⟨(hZ.cell (p := ⟨g, off + k, none⟩) hgl).trans hcl, trivial⟩
        have HXr : Hid (∀ Z, Below wr.heap.size wr Z → Z.rangeAt (w.heap.size + 1) 0 (nL 14 c)) := fun Z hZ => (HV1.out.below hZ h2l).range
        have HMd := hideIt (modB (IntKind.i64.wrap (x.tdiv 16)))
        go_upto_region 5 with fail
        go_cut [5, 6] from 17 to 32 (fun u e wx => AddCut wr u e wx)
        case rest =>
          rename World => w5
          obtain ⟨b, d, rfl, rfl, hnd, hbl, hb5⟩ := hcut
          have HND := hideIt hnd
          have HW0 := hideIt (HV0.out.below hb5 h1l)
          have HW1 := hideIt (HV1.out.below hb5 h2l)
          have HWb := hideIt (belJ HB.out hb5)
          clear hnd hb5
          go_wp2_with (first | (refine wpList_loadN rfl 33 (.tmp 5) rfl b 14 d rfl HND.out _ Try.underlying33 rfl size33 ?_) | (refine wpList_storeN rfl 33 (.tmp 3) (.tmp 35) rfl (w.heap.size + 1) 14 _ d rfl rfl HW1.out size33 ?_; intro w6 hn6 hg6; go_frame))
          go_roundw
          case rel => exact ⟨k + 1, d, by omega, by go_num, HW0.out.block (hg6.block _ HW0.out.lt (fun e => by have := Option.some.inj e; omega)), hn6, HWb.out.grown hg6 HWb.out.size (fun k hk => by cases hk; omega)⟩
          case measure => simp [intOf]; omega
        refine wp_region_held_drew (S := (fun Z => Below wr.heap.size wr Z)) (by kernel_rfl) (Below.refl _ _).drew (fun hHeld => ?_)
        refine wpAnyH_take (i := 0) (v := .agg (nL 14 c).toArray) rfl (by kernel_rfl) (by kernel_rfl) (by kernel_rfl) (fun _ _ _ h => h) (yieldsIf_load_mid (by rfl) 33 (.tmp 3) rfl (w.heap.size + 1) 0 rfl (nL 14 c) _ HXr.out Try.underlying33 rfl (hi33 c)) (by assumption) ?_
        simp only [Act.put, List.setIfInBounds_toArray, List.set_cons_zero, List.set_cons_succ, List.getElem_toArray, List.getElem_cons_zero]
        refine wpAnyH_take (i := 1) (v := ?_) rfl (by kernel_rfl) (by kernel_rfl) (by kernel_rfl) (fun _ _ _ h => h) (Or.inl ⟨by rfl, ?_⟩) (by assumption) ?_
        rotate_left 1
        · intro wz sb
          obtain ⟨y0, _⟩ := HX.out wz sb
          go_simp
          all_goals with_reducible rfl
        simp only [Act.put, List.setIfInBounds_toArray, List.set_cons_zero, List.set_cons_succ, List.getElem_toArray, List.getElem_cons_zero, List.getElem_cons_succ]
        refine wpAnyH_take (i := 2) (v := ?_) rfl (by kernel_rfl) (by kernel_rfl) (by kernel_rfl) (fun _ _ _ h => h) (Or.inl ⟨by rfl, ?_⟩) (by assumption) ?_
        rotate_left 1
        · intro wz sb
          obtain ⟨y0, _⟩ := HX.out wz sb
          go_simp
          all_goals with_reducible rfl
        simp only [Act.put, List.setIfInBounds_toArray, List.set_cons_zero, List.set_cons_succ, List.getElem_toArray, List.getElem_cons_zero, List.getElem_cons_succ]
        refine wpAnyH_take (i := 3) (v := ?_) rfl (by kernel_rfl) (by kernel_rfl) (by kernel_rfl) (fun _ _ _ h => h) (Or.inl ⟨by rfl, ?_⟩) (by assumption) ?_
        rotate_left 1
        · intro wz sb
          obtain ⟨y0, _⟩ := HX.out wz sb
          go_simp
          all_goals with_reducible rfl
        simp only [Act.put, List.setIfInBounds_toArray, List.set_cons_zero, List.set_cons_succ, List.getElem_toArray, List.getElem_cons_zero, List.getElem_cons_succ]
        refine wpAnyH_take (i := 4) (v := ?_) rfl (by kernel_rfl) (by kernel_rfl) (by kernel_rfl) (fun _ _ _ h => h) (Or.inl ⟨by rfl, ?_⟩) (by assumption) ?_
        rotate_left 1
        · intro wz sb
          obtain ⟨y0, _⟩ := HX.out wz sb
          go_simp
          all_goals with_reducible rfl
        simp only [Act.put, List.setIfInBounds_toArray, List.set_cons_zero, List.set_cons_succ, List.getElem_toArray, List.getElem_cons_zero, List.getElem_cons_succ]
        refine wpAnyH_take (i := 6) (v := ?_) rfl (by kernel_rfl) (by kernel_rfl) (by kernel_rfl) (fun _ _ _ h => h) (Or.inl ⟨by rfl, ?_⟩) (by assumption) ?_
        rotate_left 1
        · intro wz sb
          obtain ⟨y0, _⟩ := HX.out wz sb
          go_simp
          all_goals with_reducible rfl
        simp only [Act.put, List.setIfInBounds_toArray, List.set_cons_zero, List.set_cons_succ, List.getElem_toArray, List.getElem_cons_zero, List.getElem_cons_succ]
        refine wpAnyH_take (i := 7) (v := ?_) rfl (by kernel_rfl) (by kernel_rfl) (by kernel_rfl) (fun _ _ _ h => h) (Or.inl ⟨by rfl, ?_⟩) (by assumption) ?_
        rotate_left 1
        · intro wz sb
          obtain ⟨y0, _⟩ := HX.out wz sb
          go_simp
          all_goals with_reducible rfl
        simp only [Act.put, List.setIfInBounds_toArray, List.set_cons_zero, List.set_cons_succ, List.getElem_toArray, List.getElem_cons_zero, List.getElem_cons_succ]
        refine wpAnyH_take (i := 8) (v := ?_) rfl (by kernel_rfl) (by kernel_rfl) (by kernel_rfl) (fun _ _ _ h => h) (Or.inl ⟨by rfl, ?_⟩) (by assumption) ?_
        rotate_left 1
        · intro wz sb
          obtain ⟨y0, _⟩ := HX.out wz sb
          go_simp
          all_goals with_reducible rfl
        simp only [Act.put, List.setIfInBounds_toArray, List.set_cons_zero, List.set_cons_succ, List.getElem_toArray, List.getElem_cons_zero, List.getElem_cons_succ]
        refine wpAnyH_take (i := 9) (v := ?_) rfl (by kernel_rfl) (by kernel_rfl) (by kernel_rfl) (fun _ _ _ h => h) (Or.inl ⟨by rfl, ?_⟩) (by assumption) ?_
        rotate_left 1
        · intro wz sb
          obtain ⟨y0, _⟩ := HX.out wz sb
          go_simp
          all_goals with_reducible rfl
        simp only [Act.put, List.setIfInBounds_toArray, List.set_cons_zero, List.set_cons_succ, List.getElem_toArray, List.getElem_cons_zero, List.getElem_cons_succ]
        refine wpAnyH_take (i := 10) (v := ?_) rfl (by kernel_rfl) (by kernel_rfl) (by kernel_rfl) (fun _ _ _ h => h) (Or.inl ⟨by rfl, ?_⟩) (by assumption) ?_
        rotate_left 1
        · intro wz sb
          obtain ⟨y0, _⟩ := HX.out wz sb
          go_simp
          all_goals with_reducible rfl
        simp only [Act.put, List.setIfInBounds_toArray, List.set_cons_zero, List.set_cons_succ, List.getElem_toArray, List.getElem_cons_zero, List.getElem_cons_succ]
        refine wpAnyH_take (i := 11) (v := ?_) rfl (by kernel_rfl) (by kernel_rfl) (by kernel_rfl) (fun _ _ _ h => h) (Or.inl ⟨by rfl, ?_⟩) (by assumption) ?_
        rotate_left 1
        · intro wz sb
          obtain ⟨y0, _⟩ := HX.out wz sb
          go_simp
          all_goals with_reducible rfl
        simp only [Act.put, List.setIfInBounds_toArray, List.set_cons_zero, List.set_cons_succ, List.getElem_toArray, List.getElem_cons_zero, List.getElem_cons_succ]
        generalize wr.drew = Y at hHeld ⊢
        refine wpAnyH_ready (rs := [5, 16]) (by kernel_rfl) (by simp) (AllReadyH.cons rfl (fun K hK => ?_) (AllReadyH.cons rfl (fun K hK => ?_) AllReadyH.nil))
        · go_simp
          refine (pick_any x 7 Y (by omega) (by omega)).mono fun e w1 ⟨r, hr, he, hw⟩ => ?_
          subst he w1
          refine hK.out _ _ hHeld (fun hHeld => ?_)
          clear hK K
          refine wpAnyH_ready (rs := [12, 16]) (by kernel_rfl) (by simp) (AllReadyH.cons rfl (fun K hK => ?_) (AllReadyH.cons rfl (fun K hK => ?_) AllReadyH.nil))
          · go_simp
            refine (add_any c r ((IntKind.i64.wrap (x.tdiv 16)).tmod 1000) (by omega) HMd.out Y).mono fun e Y2 ⟨he, hb2⟩ => ?_
            subst he
            unfold nA
            refine hK.out _ _ (belJ hHeld hb2) (fun hHeld => ?_)
            clear hK K
            refine wpAnyH_take (i := 13) (v := ?_) rfl (by kernel_rfl) (by kernel_rfl) (by kernel_rfl) (fun _ _ _ h => h) (Or.inl ⟨by rfl, ?_⟩) (by assumption) ?_
            rotate_left 1
            · intro wz _
              go_simp
              all_goals with_reducible rfl
            simp only [Act.put, List.setIfInBounds_toArray, List.set_cons_zero, List.set_cons_succ, List.getElem_toArray, List.getElem_cons_zero, List.getElem_cons_succ]
            refine wpAnyH_take (i := 14) (v := ?_) rfl (by kernel_rfl) (by kernel_rfl) (by kernel_rfl) (fun _ _ _ h => h) (Or.inl ⟨by rfl, ?_⟩) (by assumption) ?_
            rotate_left 1
            · intro wz _
              go_simp
              all_goals with_reducible rfl
            simp only [Act.put, List.setIfInBounds_toArray, List.set_cons_zero, List.set_cons_succ, List.getElem_toArray, List.getElem_cons_zero, List.getElem_cons_succ]
            refine wpAnyH_take (i := 15) (v := ?_) rfl (by kernel_rfl) (by kernel_rfl) (by kernel_rfl) (fun _ _ _ h => h) (Or.inl ⟨by rfl, ?_⟩) (by assumption) ?_
            rotate_left 1
            · intro wz _
              go_simp
              all_goals with_reducible rfl
            simp only [Act.put, List.setIfInBounds_toArray, List.set_cons_zero, List.set_cons_succ, List.getElem_toArray, List.getElem_cons_zero, List.getElem_cons_succ]
            refine wpAnyH_ready (rs := [16]) (by kernel_rfl) (by simp) (AllReadyH.cons rfl (fun K hK => ?_) AllReadyH.nil)
            go_simp
            rw [zero33]
            have hSY3 := hHeld.size
            have hAY3 : NumB (Y2.alloc (.cells (nL 14 fun _ => 0).toArray 33)) Y2.heap.size 14 (fun _ => 0) := numB_new Y2 14 (fun _ => 0) 33
            have hBY3 : Below Y2.heap.size Y2 (Y2.alloc (.cells (nL 14 fun _ => 0).toArray 33)) := belA (Below.refl _ _) _
            refine hK.out _ _ (belJ hHeld hBY3) (fun hHeld => ?_)
            clear hK K
            generalize Y2.alloc (.cells (nL 14 fun _ => 0).toArray 33) = Y3 at *
            refine wpAnyH_ready (rs := [17]) (by kernel_rfl) (by simp) (AllReadyH.cons rfl (fun K hK => ?_) AllReadyH.nil)
            refine if_of (by rfl) ?_
            refine wp_storeN 33 (.tmp 5) (.tmp 31) rfl (Y2.heap.size) 14 _ (addC c r ((IntKind.i64.wrap (x.tdiv 16)).tmod 1000)) rfl rfl (hAY3) size33 (fun w6 hn6 hg6 => ?_)
            have hKp : Below wr.heap.size wr w6 := hHeld.grown hg6 hHeld.size (fun k hk => by cases hk; omega)
            refine hK.out _ _ hKp (fun hHeld => ?_)
            clear hK K
            refine wpAnyH_ready (rs := [18]) (by kernel_rfl) (by simp) (AllReadyH.cons rfl (fun K hK => ?_) AllReadyH.nil)
            go_simp
            refine hK.out _ _ hHeld (fun hHeld => ?_)
            clear hK K
            refine wpAnyH_done (by kernel_rfl) ?_ _
            go_wp2
            go_meet
            exact ⟨Y2.heap.size, _, rfl, rfl, hn6, by omega, hHeld⟩
          · go_simp
            rw [zero33]
            have hSY1 := hHeld.size
            have hAY1 : NumB (Y.alloc (.cells (nL 14 fun _ => 0).toArray 33)) Y.heap.size 14 (fun _ => 0) := numB_new Y 14 (fun _ => 0) 33
            have hBY1 : Below Y.heap.size Y (Y.alloc (.cells (nL 14 fun _ => 0).toArray 33)) := belA (Below.refl _ _) _
            refine hK.out _ _ (belJ hHeld hBY1) (fun hHeld => ?_)
            clear hK K
            generalize Y.alloc (.cells (nL 14 fun _ => 0).toArray 33) = Y1 at *
            refine wpAnyH_ready (rs := [12]) (by kernel_rfl) (by simp) (AllReadyH.cons rfl (fun K hK => ?_) AllReadyH.nil)
            go_simp
            refine (add_any c r ((IntKind.i64.wrap (x.tdiv 16)).tmod 1000) (by omega) HMd.out Y1).mono fun e Y2 ⟨he, hb2⟩ => ?_
            subst he
            unfold nA
            refine hK.out _ _ (belJ hHeld hb2) (fun hHeld => ?_)
            clear hK K
            refine wpAnyH_take (i := 13) (v := ?_) rfl (by kernel_rfl) (by kernel_rfl) (by kernel_rfl) (fun _ _ _ h => h) (Or.inl ⟨by rfl, ?_⟩) (by assumption) ?_
            rotate_left 1
            · intro wz _
              go_simp
              all_goals with_reducible rfl
            simp only [Act.put, List.setIfInBounds_toArray, List.set_cons_zero, List.set_cons_succ, List.getElem_toArray, List.getElem_cons_zero, List.getElem_cons_succ]
            refine wpAnyH_take (i := 14) (v := ?_) rfl (by kernel_rfl) (by kernel_rfl) (by kernel_rfl) (fun _ _ _ h => h) (Or.inl ⟨by rfl, ?_⟩) (by assumption) ?_
            rotate_left 1
            · intro wz _
              go_simp
              all_goals with_reducible rfl
            simp only [Act.put, List.setIfInBounds_toArray, List.set_cons_zero, List.set_cons_succ, List.getElem_toArray, List.getElem_cons_zero, List.getElem_cons_succ]
            refine wpAnyH_take (i := 15) (v := ?_) rfl (by kernel_rfl) (by kernel_rfl) (by kernel_rfl) (fun _ _ _ h => h) (Or.inl ⟨by rfl, ?_⟩) (by assumption) ?_
            rotate_left 1
            · intro wz _
              go_simp
              all_goals with_reducible rfl
            simp only [Act.put, List.setIfInBounds_toArray, List.set_cons_zero, List.set_cons_succ, List.getElem_toArray, List.getElem_cons_zero, List.getElem_cons_succ]
            refine wpAnyH_ready (rs := [17]) (by kernel_rfl) (by simp) (AllReadyH.cons rfl (fun K hK => ?_) AllReadyH.nil)
            refine if_of (by rfl) ?_
            refine wp_storeN 33 (.tmp 5) (.tmp 31) rfl (Y.heap.size) 14 _ (addC c r ((IntKind.i64.wrap (x.tdiv 16)).tmod 1000)) rfl rfl (hAY1.below hb2 hAY1.lt) size33 (fun w6 hn6 hg6 => ?_)
            have hKp : Below wr.heap.size wr w6 := hHeld.grown hg6 hHeld.size (fun k hk => by cases hk; omega)
            refine hK.out _ _ hKp (fun hHeld => ?_)
            clear hK K
            refine wpAnyH_ready (rs := [18]) (by kernel_rfl) (by simp) (AllReadyH.cons rfl (fun K hK => ?_) AllReadyH.nil)
            go_simp
            refine hK.out _ _ hHeld (fun hHeld => ?_)
            clear hK K
            refine wpAnyH_done (by kernel_rfl) ?_ _
            go_wp2
            go_meet
            exact ⟨Y.heap.size, _, rfl, rfl, hn6, by omega, hHeld⟩
        · go_simp
          rw [zero33]
          have hSY1 := hHeld.size
          have hAY1 : NumB (Y.alloc (.cells (nL 14 fun _ => 0).toArray 33)) Y.heap.size 14 (fun _ => 0) := numB_new Y 14 (fun _ => 0) 33
          have hBY1 : Below Y.heap.size Y (Y.alloc (.cells (nL 14 fun _ => 0).toArray 33)) := belA (Below.refl _ _) _
          refine hK.out _ _ (belJ hHeld hBY1) (fun hHeld => ?_)
          clear hK K
          generalize Y.alloc (.cells (nL 14 fun _ => 0).toArray 33) = Y1 at *
          refine wpAnyH_ready (rs := [5]) (by kernel_rfl) (by simp) (AllReadyH.cons rfl (fun K hK => ?_) AllReadyH.nil)
          go_simp
          refine (pick_any x 7 Y1 (by omega) (by omega)).mono fun e w1 ⟨r, hr, he, hw⟩ => ?_
          subst he w1
          refine hK.out _ _ hHeld (fun hHeld => ?_)
          clear hK K
          refine wpAnyH_ready (rs := [12]) (by kernel_rfl) (by simp) (AllReadyH.cons rfl (fun K hK => ?_) AllReadyH.nil)
          go_simp
          refine (add_any c r ((IntKind.i64.wrap (x.tdiv 16)).tmod 1000) (by omega) HMd.out Y1).mono fun e Y2 ⟨he, hb2⟩ => ?_
          subst he
          unfold nA
          refine hK.out _ _ (belJ hHeld hb2) (fun hHeld => ?_)
          clear hK K
          refine wpAnyH_take (i := 13) (v := ?_) rfl (by kernel_rfl) (by kernel_rfl) (by kernel_rfl) (fun _ _ _ h => h) (Or.inl ⟨by rfl, ?_⟩) (by assumption) ?_
          rotate_left 1
          · intro wz _
            go_simp
            all_goals with_reducible rfl
          simp only [Act.put, List.setIfInBounds_toArray, List.set_cons_zero, List.set_cons_succ, List.getElem_toArray, List.getElem_cons_zero, List.getElem_cons_succ]
          refine wpAnyH_take (i := 14) (v := ?_) rfl (by kernel_rfl) (by kernel_rfl) (by kernel_rfl) (fun _ _ _ h => h) (Or.inl ⟨by rfl, ?_⟩) (by assumption) ?_
          rotate_left 1
          · intro wz _
            go_simp
            all_goals with_reducible rfl
          simp only [Act.put, List.setIfInBounds_toArray, List.set_cons_zero, List.set_cons_succ, List.getElem_toArray, List.getElem_cons_zero, List.getElem_cons_succ]
          refine wpAnyH_take (i := 15) (v := ?_) rfl (by kernel_rfl) (by kernel_rfl) (by kernel_rfl) (fun _ _ _ h => h) (Or.inl ⟨by rfl, ?_⟩) (by assumption) ?_
          rotate_left 1
          · intro wz _
            go_simp
            all_goals with_reducible rfl
          simp only [Act.put, List.setIfInBounds_toArray, List.set_cons_zero, List.set_cons_succ, List.getElem_toArray, List.getElem_cons_zero, List.getElem_cons_succ]
          refine wpAnyH_ready (rs := [17]) (by kernel_rfl) (by simp) (AllReadyH.cons rfl (fun K hK => ?_) AllReadyH.nil)
          refine if_of (by rfl) ?_
          refine wp_storeN 33 (.tmp 5) (.tmp 31) rfl (Y.heap.size) 14 _ (addC c r ((IntKind.i64.wrap (x.tdiv 16)).tmod 1000)) rfl rfl (hAY1.below hb2 hAY1.lt) size33 (fun w6 hn6 hg6 => ?_)
          have hKp : Below wr.heap.size wr w6 := hHeld.grown hg6 hHeld.size (fun k hk => by cases hk; omega)
          refine hK.out _ _ hKp (fun hHeld => ?_)
          clear hK K
          refine wpAnyH_ready (rs := [18]) (by kernel_rfl) (by simp) (AllReadyH.cons rfl (fun K hK => ?_) AllReadyH.nil)
          go_simp
          refine hK.out _ _ hHeld (fun hHeld => ?_)
          clear hK K
          refine wpAnyH_done (by kernel_rfl) ?_ _
          go_wp2
          go_meet
          exact ⟨Y.heap.size, _, rfl, rfl, hn6, by omega, hHeld⟩
      · have hk20' : ¬ (k : Int) < 30 := by omega
        go_wp2_with (first | (refine wpList_loadN rfl 33 (.tmp 3) rfl (w.heap.size + 1) 14 c rfl HV1.out _ Try.underlying33 rfl size33 ?_) | (refine wpList_storeN rfl 33 (.tmp 2) (.tmp 36) rfl w.heap.size 14 _ c rfl rfl HV0.out size33 ?_; intro w6 hn6 hg6; go_frame))
        exact bodyPost_ret (results_one rfl _ _ _ _ rfl (hn6.load Try.underlying33 rfl size33)) rfl ⟨c, rfl, HB.out.grown hg6 HB.out.size (fun k hk => by cases hk; exact Nat.le_refl _)⟩
    · have hkn' : ¬ (k : Int) < l.length := by omega
      go_wp2_with (first | (refine wpList_loadN rfl 33 (.tmp 3) rfl (w.heap.size + 1) 14 c rfl HV1.out _ Try.underlying33 rfl size33 ?_) | (refine wpList_storeN rfl 33 (.tmp 2) (.tmp 36) rfl w.heap.size 14 _ c rfl rfl HV0.out size33 ?_; intro w6 hn6 hg6; go_frame))
      exact bodyPost_ret (results_one rfl _ _ _ _ rfl (hn6.load Try.underlying33 rfl size33)) rfl ⟨c, rfl, HB.out.grown hg6 HB.out.size (fun k hk => by cases hk; exact Nat.le_refl _)⟩
end Go.Proofs.Ythphoiadhddggaa
