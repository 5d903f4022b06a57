/-
  Do, walked.
-/
import Derived.Test.YtaopigjhdkdklaaDoorPeW
import Derived.Test.YtaopigjhdkdklaaDoorPwAZ
namespace Go.Proofs.YtaopigjhdkdklaaDoor
open Go.RowKit Go.Shelf

/-- What Do tells and leaves. -/
def DoTold (w0 W : World) (k : PrK) (c : Bool) (n : Nat) (st : MvS) (p kd m : Int) (e : Ending) (W' : World) : Prop := ∃ k', e = .returned (toldV (tellM c n st p kd m)) ∧ PrB w0 W' k' c n (doM c n st p kd m) ∧ PFr k n W W' k'
theorem MvI.ord_few {n : Nat} {st : MvS} (h : MvI n st) (hn : n ≤ 8) : (∀ q, q < 8 → ∀ x ∈ st.ord q, x < n) ∧ ∀ q, q < 8 → (st.ord q).length ≤ 999 := by
  have h1 : ∀ q, q < 8 → ∀ x ∈ st.ord q, x < n := fun q hq x hx => (h.cov x ((h.ordm q hq x).1 hx).1).2.2.2
  refine ⟨h1, fun q hq => ?_⟩
  have := sub_len (A := st.ord q) (B := List.range n) (h.ord_nodup hq) (fun x hx => List.mem_range.2 (h1 q hq x hx))
  rw [List.length_range] at this
  omega
theorem MvI.enOk {n : Nat} {st : MvS} (h : MvI n st) (t : Nat) : EnOk { st with tm := st.tm + 1, en := updM st.en t (st.tm + 1) } := by
  have h0 := h.tm0
  refine ⟨fun x => ?_, fun x => (h.bgl x).2, fun x y hx => ?_⟩
  · show updM st.en t (st.tm + 1) x = -1 ∨ 0 < updM st.en t (st.tm + 1) x
    by_cases e : x = t
    · rw [e, updM_same]; omega
    · rw [updM_ne _ _ e]; exact (h.enl x).2
  · show updM st.en t (st.tm + 1) x ≠ st.bg y
    have hx : 0 < updM st.en t (st.tm + 1) x := hx
    by_cases e : x = t
    · rw [e, updM_same]
      have := (h.bgl y).1
      omega
    · rw [updM_ne _ _ e] at hx ⊢
      exact h.inj x y hx
section
variable {w0 W : World} {k : PrK} {c : Bool} {n : Nat} {st : MvS}

set_option maxRecDepth 100000 in
set_option maxHeartbeats 8000000 in
theorem do_any (h : PrB w0 W k c n st) (hI : MvI n st) (hn : n ≤ 8) (htm : st.tm ≤ 1000) (p kd m : Int) :
    Calls Tryd.prog 11 #[.pointer (some ⟨k.B, 0, none⟩), .agg #[.int .i64 p, .int .i64 kd, .int .i64 m]] W fun e W' => DoTold w0 W k c n st p kd m e W' := by
  have HI := hideIt hI
  have hb0 : Below W.heap.size W (W.alloc (.cells #[.int .i64 p, .int .i64 kd, .int .i64 m] 34)) := belA (Below.refl _ _) _
  have HP0 := hideIt (h.below hb0)
  have HB0 := hideIt hb0
  have HCk := hideIt (pcheck_any h hI p kd m _ hb0)
  have hbox : (W.alloc (.cells #[.int .i64 p, .int .i64 kd, .int .i64 m] 34)).heap[W.heap.size]? = some (.cells #[.int .i64 p, .int .i64 kd, .int .i64 m] 34 (0, 0)) := heap_alloc_new _ _
  have HBx := hideIt hbox
  have HWl : Hid (W.heap.size < (W.alloc (.cells #[.int .i64 p, .int .i64 kd, .int .i64 m] 34)).heap.size) := by show _ < _; simp
  have HOwn := hideIt (fun b hb => (h.own_lt (b := b) hb).2)
  clear h hI hb0 hbox
  by_cases hflt : fltA n st p kd m = 0
  rotate_left 1
  · have HT : Hid (tellM c n st p kd m = fltA n st p kd m ∧ doM c n st p kd m = st) := by
      refine ⟨?_, ?_⟩
      · unfold tellM; rw [if_pos hflt]
      · unfold doM; rw [if_pos hflt]
    have hv : toldV (fltA n st p kd m) = .iface 29 (.int .i64 (fltA n st p kd m)) := by unfold toldV; rw [if_neg hflt]
    rw [hv] at HCk
    have HV := hideIt hv
    clear hflt hv
    generalize fltA n st p kd m = F at *
    go_enter Tryd.func11, Tryd.ntmps11
    go_wp2_with fail
    refine HCk.out.mono ?_
    rintro e W1 ⟨rfl, hb1⟩
    have HP1 := hideIt (HP0.out.below hb1)
    have HF1 : Hid (PFr k n W W1 k) := PFr.below (belJ HB0.out hb1)
    clear HCk hb1
    go_wp2
    go_ret
    exact ⟨k, by rw [HT.out.1, HV.out]; rfl, by rw [HT.out.2]; exact HP1.out, HF1.out⟩
  have hfl := hflt
  unfold fltA at hfl
  split at hfl
  · cases hfl
  rename_i h1
  split at hfl
  · cases hfl
  rename_i h2
  split at hfl
  · cases hfl
  rename_i h3
  split at hfl
  · cases hfl
  rename_i h4
  clear hfl
  have hv : toldV (fltA n st p kd m) = .nilIface := by rw [hflt]; rfl
  rw [hv] at HCk
  obtain ⟨t, rfl⟩ := Int.eq_ofNat_of_zero_le (show 0 ≤ p by omega)
  obtain ⟨key, rfl⟩ := Int.eq_ofNat_of_zero_le (show 0 ≤ m by omega)
  have htn : t < n := by omega
  have hti : (t : Int) < (n : Int) := by omega
  have hk8 : key < 8 := by omega
  rw [Int.toNat_natCast] at h3 h4
  have hov : st.ov t = false := by
    cases e : st.ov t
    · rfl
    · exact absurd (.inl e) h3
  have hlen : kd = 2 ∨ kd = 3 → (st.ops t).length < 60 := fun hk => by
    have := HI.out.opl t
    rcases Nat.lt_or_ge (st.ops t).length 60 with hh | hh
    · exact hh
    · exact absurd ⟨by omega, hk⟩ h4
  have hen : st.en t = -1 := by
    have h5 := (HI.out.enl t).2
    rcases h5 with h5 | h5
    · exact h5
    · have := (HI.out.cov t ((HI.out.com t).2 h5)).1
      rw [hov] at this
      cases this
  have HT : Hid (tellM c n st (t : Int) kd (key : Int) = if kd = 4 ∧ refB c n st t = true then 12 else 0) := by
    show _ = _
    unfold tellM
    rw [if_neg (fun h => h hflt), Int.toNat_natCast]
  have HDo : Hid (doM c n st (t : Int) kd (key : Int) = if kd = 1 then begM st t else if kd = 2 then pushM st t (rdM st t key) else if kd = 3 then pushM st t ⟨true, key, 0, 0⟩ else if kd = 4 then (if refB c n st t = true then aboM st t else comM st t) else aboM st t) := by
    show _ = _
    unfold doM
    rw [if_neg (fun h => h hflt), Int.toNat_natCast, Int.toNat_natCast]
  have hkd : 1 ≤ kd ∧ kd ≤ 5 := by omega
  have htm0 := HI.out.tm0
  have hwr : IntKind.i64.wrap (st.tm + 1) = st.tm + 1 := by rw [IntKind.wrap_i64]; omega
  have HLen := hideIt hlen
  have HEn := hideIt hen
  clear hv hflt h1 h2 h3 h4 hov hlen hen
  go_enter Tryd.func11, Tryd.ntmps11
  go_wp2_with fail
  refine HCk.out.mono ?_
  rintro e W1 ⟨rfl, hb1⟩
  have hp1 := HP0.out.below hb1
  have q1 := hp1.cells.2.1
  have f1 := hp1.fz 1
  have hp2 := hp1.setTm (st.tm + 1)
  have HP2 := hideIt hp2
  have HF2 : Hid (PFr k n W (W1.setCell ⟨k.B, 1, none⟩ (.int .i64 (st.tm + 1))) k) := (PFr.below (belJ HB0.out hb1)).trans (PFr.set (p := ⟨k.B, 1, none⟩) (.inl rfl) _)
  have hbx1 := (hb1.block W.heap.size HWl.out).trans HBx.out
  have hneB : W.heap.size ≠ k.B := by
    have := HOwn.out k.B (.inl rfl)
    omega
  have hneT : W.heap.size ≠ k.T := by
    have := HOwn.out k.T (.inr (.inl rfl))
    omega
  have hbx2 : (W1.setCell ⟨k.B, 1, none⟩ (.int .i64 (st.tm + 1))).heap[W.heap.size]? = some (.cells #[.int .i64 (t : Int), .int .i64 kd, .int .i64 (key : Int)] 34 (0, 0)) := (Below.heap_setCell _ ⟨k.B, 1, none⟩ _ _ hneB).trans hbx1
  have HBx2 := hideIt hbx2
  clear HCk hb1 hp1 HP0 HB0 HBx HWl hbx1
  go_wp2_with fail
  generalize W1.setCell ⟨k.B, 1, none⟩ (.int .i64 (st.tm + 1)) = W2 at *
  have c2 := hp2.cells.2.2.1
  have a0 : W2.cell? ⟨W.heap.size, 0, none⟩ = some (.int .i64 (t : Int)) := by rw [cell_of_row _ _ _ _ 34 _ hbx2]; rfl
  clear hp2 hbx2 q1 f1
  go_quiet (fail)
  have hdr := below_drewN (Below.refl W2.heap.size W2) 8
  generalize hV : World.drewN W2 _ = V
  have hbV : Below W2.heap.size W2 V := by rw [← hV]; exact below_drewN (Below.refl _ _) _
  have hpV := HP2.out.below hbV
  have HPV := hideIt hpV
  have HFV := hideIt (HF2.out.trans (PFr.below hbV))
  have hbxV := (hbV.block W.heap.size (lt_of_heap HBx2.out)).trans HBx2.out
  have HBxV := hideIt hbxV
  have b0 : V.cell? ⟨W.heap.size, 0, none⟩ = some (.int .i64 (t : Int)) := by rw [cell_of_row _ _ _ _ 34 _ hbxV]; rfl
  have b1 : V.cell? ⟨W.heap.size, 1, none⟩ = some (.int .i64 kd) := by rw [cell_of_row _ _ _ _ 34 _ hbxV]; rfl
  have b2 : V.cell? ⟨W.heap.size, 2, none⟩ = some (.int .i64 (key : Int)) := by rw [cell_of_row _ _ _ _ 34 _ hbxV]; rfl
  have r1 := hpV.cells.2.1
  dsimp only at r1
  have x1 := (hpV.tx t htn).2.1
  have x3 := (hpV.tx t htn).2.2.2
  dsimp only at x1 x3
  have g1 := hpV.fzT (t * 4 + 1)
  have g3 := hpV.fzT (t * 4 + 3)
  clear hV hbV hdr c2 a0 hbxV HP2 HF2 HBx2
  have hcase : kd = 1 ∨ kd = 2 ∨ kd = 3 ∨ kd = 4 ∨ kd = 5 := by omega
  rcases hcase with rfl | rfl | rfl | rfl | rfl
  · have HPn := hideIt (hpV.setBg htn (st.tm + 1))
    have HFn := hideIt (HFV.out.trans (PFr.set (p := ⟨k.T, t * 4 + 1, none⟩) (.inr (.inl rfl)) (.int .i64 (st.tm + 1))))
    clear hpV hkd HPV HFV
    go_wp2
    go_ret
    exact ⟨k, by rw [HT.out]; rfl, by rw [HDo.out]; exact HPn.out, HFn.out⟩
  · obtain ⟨hm, ho⟩ := HI.out.ord_few hn
    have hl60 := HLen.out (.inl rfl)
    have v0 := (hpV.tx t htn).1
    have HFd : Hid (∀ Y, Below V.heap.size V Y → Calls Tryd.prog 26 #[.pointer (some ⟨k.B, 0, none⟩), .int .i64 (t : Int), .int .i64 (key : Int)] Y fun e w' => e = .returned (rdM st t key).agg ∧ Below Y.heap.size Y w') := fun Y hY => find_any (hpV.below hY) HI.out.opl htn hk8 (hm key hk8) (ho key hk8)
    have HX : Hid (∀ Y, Below V.heap.size V Y → Y.cell? ⟨k.T, t * 4, none⟩ = some (k.vo t) ∧ Y.cell? ⟨W.heap.size, 0, none⟩ = some (.int .i64 (t : Int)) ∧ Y.cell? ⟨W.heap.size, 2, none⟩ = some (.int .i64 (key : Int))) := fun Y hY => ⟨(hY.cell (p := ⟨k.T, t * 4, none⟩) hpV.ltT).trans v0, (hY.cell (p := ⟨W.heap.size, 0, none⟩) (lt_of_heap HBxV.out)).trans b0, (hY.cell (p := ⟨W.heap.size, 2, none⟩) (lt_of_heap HBxV.out)).trans b2⟩
    have HPush : Hid (∀ (Y : World) (v' : Value) (W6 : World), Below V.heap.size V Y → OpP W6 w0.heap.size v' (st.ops t ++ [rdM st t key]) → Y.grownBy W6 (k.vo t).ownBlock → (v'.ownBlock = (k.vo t).ownBlock ∨ v'.ownBlock = some Y.heap.size) → PrB w0 (W6.setCell ⟨k.T, t * 4, none⟩ v') { k with vo := updM k.vo t v' } c n (pushM st t (rdM st t key)) ∧ PFr k n W (W6.setCell ⟨k.T, t * 4, none⟩ v') { k with vo := updM k.vo t v' } ∧ W6.cell? ⟨k.T, t * 4, none⟩ = some (k.vo t) ∧ W6.frozen? ⟨k.T, t * 4, none⟩ = false) := fun Y v' W6 hY h1 h2 h3 => by
      have hpY := hpV.below hY
      obtain ⟨e1, e2⟩ := hpY.pushO htn h1 h2 h3
      have hTb : W6.heap[k.T]? = Y.heap[k.T]? := h2.block _ hpY.ltT fun e => ne_tagD hpY.tag.2 (hpY.tagv.1 t htn _ e.symm) (by decide) rfl
      exact ⟨e1, HFV.out.trans ((PFr.below hY).trans e2), (World.cell?_of_block (a := ⟨k.T, t * 4, none⟩) hTb).trans (hpY.tx t htn).1, (World.frozen?_of_block (a := ⟨k.T, t * 4, none⟩) hTb).trans (hpY.fzT _)⟩
    have HOps : Hid (∀ Y, Below V.heap.size V Y → OpP Y w0.heap.size (k.vo t) (st.ops t)) := fun Y hY => (hpV.below hY).ops t htn
    have HW0 : Hid (w0.heap.size ≤ V.heap.size) := hpV.bel.size
    have hvo : ∃ oa ocp, k.vo t = .slice oa (st.ops t).length ocp := by
      obtain ⟨oa, ocp, e, _⟩ := hpV.opq htn
      exact ⟨oa, ocp, e⟩
    clear hpV hkd HPV x1 x3 g1 g3 r1 hm ho
    obtain ⟨⟨rwr, rkey, rfrm, rnum⟩, hrd⟩ : ∃ o, rdM st t key = o := ⟨_, rfl⟩
    rw [hrd] at HFd HPush HDo
    unfold IOp.agg at HFd
    clear hrd
    generalize k.vo t = vq at *
    go_wp2_with fail
    refine wp_region_L (B := [12, 15]) (S := (fun _ => True)) (T := (fun w' => Below V.heap.size V w')) (by kernel_rfl) ⟨trivial, (Below.refl _ _).drew⟩ (fun hHeld => ?_)
    refine wpAnyL_takeS (i := 0) (v := ?_) rfl (by kernel_rfl) (by kernel_rfl) (by kernel_rfl) (by kernel_rfl) (fun _ _ _ h => h) (Or.inl ⟨by rfl, ?_⟩) (by assumption) ?_
    rotate_left 1
    · intro wz _
      go_simp
      all_goals with_reducible rfl
    simp only [Act.put, List.setIfInBounds_toArray, List.set_cons_zero, List.set_cons_succ, List.getElem_toArray, List.getElem_cons_zero]
    refine wpAnyL_takeS (i := 1) (v := ?_) rfl (by kernel_rfl) (by kernel_rfl) (by kernel_rfl) (by kernel_rfl) (fun _ _ _ h => h) (Or.inl ⟨by rfl, ?_⟩) (by assumption) ?_
    rotate_left 1
    · intro wz _
      go_simp
      all_goals with_reducible rfl
    simp only [Act.put, List.setIfInBounds_toArray, List.set_cons_zero, List.set_cons_succ, List.getElem_toArray, List.getElem_cons_zero, List.getElem_cons_succ]
    refine wpAnyL_takeS (i := 2) (v := ?_) rfl (by kernel_rfl) (by kernel_rfl) (by kernel_rfl) (by kernel_rfl) (fun _ _ _ h => h) (Or.inl ⟨by rfl, ?_⟩) (by assumption) ?_
    rotate_left 1
    · intro wz _
      go_simp
      all_goals with_reducible rfl
    simp only [Act.put, List.setIfInBounds_toArray, List.set_cons_zero, List.set_cons_succ, List.getElem_toArray, List.getElem_cons_zero, List.getElem_cons_succ]
    refine wpAnyL_takeS (i := 3) (v := ?_) rfl (by kernel_rfl) (by kernel_rfl) (by kernel_rfl) (by kernel_rfl) (fun _ _ _ h => h) (Or.inl ⟨by rfl, ?_⟩) (by assumption) ?_
    rotate_left 1
    · intro wz _
      go_simp
      all_goals with_reducible rfl
    simp only [Act.put, List.setIfInBounds_toArray, List.set_cons_zero, List.set_cons_succ, List.getElem_toArray, List.getElem_cons_zero, List.getElem_cons_succ]
    refine wpAnyL_take [12, 15] (i := 4) (v := ?_) rfl (by kernel_rfl) (by kernel_rfl) (by kernel_rfl) (by kernel_rfl) (fun _ _ _ h => h) (Or.inl ⟨by rfl, ?_⟩) (by assumption) ?_
    rotate_left 1
    · intro wz sb
      obtain ⟨y0, y1, y2⟩ := HX.out wz sb.2
      go_simp
      all_goals with_reducible rfl
    simp only [Act.put, List.setIfInBounds_toArray, List.set_cons_zero, List.set_cons_succ, List.getElem_toArray, List.getElem_cons_zero, List.getElem_cons_succ]
    refine wpAnyL_takeS (i := 5) (v := ?_) rfl (by kernel_rfl) (by kernel_rfl) (by kernel_rfl) (by kernel_rfl) (fun _ _ _ h => h) (Or.inl ⟨by rfl, ?_⟩) (by assumption) ?_
    rotate_left 1
    · intro wz _
      go_simp
      all_goals with_reducible rfl
    simp only [Act.put, List.setIfInBounds_toArray, List.set_cons_zero, List.set_cons_succ, List.getElem_toArray, List.getElem_cons_zero, List.getElem_cons_succ]
    refine wpAnyL_takeS (i := 6) (v := ?_) rfl (by kernel_rfl) (by kernel_rfl) (by kernel_rfl) (by kernel_rfl) (fun _ _ _ h => h) (Or.inl ⟨by rfl, ?_⟩) (by assumption) ?_
    rotate_left 1
    · intro wz _
      go_simp
      all_goals with_reducible rfl
    simp only [Act.put, List.setIfInBounds_toArray, List.set_cons_zero, List.set_cons_succ, List.getElem_toArray, List.getElem_cons_zero, List.getElem_cons_succ]
    refine wpAnyL_take [10, 11, 12, 15] (i := 7) (v := ?_) rfl (by kernel_rfl) (by kernel_rfl) (by kernel_rfl) (by kernel_rfl) (fun _ _ _ h => h) (Or.inl ⟨by rfl, ?_⟩) (by assumption) ?_
    rotate_left 1
    · intro wz sb
      obtain ⟨y0, y1, y2⟩ := HX.out wz sb.2
      go_simp
      all_goals with_reducible rfl
    simp only [Act.put, List.setIfInBounds_toArray, List.set_cons_zero, List.set_cons_succ, List.getElem_toArray, List.getElem_cons_zero, List.getElem_cons_succ]
    refine wpAnyL_takeS (i := 8) (v := ?_) rfl (by kernel_rfl) (by kernel_rfl) (by kernel_rfl) (by kernel_rfl) (fun _ _ _ h => h) (Or.inl ⟨by rfl, ?_⟩) (by assumption) ?_
    rotate_left 1
    · intro wz _
      go_simp
      all_goals with_reducible rfl
    simp only [Act.put, List.setIfInBounds_toArray, List.set_cons_zero, List.set_cons_succ, List.getElem_toArray, List.getElem_cons_zero, List.getElem_cons_succ]
    refine wpAnyL_take [10, 11, 12, 15] (i := 9) (v := ?_) rfl (by kernel_rfl) (by kernel_rfl) (by kernel_rfl) (by kernel_rfl) (fun _ _ _ h => h) (Or.inl ⟨by rfl, ?_⟩) (by assumption) ?_
    rotate_left 1
    · intro wz sb
      obtain ⟨y0, y1, y2⟩ := HX.out wz sb.2
      go_simp
      all_goals with_reducible rfl
    simp only [Act.put, List.setIfInBounds_toArray, List.set_cons_zero, List.set_cons_succ, List.getElem_toArray, List.getElem_cons_zero, List.getElem_cons_succ]
    generalize V.drew = V1 at hHeld ⊢
    refine wpAnyL_ready (rs := [10]) (by kernel_rfl) (by simp) (AllReadyL.cons rfl (fun K hK => ?_) AllReadyL.nil)
    go_simp
    refine (HFd.out V1 hHeld.2).mono ?_
    rintro e V2 ⟨rfl, hb2⟩
    refine hK.out _ _ ⟨trivial, belJ hHeld.2 hb2⟩ (fun hHeld => ?_)
    clear hK K
    refine wpAnyL_ready (rs := [11]) (by kernel_rfl) (by simp) (AllReadyL.cons rfl (fun K hK => ?_) AllReadyL.nil)
    go_simp
    have hbA := belA hHeld.2 (.cells #[.bool rwr, .int .i64 rkey, .int .i64 rfrm, .int .i64 rnum] 84)
    refine hK.out _ _ ⟨trivial, hbA⟩ (fun hHeld => ?_)
    clear hK K
    obtain ⟨v', W6, hr, hop, hg, hv⟩ := run_appP (HOps.out _ hbA) (B := V2.heap.size) (o := ⟨rwr, rkey, rfrm, rnum⟩) (by refine ⟨?_, ?_, ?_, ?_⟩ <;> simp) (by have := HW0.out; have := hbA.size; omega) (by omega) 71
    obtain ⟨va', vc', rfl⟩ := ownsRow_slice hop
    obtain ⟨R1, R2, s0, s1⟩ := HPush.out _ _ _ hbA hop hg hv
    have HR1 := hideIt R1
    have HR2 := hideIt R2
    refine wpAnyL_ready (rs := [12]) (by kernel_rfl) (by simp) (AllReadyL.last rfl (by kernel_rfl) (fun K hK => ?_) AllReadyL.nil)
    refine step_append_run (by rfl) _ _ 71 (by rfl) _ _ _ W6 (by rfl) (by rfl) hr ?_
    refine hK.out _ _ trivial (fun hHeld => ?_)
    clear hK K
    simp only [Act.put, List.setIfInBounds_toArray, List.set_cons_zero, List.set_cons_succ, List.getElem_toArray, List.getElem_cons_zero, List.getElem_cons_succ]
    clear R1 R2 hop hg hv hr hbA
    generalize (st.ops t ++ [_]).length = ln at *
    refine wpAnyL_takeE (i := 13) (v := ?_) rfl (by kernel_rfl) (by kernel_rfl) (by kernel_rfl) (by kernel_rfl) (by kernel_rfl) (fun _ _ _ h => h) (Or.inl ⟨by rfl, ?_⟩) (by assumption) ?_
    rotate_left 1
    · intro wz _
      go_simp
      all_goals with_reducible rfl
    simp only [Act.put, List.setIfInBounds_toArray, List.set_cons_zero, List.set_cons_succ, List.getElem_toArray, List.getElem_cons_zero, List.getElem_cons_succ]
    refine wpAnyL_takeE (i := 14) (v := ?_) rfl (by kernel_rfl) (by kernel_rfl) (by kernel_rfl) (by kernel_rfl) (by kernel_rfl) (fun _ _ _ h => h) (Or.inl ⟨by rfl, ?_⟩) (by assumption) ?_
    rotate_left 1
    · intro wz _
      go_simp
      all_goals with_reducible rfl
    simp only [Act.put, List.setIfInBounds_toArray, List.set_cons_zero, List.set_cons_succ, List.getElem_toArray, List.getElem_cons_zero, List.getElem_cons_succ]
    refine wpAnyL_ready (rs := [15]) (by kernel_rfl) (by simp) (AllReadyL.last rfl (by kernel_rfl) (fun K hK => ?_) AllReadyL.nil)
    go_simp
    refine hK.out _ _ trivial (fun hHeld => ?_)
    clear hK K
    refine wpAnyL_done (by kernel_rfl) ?_ _
    go_wp2
    go_ret
    exact ⟨_, by rw [HT.out]; rfl, by rw [HDo.out]; exact HR1.out, HR2.out⟩
  · have hl60 := HLen.out (.inr rfl)
    have v0 := (hpV.tx t htn).1
    have HX : Hid (∀ Y, Below V.heap.size V Y → Y.cell? ⟨k.T, t * 4, none⟩ = some (k.vo t) ∧ Y.cell? ⟨W.heap.size, 2, none⟩ = some (.int .i64 (key : Int))) := fun Y hY => ⟨(hY.cell (p := ⟨k.T, t * 4, none⟩) hpV.ltT).trans v0, (hY.cell (p := ⟨W.heap.size, 2, none⟩) (lt_of_heap HBxV.out)).trans b2⟩
    have HPush : Hid (∀ (Y : World) (v' : Value) (W6 : World), Below V.heap.size V Y → OpP W6 w0.heap.size v' (st.ops t ++ [⟨true, key, 0, 0⟩]) → Y.grownBy W6 (k.vo t).ownBlock → (v'.ownBlock = (k.vo t).ownBlock ∨ v'.ownBlock = some Y.heap.size) → PrB w0 (W6.setCell ⟨k.T, t * 4, none⟩ v') { k with vo := updM k.vo t v' } c n (pushM st t ⟨true, key, 0, 0⟩) ∧ PFr k n W (W6.setCell ⟨k.T, t * 4, none⟩ v') { k with vo := updM k.vo t v' } ∧ W6.cell? ⟨k.T, t * 4, none⟩ = some (k.vo t) ∧ W6.frozen? ⟨k.T, t * 4, none⟩ = false) := fun Y v' W6 hY h1 h2 h3 => by
      have hpY := hpV.below hY
      obtain ⟨e1, e2⟩ := hpY.pushO htn h1 h2 h3
      have hTb : W6.heap[k.T]? = Y.heap[k.T]? := h2.block _ hpY.ltT fun e => ne_tagD hpY.tag.2 (hpY.tagv.1 t htn _ e.symm) (by decide) rfl
      exact ⟨e1, HFV.out.trans ((PFr.below hY).trans e2), (World.cell?_of_block (a := ⟨k.T, t * 4, none⟩) hTb).trans (hpY.tx t htn).1, (World.frozen?_of_block (a := ⟨k.T, t * 4, none⟩) hTb).trans (hpY.fzT _)⟩
    have HOps : Hid (∀ Y, Below V.heap.size V Y → OpP Y w0.heap.size (k.vo t) (st.ops t)) := fun Y hY => (hpV.below hY).ops t htn
    have HW0 : Hid (w0.heap.size ≤ V.heap.size) := hpV.bel.size
    clear hpV hkd HPV x1 x3 g1 g3 r1
    generalize k.vo t = vq at *
    go_wp2_with fail
    refine wp_region_L (B := [9, 12]) (S := (fun _ => True)) (T := (fun w' => Below V.heap.size V w')) (by kernel_rfl) ⟨trivial, (Below.refl _ _).drew⟩ (fun hHeld => ?_)
    refine wpAnyL_takeS (i := 0) (v := ?_) rfl (by kernel_rfl) (by kernel_rfl) (by kernel_rfl) (by kernel_rfl) (fun _ _ _ h => h) (Or.inl ⟨by rfl, ?_⟩) (by assumption) ?_
    rotate_left 1
    · intro wz _
      go_simp
      all_goals with_reducible rfl
    simp only [Act.put, List.setIfInBounds_toArray, List.set_cons_zero, List.set_cons_succ, List.getElem_toArray, List.getElem_cons_zero]
    refine wpAnyL_takeS (i := 1) (v := ?_) rfl (by kernel_rfl) (by kernel_rfl) (by kernel_rfl) (by kernel_rfl) (fun _ _ _ h => h) (Or.inl ⟨by rfl, ?_⟩) (by assumption) ?_
    rotate_left 1
    · intro wz _
      go_simp
      all_goals with_reducible rfl
    simp only [Act.put, List.setIfInBounds_toArray, List.set_cons_zero, List.set_cons_succ, List.getElem_toArray, List.getElem_cons_zero, List.getElem_cons_succ]
    refine wpAnyL_takeS (i := 2) (v := ?_) rfl (by kernel_rfl) (by kernel_rfl) (by kernel_rfl) (by kernel_rfl) (fun _ _ _ h => h) (Or.inl ⟨by rfl, ?_⟩) (by assumption) ?_
    rotate_left 1
    · intro wz _
      go_simp
      all_goals with_reducible rfl
    simp only [Act.put, List.setIfInBounds_toArray, List.set_cons_zero, List.set_cons_succ, List.getElem_toArray, List.getElem_cons_zero, List.getElem_cons_succ]
    refine wpAnyL_takeS (i := 3) (v := ?_) rfl (by kernel_rfl) (by kernel_rfl) (by kernel_rfl) (by kernel_rfl) (fun _ _ _ h => h) (Or.inl ⟨by rfl, ?_⟩) (by assumption) ?_
    rotate_left 1
    · intro wz _
      go_simp
      all_goals with_reducible rfl
    simp only [Act.put, List.setIfInBounds_toArray, List.set_cons_zero, List.set_cons_succ, List.getElem_toArray, List.getElem_cons_zero, List.getElem_cons_succ]
    refine wpAnyL_take [9, 12] (i := 4) (v := ?_) rfl (by kernel_rfl) (by kernel_rfl) (by kernel_rfl) (by kernel_rfl) (fun _ _ _ h => h) (Or.inl ⟨by rfl, ?_⟩) (by assumption) ?_
    rotate_left 1
    · intro wz sb
      obtain ⟨y0, y1⟩ := HX.out wz sb.2
      go_simp
      all_goals with_reducible rfl
    simp only [Act.put, List.setIfInBounds_toArray, List.set_cons_zero, List.set_cons_succ, List.getElem_toArray, List.getElem_cons_zero, List.getElem_cons_succ]
    refine wpAnyL_takeS (i := 5) (v := ?_) rfl (by kernel_rfl) (by kernel_rfl) (by kernel_rfl) (by kernel_rfl) (fun _ _ _ h => h) (Or.inl ⟨by rfl, ?_⟩) (by assumption) ?_
    rotate_left 1
    · intro wz _
      go_simp
      all_goals with_reducible rfl
    simp only [Act.put, List.setIfInBounds_toArray, List.set_cons_zero, List.set_cons_succ, List.getElem_toArray, List.getElem_cons_zero, List.getElem_cons_succ]
    refine wpAnyL_take [7, 8, 9, 12] (i := 6) (v := ?_) rfl (by kernel_rfl) (by kernel_rfl) (by kernel_rfl) (by kernel_rfl) (fun _ _ _ h => h) (Or.inl ⟨by rfl, ?_⟩) (by assumption) ?_
    rotate_left 1
    · intro wz sb
      obtain ⟨y0, y1⟩ := HX.out wz sb.2
      go_simp
      all_goals with_reducible rfl
    simp only [Act.put, List.setIfInBounds_toArray, List.set_cons_zero, List.set_cons_succ, List.getElem_toArray, List.getElem_cons_zero, List.getElem_cons_succ]
    refine wpAnyL_takeS (i := 7) (v := ?_) rfl (by kernel_rfl) (by kernel_rfl) (by kernel_rfl) (by kernel_rfl) (fun _ _ _ h => h) (Or.inl ⟨by rfl, ?_⟩) (by assumption) ?_
    rotate_left 1
    · intro wz _
      go_simp
      all_goals with_reducible rfl
    simp only [Act.put, List.setIfInBounds_toArray, List.set_cons_zero, List.set_cons_succ, List.getElem_toArray, List.getElem_cons_zero, List.getElem_cons_succ]
    generalize V.drew = V2 at hHeld ⊢
    refine wpAnyL_ready (rs := [8]) (by kernel_rfl) (by simp) (AllReadyL.cons rfl (fun K hK => ?_) AllReadyL.nil)
    go_simp
    have hbA := belA hHeld.2 (.cells #[.bool true, .int .i64 (key : Int), .int .i64 0, .int .i64 0] 84)
    refine hK.out _ _ ⟨trivial, hbA⟩ (fun hHeld => ?_)
    clear hK K
    obtain ⟨v', W6, hr, hop, hg, hv⟩ := run_appP (HOps.out _ hbA) (B := V2.heap.size) (o := ⟨true, key, 0, 0⟩) (by refine ⟨?_, ?_, ?_, ?_⟩ <;> simp) (by have := HW0.out; have := hbA.size; omega) (by omega) 71
    obtain ⟨va', vc', rfl⟩ := ownsRow_slice hop
    obtain ⟨R1, R2, s0, s1⟩ := HPush.out _ _ _ hbA hop hg hv
    have HR1 := hideIt R1
    have HR2 := hideIt R2
    refine wpAnyL_ready (rs := [9]) (by kernel_rfl) (by simp) (AllReadyL.last rfl (by kernel_rfl) (fun K hK => ?_) AllReadyL.nil)
    refine step_append_run (by rfl) _ _ 71 (by rfl) _ _ _ W6 (by rfl) (by rfl) hr ?_
    refine hK.out _ _ trivial (fun hHeld => ?_)
    clear hK K
    simp only [Act.put, List.setIfInBounds_toArray, List.set_cons_zero, List.set_cons_succ, List.getElem_toArray, List.getElem_cons_zero, List.getElem_cons_succ]
    clear R1 R2 hop hg hv hr hbA
    generalize (st.ops t ++ [_]).length = ln at *
    refine wpAnyL_takeE (i := 10) (v := ?_) rfl (by kernel_rfl) (by kernel_rfl) (by kernel_rfl) (by kernel_rfl) (by kernel_rfl) (fun _ _ _ h => h) (Or.inl ⟨by rfl, ?_⟩) (by assumption) ?_
    rotate_left 1
    · intro wz _
      go_simp
      all_goals with_reducible rfl
    simp only [Act.put, List.setIfInBounds_toArray, List.set_cons_zero, List.set_cons_succ, List.getElem_toArray, List.getElem_cons_zero, List.getElem_cons_succ]
    refine wpAnyL_takeE (i := 11) (v := ?_) rfl (by kernel_rfl) (by kernel_rfl) (by kernel_rfl) (by kernel_rfl) (by kernel_rfl) (fun _ _ _ h => h) (Or.inl ⟨by rfl, ?_⟩) (by assumption) ?_
    rotate_left 1
    · intro wz _
      go_simp
      all_goals with_reducible rfl
    simp only [Act.put, List.setIfInBounds_toArray, List.set_cons_zero, List.set_cons_succ, List.getElem_toArray, List.getElem_cons_zero, List.getElem_cons_succ]
    refine wpAnyL_ready (rs := [12]) (by kernel_rfl) (by simp) (AllReadyL.last rfl (by kernel_rfl) (fun K hK => ?_) AllReadyL.nil)
    go_simp
    refine hK.out _ _ trivial (fun hHeld => ?_)
    clear hK K
    refine wpAnyL_done (by kernel_rfl) ?_ _
    go_wp2
    go_ret
    exact ⟨_, by rw [HT.out]; rfl, by rw [HDo.out]; exact HR1.out, HR2.out⟩
  · obtain ⟨hm, ho⟩ := HI.out.ord_few hn
    have hEd := end_any hpV hn HI.out.opl hm ho htn HEn.out (HI.out.enOk t)
    have hrf : refS c n { st with tm := st.tm + 1 } t = refB c n st t := rfl
    rw [hrf] at hEd
    have t12 : toldV 12 = .iface 29 (.int .i64 12) := rfl
    have t0 : toldV 0 = .nilIface := rfl
    clear hpV hkd hm ho hrf
    obtain ⟨r, hr⟩ : ∃ r, refB c n st t = r := ⟨_, rfl⟩
    rw [hr] at hEd
    have HRb := hideIt hr
    clear hr
    cases r
    · have HEd := hideIt hEd
      clear hEd
      go_wp2_with fail
      refine HEd.out.mono ?_
      rintro e W5 ⟨k5, rfl, hp5, hf5⟩
      have HP5 := hideIt hp5
      have HF5 := hideIt (HFV.out.trans hf5)
      rw [show (if false = true then (12 : Int) else 0) = 0 from rfl, t0]
      clear HEd hp5 hf5
      go_wp2
      go_ret
      exact ⟨k5, by rw [HT.out, HRb.out]; rfl, by rw [HDo.out, HRb.out]; exact HP5.out, HF5.out⟩
    · have HEd := hideIt hEd
      clear hEd
      go_wp2_with fail
      refine HEd.out.mono ?_
      rintro e W5 ⟨k5, rfl, hp5, hf5⟩
      have HP5 := hideIt hp5
      have HF5 := hideIt (HFV.out.trans hf5)
      rw [show (if true = true then (12 : Int) else 0) = 12 from rfl, t12]
      clear HEd hp5 hf5
      go_wp2
      go_ret
      exact ⟨k5, by rw [HT.out, HRb.out]; rfl, by rw [HDo.out, HRb.out]; exact HP5.out, HF5.out⟩
  · have HPn := hideIt (hpV.setOv htn)
    have HFn := hideIt (HFV.out.trans (PFr.set (p := ⟨k.T, t * 4 + 3, none⟩) (.inr (.inl rfl)) (.bool true)))
    clear hpV hkd HPV HFV
    go_wp2
    go_ret
    exact ⟨k, by rw [HT.out]; rfl, by rw [HDo.out]; exact HPn.out, HFn.out⟩
end
end Go.Proofs.YtaopigjhdkdklaaDoor
