/-
  pointsAt, isPivot, hasPivot, walked.
-/
import Derived.Test.YtaopigjhdkdklaaDoorVsWZ
import Derived.Test.YtaopigjhdkdklaaDoorDcW
namespace Go.Proofs.YtaopigjhdkdklaaDoor
open Go.RowKit Go.Shelf

/-- Whether an op reads, from others than i, what j writes. -/
def rdsB (st : MvS) (i j : Nat) (o : IOp) : Bool := !o.wr && decide (o.frm ≠ (i : Int)) && decide (0 < wrN (st.ops j) o.key)
/-- One points at another one, as the program has it. -/
def ptsM (st : MvS) (i j : Nat) : Bool := decide (i ≠ j) && (decide (st.bg j < st.en i) && decide (st.bg i < st.en j)) && (st.ops i).any (rdsB st i j)
/-- Times that tell. -/
def EnOk (st : MvS) : Prop := (∀ x, st.en x = -1 ∨ 0 < st.en x) ∧ (∀ x, st.bg x = -1 ∨ 0 < st.bg x) ∧ ∀ x y, 0 < st.en x → st.en x ≠ st.bg y
theorem ptsM_pts {st : MvS} (h : EnOk st) (i j : Nat) : ptsM st i j = ptsB st st.en i j := by
  obtain ⟨h1, h2, h3⟩ := h
  unfold ptsM ptsB
  have e : (decide (st.bg j < st.en i) && decide (st.bg i < st.en j)) = ((decide (0 ≤ st.en i) && decide (0 ≤ st.en j)) && (decide (st.bg j ≤ st.en i) && decide (st.bg i ≤ st.en j))) := by
    rw [Bool.eq_iff_iff]
    simp only [Bool.and_eq_true, decide_eq_true_eq]
    have a1 := h1 i
    have a2 := h1 j
    have b1 := h2 i
    have b2 := h2 j
    have c1 := h3 i j
    have c2 := h3 j i
    constructor
    · intro ⟨x, y⟩
      omega
    · intro ⟨⟨x, y⟩, z, u⟩
      have := c1 (by omega)
      have := c2 (by omega)
      omega
  rw [e, ← Bool.and_assoc (decide (i ≠ j))]
  rfl

section
variable {w0 W : World} {k : PrK} {c : Bool} {n : Nat} {st : MvS}

set_option maxRecDepth 100000 in
set_option maxHeartbeats 1000000 in
theorem rdsF_any (h : PrB w0 W k c n st) (hl : ∀ t, (st.ops t).length ≤ 60) {i j : Nat} (hj : j < n) (o : IOp) (Bt Be : Nat) (Z : World) (hZ : Below W.heap.size W Z) (c1 : Z.cell? ⟨Bt, 0, none⟩ = some (.int .i64 (i : Int))) (c2 : Z.cell? ⟨Be, 0, none⟩ = some (.pointer (some ⟨k.T, j * 4, none⟩))) :
    Calls Tryd.prog 89 #[o.agg, .pointer (some ⟨Bt, 0, none⟩), .pointer (some ⟨Be, 0, none⟩)] Z fun e w' => e = .returned (.bool (rdsB st i j o)) ∧ Below Z.heap.size Z w' := by
  obtain ⟨owr, okey, ofrm, onum⟩ := o
  have hZ1 := belA hZ (.cells #[.bool owr, .int .i64 okey, .int .i64 ofrm, .int .i64 onum] 84)
  have HWr := hideIt (h.writes hl hj okey _ hZ1)
  have HB := hideIt (belA (Below.refl Z.heap.size Z) (.cells #[.bool owr, .int .i64 okey, .int .i64 ofrm, .int .i64 onum] 84))
  unfold IOp.agg
  dsimp only
  generalize hR : rdsB st i j ⟨owr, okey, ofrm, onum⟩ = R
  unfold rdsB at hR
  dsimp only at hR
  have HR := hideIt hR
  clear hR
  have hl1 := World.block_lt_of_cell? Z _ c1
  have hl2 := World.block_lt_of_cell? Z _ c2
  have n1 : ¬ Bt = Z.heap.size := by dsimp only at hl1; omega
  have n2 : ¬ Be = Z.heap.size := by dsimp only at hl2; omega
  clear hZ hZ1 h hl
  cases owr
  · by_cases hf : ofrm = (i : Int)
    · have e1 : (ofrm != (i : Int)) = false := by simp [hf]
      have HE : Hid (R = false) := by rw [← HR.out]; simp [Hid, hf]
      clear hf HR
      go_enter Tryd.func89, Tryd.ntmps89
      go_wp2
      go_ret
      exact ⟨by rw [HE.out]; rfl, HB.out⟩
    · have e1 : (ofrm != (i : Int)) = true := by simpa using hf
      have HE : Hid (R = decide (0 < wrN (st.ops j) okey)) := by rw [← HR.out]; simp [Hid, hf]
      clear hf HR
      generalize wrN (st.ops j) okey = x at *
      go_enter Tryd.func89, Tryd.ntmps89
      go_wp2_with fail
      refine HWr.out.mono ?_
      rintro e W1 ⟨rfl, hb⟩
      have HB1 := hideIt (belJ HB.out hb)
      clear HWr hb
      by_cases hx : 0 < x
      · have hx' : (0 : Int) < (x : Int) := by omega
        go_wp2
        go_ret
        exact ⟨by rw [HE.out, decide_eq_true hx]; rfl, HB1.out⟩
      · have hx' : ¬ (0 : Int) < (x : Int) := by omega
        go_wp2
        go_ret
        exact ⟨by rw [HE.out, decide_eq_false hx]; rfl, HB1.out⟩
  · have HE : Hid (R = false) := by rw [← HR.out]; rfl
    clear HR
    go_enter Tryd.func89, Tryd.ntmps89
    go_wp2
    go_ret
    exact ⟨by rw [HE.out]; rfl, HB.out⟩

set_option maxRecDepth 100000 in
set_option maxHeartbeats 1000000 in
theorem idxReads_any (h : PrB w0 W k c n st) (hl : ∀ t, (st.ops t).length ≤ 60) {i j : Nat} (hj : j < n) (ops : List IOp) (hol : ops.length ≤ 60) (a : Option Addr) (cap : Nat) (Bt Be : Nat) (Z : World) (hZ : Below W.heap.size W Z) (hq : IOpsQ Z a ops) (c1 : Z.cell? ⟨Bt, 0, none⟩ = some (.int .i64 (i : Int))) (c2 : Z.cell? ⟨Be, 0, none⟩ = some (.pointer (some ⟨k.T, j * 4, none⟩))) :
    Calls Tryd.prog 94 #[.slice a ops.length cap, .func (.func 89) #[] #[.pointer (some ⟨Bt, 0, none⟩), .pointer (some ⟨Be, 0, none⟩)]] Z fun e w' => ∃ r : Int, e = .returned (.int .i64 r) ∧ decide (0 ≤ r) = ops.any (rdsB st i j) ∧ Below Z.heap.size Z w' := by
  have HP := hideIt h
  have HL := hideIt hl
  have HQ := hideIt hq
  have HZ := hideIt hZ
  have HC := hideIt (And.intro c1 c2)
  have hl1 := World.block_lt_of_cell? Z _ c1
  have hl2 := World.block_lt_of_cell? Z _ c2
  clear h hl hq hZ c1 c2
  go_enter Tryd.func94, Tryd.ntmps94
  go_wp2
  go_loopw [8] (fun v wr => ∃ m : Nat, m ≤ ops.length ∧ v = .int .i64 m ∧ (ops.take m).any (rdsB st i j) = false ∧ Below Z.heap.size Z wr) (fun v _ => ops.length - (intOf v).toNat)
  case atStart => exact ⟨0, Nat.zero_le _, rfl, rfl, Below.refl _ _⟩
  case round =>
    obtain ⟨m, hm, rfl, hf, hb⟩ := hrel
    have HF := hideIt hf
    have HB := hideIt hb
    clear hf
    by_cases hml : m < ops.length
    · have hml' : (m : Int) < (ops.length : Int) := by omega
      obtain ⟨g, off, rfl, hg, p1, p2, p3, p4⟩ := (HQ.out.below hb).at hml
      have HR := hideIt (rdsF_any (i := i) HP.out HL.out hj ops[m] Bt Be wr (belJ HZ.out hb) ((hb.cell (p := ⟨Bt, 0, none⟩) hl1).trans HC.out.1) ((hb.cell (p := ⟨Be, 0, none⟩) hl2).trans HC.out.2))
      have HS : Hid ((ops.take (m + 1)).any (rdsB st i j) = rdsB st i j ops[m]) := by
        show _ = _
        rw [List.take_add_one, List.getElem?_eq_getElem hml, List.any_append, HF.out]
        simp
      have HT : Hid (rdsB st i j ops[m] = true → ops.any (rdsB st i j) = true) := fun hx => List.any_eq_true.2 ⟨_, List.getElem_mem hml, hx⟩
      unfold IOp.agg at HR
      clear hb
      generalize ops[m] = o at *
      generalize rdsB st i j o = x at *
      obtain ⟨owr, okey, ofrm, onum⟩ := o
      dsimp only at *
      go_wp2_with fail
      refine HR.out.mono ?_
      rintro e W1 ⟨rfl, hb1⟩
      have HB1 := hideIt (belJ HB.out hb1)
      clear HR hb1
      cases x
      · go_wp2
        go_roundw
        case rel => exact ⟨m + 1, by omega, by go_num, HS.out, HB1.out⟩
        case measure => simp [intOf]; omega
      · have HT1 := hideIt (HT.out rfl)
        clear HT
        go_wp2
        go_ret
        exact ⟨m, rfl, by rw [HT1.out]; simp, HB1.out⟩
    · have hml' : ¬ (m : Int) < (ops.length : Int) := by omega
      have HA : Hid (ops.any (rdsB st i j) = false) := by
        show _ = _
        rw [← HF.out, List.take_of_length_le (by omega)]
      clear hb
      go_wp2
      go_ret
      exact ⟨-1, rfl, by rw [HA.out]; rfl, HB.out⟩

set_option maxRecDepth 100000 in
set_option maxHeartbeats 1000000 in
theorem anyReads_any (h : PrB w0 W k c n st) (hl : ∀ t, (st.ops t).length ≤ 60) {i j : Nat} (hj : j < n) (ops : List IOp) (hol : ops.length ≤ 60) (a : Option Addr) (cap : Nat) (Bt Be : Nat) (Z : World) (hZ : Below W.heap.size W Z) (hq : IOpsQ Z a ops) (c1 : Z.cell? ⟨Bt, 0, none⟩ = some (.int .i64 (i : Int))) (c2 : Z.cell? ⟨Be, 0, none⟩ = some (.pointer (some ⟨k.T, j * 4, none⟩))) :
    Calls Tryd.prog 88 #[.slice a ops.length cap, .func (.func 89) #[] #[.pointer (some ⟨Bt, 0, none⟩), .pointer (some ⟨Be, 0, none⟩)]] Z fun e w' => e = .returned (.bool (ops.any (rdsB st i j))) ∧ Below Z.heap.size Z w' := by
  have HI := hideIt (idxReads_any h hl hj ops hol a cap Bt Be Z hZ hq c1 c2)
  clear h hl hZ hq c1 c2
  go_enter Tryd.func88, Tryd.ntmps88
  go_wp2_with fail
  refine HI.out.mono ?_
  rintro e W1 ⟨r, rfl, hr, hb⟩
  have HB := hideIt hb
  have HR := hideIt hr
  clear HI hb hr
  by_cases hx : 0 ≤ r
  · have HD := hideIt (decide_eq_true hx)
    go_wp2
    go_ret
    exact ⟨by rw [← HR.out, HD.out]; rfl, HB.out⟩
  · have HD := hideIt (decide_eq_false hx)
    go_wp2
    go_ret
    exact ⟨by rw [← HR.out, HD.out]; rfl, HB.out⟩

set_option maxRecDepth 100000 in
set_option maxHeartbeats 2000000 in
theorem pointsAt_any (h : PrB w0 W k c n st) (hl : ∀ t, (st.ops t).length ≤ 60) {i j : Nat} (hi : i < n) (hj : j < n) (Z : World) (hZ : Below W.heap.size W Z) :
    Calls Tryd.prog 75 #[.pointer (some ⟨k.B, 0, none⟩), .int .i64 (i : Int), .int .i64 (j : Int)] Z fun e w' => e = .returned (.bool (ptsM st i j)) ∧ Below Z.heap.size Z w' := by
  have hP := h.below hZ
  have HP := hideIt hP
  have HL := hideIt hl
  have hiI : (i : Int) < (n : Int) := by omega
  have hjI : (j : Int) < (n : Int) := by omega
  have hBZ := hP.lt
  have hTZ := hP.ltT
  have hBel : Below Z.heap.size Z (Z.alloc (.cells #[.int .i64 (i : Int)] 3)) := belA (Below.refl _ _) _
  have hbt : (Z.alloc (.cells #[.int .i64 (i : Int)] 3)).cell? ⟨Z.heap.size, 0, none⟩ = some (.int .i64 (i : Int)) := by simp
  obtain ⟨oa, ocp, eo, hoc, hoq⟩ := hP.opq hi
  obtain ⟨t0, t1, t2, _⟩ := hP.tx i hi
  obtain ⟨_, s1, s2, _⟩ := hP.tx j hj
  rw [eo] at t0
  have c2 := hP.cells.2.2.1
  have hol := hl i
  have HOq := hideIt hoq
  clear h hl hZ hP hoq
  generalize hR : ptsM st i j = R
  have HR := hideIt hR
  clear hR
  go_enter Tryd.func75, Tryd.ntmps75
  go_wp2_with fail
  generalize hZ1 : Z.alloc (.cells #[.int .i64 (i : Int)] 3) = Z1 at hBel hbt ⊢
  have hs1 : Z.heap.size < Z1.heap.size := by rw [← hZ1]; simp
  clear hZ1
  have HX : Hid (∀ Y, Below Z1.heap.size Z1 Y → Y.cell? ⟨k.B, 2, none⟩ = some (.slice (some ⟨k.T, 0, none⟩) n n) ∧ Y.cell? ⟨Z.heap.size, 0, none⟩ = some (.int .i64 (i : Int))) := fun Y hY => ⟨((belJ hBel hY).cell (p := ⟨k.B, 2, none⟩) hBZ).trans c2, (hY.cell (p := ⟨Z.heap.size, 0, none⟩) hs1).trans hbt⟩
  have HBel := hideIt hBel
  refine wp_region_held_drew (S := (fun w' => Below Z1.heap.size Z1 w')) (by kernel_rfl) (Below.refl _ _).drew (fun hHeld => ?_)
  refine wpAnyH_take (i := 0) (v := ?_) rfl (by kernel_rfl) (by kernel_rfl) (by kernel_rfl) (fun _ _ _ h => h) (Or.inl ⟨by rfl, ?_⟩) (by assumption) ?_
  rotate_left 1
  · intro wz sb
    obtain ⟨y0, y1⟩ := HX.out wz sb
    go_simp
    all_goals with_reducible rfl
  simp only [Act.put, List.setIfInBounds_toArray, List.set_cons_zero, List.set_cons_succ, List.getElem_toArray, List.getElem_cons_zero]
  refine wpAnyH_take (i := 1) (v := ?_) rfl (by kernel_rfl) (by kernel_rfl) (by kernel_rfl) (fun _ _ _ h => h) (Or.inl ⟨by rfl, ?_⟩) (by assumption) ?_
  rotate_left 1
  · intro wz sb
    obtain ⟨y0, y1⟩ := HX.out wz sb
    go_simp
    all_goals with_reducible rfl
  simp only [Act.put, List.setIfInBounds_toArray, List.set_cons_zero, List.set_cons_succ, List.getElem_toArray, List.getElem_cons_zero, List.getElem_cons_succ]
  refine wpAnyH_take (i := 2) (v := ?_) rfl (by kernel_rfl) (by kernel_rfl) (by kernel_rfl) (fun _ _ _ h => h) (Or.inl ⟨by rfl, ?_⟩) (by assumption) ?_
  rotate_left 1
  · intro wz sb
    obtain ⟨y0, y1⟩ := HX.out wz sb
    go_simp
    all_goals with_reducible rfl
  simp only [Act.put, List.setIfInBounds_toArray, List.set_cons_zero, List.set_cons_succ, List.getElem_toArray, List.getElem_cons_zero, List.getElem_cons_succ]
  refine wpAnyH_take (i := 3) (v := ?_) rfl (by kernel_rfl) (by kernel_rfl) (by kernel_rfl) (fun _ _ _ h => h) (Or.inl ⟨by rfl, ?_⟩) (by assumption) ?_
  rotate_left 1
  · intro wz sb
    obtain ⟨y0, y1⟩ := HX.out wz sb
    go_simp
    all_goals with_reducible rfl
  simp only [Act.put, List.setIfInBounds_toArray, List.set_cons_zero, List.set_cons_succ, List.getElem_toArray, List.getElem_cons_zero, List.getElem_cons_succ]
  refine wpAnyH_take (i := 4) (v := ?_) rfl (by kernel_rfl) (by kernel_rfl) (by kernel_rfl) (fun _ _ _ h => h) (Or.inl ⟨by rfl, ?_⟩) (by assumption) ?_
  rotate_left 1
  · intro wz sb
    obtain ⟨y0, y1⟩ := HX.out wz sb
    go_simp
    all_goals with_reducible rfl
  simp only [Act.put, List.setIfInBounds_toArray, List.set_cons_zero, List.set_cons_succ, List.getElem_toArray, List.getElem_cons_zero, List.getElem_cons_succ]
  refine wpAnyH_take (i := 5) (v := ?_) rfl (by kernel_rfl) (by kernel_rfl) (by kernel_rfl) (fun _ _ _ h => h) (Or.inl ⟨by rfl, ?_⟩) (by assumption) ?_
  rotate_left 1
  · intro wz sb
    obtain ⟨y0, y1⟩ := HX.out wz sb
    go_simp
    all_goals with_reducible rfl
  simp only [Act.put, List.setIfInBounds_toArray, List.set_cons_zero, List.set_cons_succ, List.getElem_toArray, List.getElem_cons_zero, List.getElem_cons_succ]
  refine wpAnyH_take (i := 6) (v := ?_) rfl (by kernel_rfl) (by kernel_rfl) (by kernel_rfl) (fun _ _ _ h => h) (Or.inl ⟨by rfl, ?_⟩) (by assumption) ?_
  rotate_left 1
  · intro wz sb
    obtain ⟨y0, y1⟩ := HX.out wz sb
    go_simp
    all_goals with_reducible rfl
  simp only [Act.put, List.setIfInBounds_toArray, List.set_cons_zero, List.set_cons_succ, List.getElem_toArray, List.getElem_cons_zero, List.getElem_cons_succ]
  refine wpAnyH_take (i := 7) (v := ?_) rfl (by kernel_rfl) (by kernel_rfl) (by kernel_rfl) (fun _ _ _ h => h) (Or.inl ⟨by rfl, ?_⟩) (by assumption) ?_
  rotate_left 1
  · intro wz sb
    obtain ⟨y0, y1⟩ := HX.out wz sb
    go_simp
    all_goals with_reducible rfl
  simp only [Act.put, List.setIfInBounds_toArray, List.set_cons_zero, List.set_cons_succ, List.getElem_toArray, List.getElem_cons_zero, List.getElem_cons_succ]
  refine wpAnyH_take (i := 8) (v := ?_) rfl (by kernel_rfl) (by kernel_rfl) (by kernel_rfl) (fun _ _ _ h => h) (Or.inl ⟨by rfl, ?_⟩) (by assumption) ?_
  rotate_left 1
  · intro wz sb
    obtain ⟨y0, y1⟩ := HX.out wz sb
    go_simp
    all_goals with_reducible rfl
  simp only [Act.put, List.setIfInBounds_toArray, List.set_cons_zero, List.set_cons_succ, List.getElem_toArray, List.getElem_cons_zero, List.getElem_cons_succ]
  refine wpAnyH_take (i := 9) (v := ?_) rfl (by kernel_rfl) (by kernel_rfl) (by kernel_rfl) (fun _ _ _ h => h) (Or.inl ⟨by rfl, ?_⟩) (by assumption) ?_
  rotate_left 1
  · intro wz sb
    obtain ⟨y0, y1⟩ := HX.out wz sb
    go_simp
    all_goals with_reducible rfl
  simp only [Act.put, List.setIfInBounds_toArray, List.set_cons_zero, List.set_cons_succ, List.getElem_toArray, List.getElem_cons_zero, List.getElem_cons_succ]
  refine wpAnyH_take (i := 10) (v := ?_) rfl (by kernel_rfl) (by kernel_rfl) (by kernel_rfl) (fun _ _ _ h => h) (Or.inl ⟨by rfl, ?_⟩) (by assumption) ?_
  rotate_left 1
  · intro wz sb
    obtain ⟨y0, y1⟩ := HX.out wz sb
    go_simp
    all_goals with_reducible rfl
  simp only [Act.put, List.setIfInBounds_toArray, List.set_cons_zero, List.set_cons_succ, List.getElem_toArray, List.getElem_cons_zero, List.getElem_cons_succ]
  refine wpAnyH_take (i := 11) (v := ?_) rfl (by kernel_rfl) (by kernel_rfl) (by kernel_rfl) (fun _ _ _ h => h) (Or.inl ⟨by rfl, ?_⟩) (by assumption) ?_
  rotate_left 1
  · intro wz sb
    obtain ⟨y0, y1⟩ := HX.out wz sb
    go_simp
    all_goals with_reducible rfl
  simp only [Act.put, List.setIfInBounds_toArray, List.set_cons_zero, List.set_cons_succ, List.getElem_toArray, List.getElem_cons_zero, List.getElem_cons_succ]
  generalize Z1.drew = Z2 at hHeld ⊢
  refine wpAnyH_ready (rs := [12]) (by kernel_rfl) (by simp) (AllReadyH.cons rfl (fun K hK => ?_) AllReadyH.nil)
  go_simp
  have hs2 : Z1.heap.size ≤ Z2.heap.size := hHeld.size
  refine hK.out _ _ ?_ (fun hHeld => ?_)
  · exact hHeld.alloc hHeld.size _
  clear hK K
  have hn := heap_alloc_new Z2 (.cells #[.pointer none] 82)
  generalize hZ3 : Z2.alloc (.cells #[.pointer none] 82) = Z3 at hHeld hn ⊢
  clear hZ3
  refine wpAnyH_take (i := 13) (v := ?_) rfl (by kernel_rfl) (by kernel_rfl) (by kernel_rfl) (fun _ _ _ h => h) (Or.inl ⟨by rfl, ?_⟩) (by assumption) ?_
  rotate_left 1
  · intro wz sb
    obtain ⟨y0, y1⟩ := HX.out wz sb
    go_simp
    all_goals with_reducible rfl
  simp only [Act.put, List.setIfInBounds_toArray, List.set_cons_zero, List.set_cons_succ, List.getElem_toArray, List.getElem_cons_zero, List.getElem_cons_succ]
  have x0 : Z3.cell? ⟨Z2.heap.size, 0, none⟩ = some (.pointer none) := by rw [cell_of_row _ _ _ _ 82 _ hn]; rfl
  have f0 := frozen_of_row Z3 Z2.heap.size 0 _ 82 hn
  refine wpAnyH_ready (rs := [14]) (by kernel_rfl) (by simp) (AllReadyH.cons rfl (fun K hK => ?_) AllReadyH.nil)
  go_simp
  refine hK.out _ _ ?_ (fun hHeld => ?_)
  · exact hHeld.setCell (p := ⟨Z2.heap.size, 0, none⟩) hs2 _
  clear hK K
  have hbe : (Z3.setCell ⟨Z2.heap.size, 0, none⟩ (.pointer (some ⟨k.T, j * 4, none⟩))).cell? ⟨Z2.heap.size, 0, none⟩ = some (.pointer (some ⟨k.T, j * 4, none⟩)) := World.cell?_setCell_same' _ _ _ (by rw [x0]; rfl)
  refine wpAnyH_done (by kernel_rfl) ?_ _
  generalize Z3.setCell ⟨Z2.heap.size, 0, none⟩ (.pointer (some ⟨k.T, j * 4, none⟩)) = V at hHeld hbe ⊢
  clear x0 f0 hn
  have hBV := belJ HBel.out hHeld
  have hbtV := (HX.out V hHeld).2
  have v1 := (hBV.cell (p := ⟨k.T, i * 4 + 1, none⟩) hTZ).trans t1
  have v2 := (hBV.cell (p := ⟨k.T, i * 4 + 2, none⟩) hTZ).trans t2
  have v3 := (hBV.cell (p := ⟨k.T, j * 4 + 1, none⟩) hTZ).trans s1
  have v4 := (hBV.cell (p := ⟨k.T, j * 4 + 2, none⟩) hTZ).trans s2
  have v0 := (hBV.cell (p := ⟨k.T, i * 4, none⟩) hTZ).trans t0
  have HM := hideIt (meets_any k.T (i * 4) k.T (j * 4) (st.bg i) (st.en i) (st.bg j) (st.en j) V v1 v2 v3 v4)
  have HA : Hid (∀ q, Calls Tryd.prog 88 #[.slice oa (st.ops i).length ocp, .func (.func 89) #[] #[.pointer (some ⟨Z.heap.size, 0, none⟩), .pointer (some ⟨Z2.heap.size, 0, none⟩)]] (V.drewN q) fun e w' => e = .returned (.bool ((st.ops i).any (rdsB st i j))) ∧ Below (V.drewN q).heap.size (V.drewN q) w') := fun q => anyReads_any HP.out HL.out hj (st.ops i) hol oa ocp _ _ _ (below_drewN hBV q) (HOq.out.below (below_drewN hBV q)) hbtV hbe
  have HBV := hideIt hBV
  clear hBV t0 t1 t2 s1 s2 v1 v2 v3 v4 c2 hbt hBel HX hHeld HOq eo HBel
  by_cases hij : i = j
  · have e1 : ((i : Int) != (j : Int)) = false := by simp [hij]
    have HE : Hid (R = false) := by
      rw [← HR.out]
      show ptsM st i j = false
      unfold ptsM
      simp [hij]
    clear HA HM HR hij
    go_wp2
    go_ret
    exact ⟨by rw [HE.out]; rfl, HBV.out⟩
  have e1 : ((i : Int) != (j : Int)) = true := by rw [bne_iff_ne]; omega
  have HE : Hid (R = ((decide (st.bg j < st.en i) && decide (st.bg i < st.en j)) && (st.ops i).any (rdsB st i j))) := by
    rw [← HR.out]
    show ptsM st i j = _
    unfold ptsM
    rw [decide_eq_true hij]
    rfl
  clear hij HR
  generalize (decide (st.bg j < st.en i) && decide (st.bg i < st.en j)) = m at HM HE
  generalize (st.ops i).any (rdsB st i j) = x at HA HE
  go_wp2_with fail
  refine HM.out.mono ?_
  rintro e V1 ⟨rfl, qd, rfl⟩
  have hbV := World.cell?_of_block (w := V) (w' := V.drewN qd) (a := ⟨Z2.heap.size, 0, none⟩) rfl
  have hA := HA.out qd
  have HBq := hideIt (below_drewN HBV.out qd)
  have v0' : (V.drewN qd).cell? ⟨k.T, i * 4, none⟩ = some (.slice oa (st.ops i).length ocp) := v0
  have HAq := hideIt hA
  clear HM HA hA HBV v0 hbtV hbe hbV
  generalize V.drewN qd = V2 at *
  cases m
  · have HE2 : Hid (R = false) := by rw [HE.out]; rfl
    go_wp2
    go_ret
    exact ⟨by rw [HE2.out]; rfl, HBq.out⟩
  · have HE2 : Hid (R = x) := by rw [HE.out]; rfl
    go_wp2_with fail
    refine HAq.out.mono ?_
    rintro e V3 ⟨rfl, hb3⟩
    have HB3 := hideIt (belJ HBq.out hb3)
    clear HAq hb3
    go_wp2
    go_ret
    exact ⟨by rw [HE2.out]; rfl, HB3.out⟩

set_option maxRecDepth 100000 in
set_option maxHeartbeats 2000000 in
theorem isPivot_any (h : PrB w0 W k c n st) (hl : ∀ t, (st.ops t).length ≤ 60) (hn : n ≤ 8) (hE : EnOk st) {i : Nat} (hi : i < n) (Z : World) (hZ : Below W.heap.size W Z) :
    Calls Tryd.prog 76 #[.pointer (some ⟨k.B, 0, none⟩), .int .i64 (i : Int)] Z fun e w' => e = .returned (.bool (inP st st.en i n && outP st st.en i n)) ∧ Below Z.heap.size Z w' := by
  have hP := h.below hZ
  have c2 := hP.cells.2.2.1
  have HPt : Hid (∀ x y (Y : World), x < n → y < n → Below Z.heap.size Z Y → Calls Tryd.prog 75 #[.pointer (some ⟨k.B, 0, none⟩), .int .i64 (x : Int), .int .i64 (y : Int)] Y fun e w' => e = .returned (.bool (ptsB st st.en x y)) ∧ Below Y.heap.size Y w') := fun x y Y hx hy hY => by
    rw [← ptsM_pts hE]
    exact pointsAt_any hP hl hx hy Y hY
  have HI := hideIt (inP_succ st st.en i)
  have HO := hideIt (outP_succ st st.en i)
  have H0 : Hid (inP st st.en i 0 = false ∧ outP st st.en i 0 = false) := ⟨rfl, rfl⟩
  generalize inP st st.en i = F at *
  generalize outP st st.en i = G at *
  generalize hpt : ptsB st st.en = T at *
  clear h hl hZ hP hE hpt
  go_enter Tryd.func76, Tryd.ntmps76
  go_wp2
  go_loopw [5, 6, 13] (fun x y v wr => ∃ m : Nat, m ≤ n ∧ v = .int .i64 m ∧ x = .bool (G m) ∧ y = .bool (F m) ∧ Below Z.heap.size Z wr) (fun _ _ v _ => n - (intOf v).toNat)
  case atStart => exact ⟨0, Nat.zero_le _, rfl, by rw [H0.out.2], by rw [H0.out.1], Below.refl _ _⟩
  case round =>
    clear c2
    obtain ⟨m, hm, rfl, rfl, rfl, hb⟩ := hrel
    have HB := hideIt hb
    clear hb
    by_cases hmn : m < n
    · have hmn' : (m : Int) < (n : Int) := by omega
      have HIm := hideIt (HI.out m)
      have HOm := hideIt (HO.out m)
      have HP1 := hideIt (HPt.out i m wr hi hmn HB.out)
      generalize hx : T i m = x at HOm HP1
      generalize hy : T m i = y at HIm
      have HY := hideIt hy
      clear hx hy
      cases hg : G m
      · rw [hg] at HOm
        have HOx : Hid (G (m + 1) = x) := by rw [HOm.out]; simp [Hid]
        clear HOm
        go_wp2_with fail
        refine HP1.out.mono ?_
        rintro e W1 ⟨rfl, hb1⟩
        have HB1 := hideIt (belJ HB.out hb1)
        have HP2 := hideIt (HPt.out m i W1 hmn hi HB1.out)
        rw [HY.out] at HP2
        clear HP1 hb1
        cases hf : F m
        · rw [hf] at HIm
          have HIx : Hid (F (m + 1) = y) := by rw [HIm.out]; simp [Hid]
          clear HIm
          go_wp2_with fail
          refine HP2.out.mono ?_
          rintro e W2 ⟨rfl, hb2⟩
          have HB2 := hideIt (belJ HB1.out hb2)
          clear HP2 hb2
          go_wp2
          go_roundw
          case rel => exact ⟨m + 1, by omega, by go_num, by rw [HOx.out], by rw [HIx.out], HB2.out⟩
          case measure => simp [intOf]; omega
        · rw [hf] at HIm
          have HIx : Hid (F (m + 1) = true) := by rw [HIm.out]; simp [Hid]
          clear HIm HP2
          go_wp2
          go_roundw
          case rel => exact ⟨m + 1, by omega, by go_num, by rw [HOx.out], by rw [HIx.out], HB1.out⟩
          case measure => simp [intOf]; omega
      · rw [hg] at HOm
        have HOx : Hid (G (m + 1) = true) := by rw [HOm.out]; simp [Hid]
        have HP2 := hideIt (HPt.out m i wr hmn hi HB.out)
        rw [HY.out] at HP2
        clear HOm HP1
        cases hf : F m
        · rw [hf] at HIm
          have HIx : Hid (F (m + 1) = y) := by rw [HIm.out]; simp [Hid]
          clear HIm
          go_wp2_with fail
          refine HP2.out.mono ?_
          rintro e W2 ⟨rfl, hb2⟩
          have HB2 := hideIt (belJ HB.out hb2)
          clear HP2 hb2
          go_wp2
          go_roundw
          case rel => exact ⟨m + 1, by omega, by go_num, by rw [HOx.out], by rw [HIx.out], HB2.out⟩
          case measure => simp [intOf]; omega
        · rw [hf] at HIm
          have HIx : Hid (F (m + 1) = true) := by rw [HIm.out]; simp [Hid]
          clear HIm HP2
          go_wp2
          go_roundw
          case rel => exact ⟨m + 1, by omega, by go_num, by rw [HOx.out], by rw [HIx.out], HB.out⟩
          case measure => simp [intOf]; omega
    · have hmn' : ¬ (m : Int) < (n : Int) := by omega
      have hme : m = n := by omega
      obtain ⟨x, hG⟩ : ∃ x, G m = x := ⟨_, rfl⟩
      obtain ⟨y, hF⟩ : ∃ y, F m = y := ⟨_, rfl⟩
      have HG : Hid (G n = x) := by rw [← hme]; exact hG
      have HF : Hid (F n = y) := by rw [← hme]; exact hF
      rw [hG, hF]
      clear hme hG hF
      cases x
      · go_wp2
        go_ret
        exact ⟨by rw [HG.out, HF.out]; simp, HB.out⟩
      · go_wp2
        go_ret
        exact ⟨by rw [HG.out, HF.out]; simp, HB.out⟩

set_option maxRecDepth 100000 in
set_option maxHeartbeats 2000000 in
theorem hasPivot_any (h : PrB w0 W k c n st) (hl : ∀ t, (st.ops t).length ≤ 60) (hn : n ≤ 8) (hE : EnOk st) {t : Nat} (ht : t < n) (Z : World) (hZ : Below W.heap.size W Z) :
    Calls Tryd.prog 58 #[.pointer (some ⟨k.B, 0, none⟩), .int .i64 (t : Int)] Z fun e w' => e = .returned (.bool (pivP st st.en n t n)) ∧ Below Z.heap.size Z w' := by
  have hP := h.below hZ
  have c2 := hP.cells.2.2.1
  have HPt : Hid (∀ x y (Y : World), x < n → y < n → Below Z.heap.size Z Y → Calls Tryd.prog 75 #[.pointer (some ⟨k.B, 0, none⟩), .int .i64 (x : Int), .int .i64 (y : Int)] Y fun e w' => e = .returned (.bool (ptsB st st.en x y)) ∧ Below Y.heap.size Y w') := fun x y Y hx hy hY => by
    rw [← ptsM_pts hE]
    exact pointsAt_any hP hl hx hy Y hY
  have HPv : Hid (∀ x (Y : World), x < n → Below Z.heap.size Z Y → Calls Tryd.prog 76 #[.pointer (some ⟨k.B, 0, none⟩), .int .i64 (x : Int)] Y fun e w' => e = .returned (.bool (inP st st.en x n && outP st st.en x n)) ∧ Below Y.heap.size Y w') := fun x Y hx hY => isPivot_any hP hl hn hE hx Y hY
  have HS : Hid (∀ m, pivP st st.en n t (m + 1) = (pivP st st.en n t m || ((decide (m = t) || ptsB st st.en t m || ptsB st st.en m t) && (inP st st.en m n && outP st st.en m n)))) := fun m => by
    rw [pivP_succ, Bool.and_assoc]
    rfl
  have HMo : Hid (∀ m, m < n → (decide (m = t) || ptsB st st.en t m || ptsB st st.en m t) = true → (inP st st.en m n && outP st st.en m n) = true → pivP st st.en n t n = true) := fun m hm h1 h2 => pivP_more hm (by
    rw [Bool.and_assoc, h2, Bool.and_true]
    exact h1)
  have H0 : Hid (pivP st st.en n t 0 = false) := rfl
  generalize hq : (fun m => inP st st.en m n && outP st st.en m n) = Q at *
  have hQ : ∀ m, (inP st st.en m n && outP st st.en m n) = Q m := fun m => by rw [← hq]
  simp only [hQ] at HPv HS HMo
  generalize hF : pivP st st.en n t = F at *
  generalize hT : ptsB st st.en = T at *
  clear h hl hZ hP hE hq hQ hF hT
  go_enter Tryd.func58, Tryd.ntmps58
  go_wp2
  go_loopw [12] (fun v wr => ∃ m : Nat, m ≤ n ∧ v = .int .i64 m ∧ F m = false ∧ Below Z.heap.size Z wr) (fun v _ => n - (intOf v).toNat)
  case atStart => exact ⟨0, Nat.zero_le _, rfl, H0.out, Below.refl _ _⟩
  case round =>
    clear c2
    obtain ⟨m, hm, rfl, hf, hb⟩ := hrel
    have HB := hideIt hb
    have HFm := hideIt hf
    clear hb hf
    by_cases hmn : m < n
    · have hmn' : (m : Int) < (n : Int) := by omega
      have HSm := hideIt (HS.out m)
      have HMm := hideIt (HMo.out m hmn)
      rw [HFm.out, Bool.false_or] at HSm
      have HPm := hideIt (fun Y => HPv.out m Y hmn)
      generalize Q m = q at HSm HMm HPm
      by_cases hmt : m = t
      · have e1 : ((m : Int) == (t : Int)) = true := by simp [hmt]
        rw [decide_eq_true hmt] at HSm HMm
        have HSq : Hid (F (m + 1) = q) := by rw [HSm.out]; simp [Hid]
        have HMq : Hid (q = true → F n = true) := fun hq => HMm.out (by simp) hq
        have HP1 := hideIt (HPm.out wr HB.out)
        clear hmt HSm HMm
        go_wp2_with fail
        refine HP1.out.mono ?_
        rintro e W1 ⟨rfl, hb1⟩
        have HB1 := hideIt (belJ HB.out hb1)
        clear HP1 hb1
        cases q
        · go_wp2
          go_roundw
          case rel => exact ⟨m + 1, by omega, by go_num, HSq.out, HB1.out⟩
          case measure => simp [intOf]; omega
        · have HT := hideIt (HMq.out rfl)
          clear HMq
          go_wp2
          go_ret
          exact ⟨by rw [HT.out]; rfl, HB1.out⟩
      · have e1 : ((m : Int) == (t : Int)) = false := by rw [beq_eq_false_iff_ne]; omega
        rw [decide_eq_false hmt, Bool.false_or] at HSm HMm
        have HP1 := hideIt (HPt.out t m wr ht hmn HB.out)
        have HP2 := hideIt (fun Y => HPt.out m t Y hmn ht)
        generalize T t m = x at HSm HMm HP1
        generalize T m t = y at HSm HMm HP2
        clear hmt
        go_wp2_with fail
        refine HP1.out.mono ?_
        rintro e W1 ⟨rfl, hb1⟩
        have HB1 := hideIt (belJ HB.out hb1)
        clear HP1 hb1
        cases x
        · have HP2' := hideIt (HP2.out W1 HB1.out)
          go_wp2_with fail
          refine HP2'.out.mono ?_
          rintro e W2 ⟨rfl, hb2⟩
          have HB2 := hideIt (belJ HB1.out hb2)
          clear HP2 HP2' hb2
          cases y
          · have HSq : Hid (F (m + 1) = false) := by rw [HSm.out]; simp [Hid]
            clear HSm HMm
            go_wp2
            go_roundw
            case rel => exact ⟨m + 1, by omega, by go_num, HSq.out, HB2.out⟩
            case measure => simp [intOf]; omega
          · have HSq : Hid (F (m + 1) = q) := by rw [HSm.out]; simp [Hid]
            have HMq : Hid (q = true → F n = true) := fun hq => HMm.out (by simp) hq
            have HP3 := hideIt (HPm.out W2 HB2.out)
            clear HSm HMm
            go_wp2_with fail
            refine HP3.out.mono ?_
            rintro e W3 ⟨rfl, hb3⟩
            have HB3 := hideIt (belJ HB2.out hb3)
            clear HP3 hb3
            cases q
            · go_wp2
              go_roundw
              case rel => exact ⟨m + 1, by omega, by go_num, HSq.out, HB3.out⟩
              case measure => simp [intOf]; omega
            · have HT := hideIt (HMq.out rfl)
              clear HMq
              go_wp2
              go_ret
              exact ⟨by rw [HT.out]; rfl, HB3.out⟩
        · have HSq : Hid (F (m + 1) = q) := by rw [HSm.out]; simp [Hid]
          have HMq : Hid (q = true → F n = true) := fun hq => HMm.out (by simp) hq
          have HP3 := hideIt (HPm.out W1 HB1.out)
          clear HSm HMm HP2
          go_wp2_with fail
          refine HP3.out.mono ?_
          rintro e W3 ⟨rfl, hb3⟩
          have HB3 := hideIt (belJ HB1.out hb3)
          clear HP3 hb3
          cases q
          · go_wp2
            go_roundw
            case rel => exact ⟨m + 1, by omega, by go_num, HSq.out, HB3.out⟩
            case measure => simp [intOf]; omega
          · have HT := hideIt (HMq.out rfl)
            clear HMq
            go_wp2
            go_ret
            exact ⟨by rw [HT.out]; rfl, HB3.out⟩
    · have hmn' : ¬ (m : Int) < (n : Int) := by omega
      have hme : m = n := by omega
      have HE : Hid (F n = false) := by rw [← hme]; exact HFm.out
      clear hme
      go_wp2
      go_ret
      exact ⟨by rw [HE.out]; rfl, HB.out⟩
end
end Go.Proofs.YtaopigjhdkdklaaDoor
