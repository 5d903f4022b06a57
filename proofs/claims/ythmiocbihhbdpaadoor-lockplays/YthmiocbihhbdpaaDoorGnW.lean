/-
  Package lock's run: one goes on, walked.
-/
import Derived.Test.YthmiocbihhbdpaaDoorWgWZ
namespace Go.Proofs.YthmiocbihhbdpaaDoor
open Go.RowKit

theorem CrMap.mono {w : World} {M q q' n : Nat} {g : Nat → Nat} (h : CrMap w M q n g) (hq : q ≤ q') : CrMap w M q' n g := by
  obtain ⟨D, h1, h2⟩ := h
  exact ⟨D, h1.mono hq, h2⟩
theorem RunM.more {w0 W : World} {n : Nat} {p : List (List Stp)} {k : RunB} {hl dn : List Stp} {ov : Nat → Bool} {pos : Nat → Nat} {q : Nat} {g : Nat → Nat} {cnt : Nat → Nat} {vic : List Nat} {vh vd vv : Value} (h : RunM w0 n p k W hl dn ov pos q g cnt vic vh vd vv) {q' : Nat} (hq : q ≤ q') : RunM w0 n p k W hl dn ov pos q' g cnt vic vh vd vv :=
  ⟨h.bel, h.blk, h.held, h.left, h.over, h.map.mono hq, h.done, h.cnt, h.vic, h.lo, h.hd, h.cv⟩
/-- The run of a state, in memory. -/
def RunS (w0 : World) (n : Nat) (p : List (List Stp)) (k : RunB) (W : World) (st : LkS) (q : Nat) : Prop :=
  ∃ vh vd vv g, RunM w0 n p k W (heldL st) st.done st.ov st.pos q g st.cnt st.vic vh vd vv ∧ WtG n g st.wt
theorem RunS.more {w0 W : World} {n : Nat} {p : List (List Stp)} {k : RunB} {st : LkS} {q q' : Nat} (h : RunS w0 n p k W st q) (hq : q ≤ q') : RunS w0 n p k W st q' := by
  obtain ⟨vh, vd, vv, g, h1, h2⟩ := h
  exact ⟨vh, vd, vv, g, h1.more hq, h2⟩
theorem RunS.below {w0 W W' : World} {n : Nat} {p : List (List Stp)} {k : RunB} {st : LkS} {q : Nat} (h : RunS w0 n p k W st q) (hb : Below W.heap.size W W') : RunS w0 n p k W' st q := by
  obtain ⟨vh, vd, vv, g, h1, h2⟩ := h
  exact ⟨vh, vd, vv, g, h1.below hb, h2⟩
theorem drop_head {l : List Stp} {i : Nat} (h : i < l.length) : 0 < (l.drop i).length ∧ ∀ h0 : 0 < (l.drop i).length, (l.drop i)[0] = stZ l i := by
  refine ⟨by rw [List.length_drop]; omega, fun h0 => ?_⟩
  rw [List.getElem_drop, stZ_at h]
  simp
/-- What is left behind one more. -/
theorem stpsQ_next {w : World} {b off : Nat} {l : List Stp} {i : Nat} (h : StpsQ w (some ⟨b, off, none⟩) (l.drop i)) (hi : i < l.length) : StpsQ w (some ⟨b, off + 3, none⟩) (l.drop (i + 1)) := by
  rcases h with h | ⟨b', off', e, hb, h⟩
  · have : (l.drop i).length = 0 := by rw [h]; rfl
    rw [List.length_drop] at this
    omega
  · injection e with e
    injection e with e1 e2
    subst e1 e2
    refine .inr ⟨b, off + 3, rfl, hb, fun j hj => ?_⟩
    have hj' : j + 1 < (l.drop i).length := by rw [List.length_drop] at hj ⊢; omega
    have := h (j + 1) hj'
    rw [show off + (j + 1) * 3 = off + 3 + j * 3 by omega] at this
    rw [show (l.drop (i + 1))[j] = (l.drop i)[j + 1] by simp only [List.getElem_drop]; congr 1; omega]
    exact this

set_option maxRecDepth 100000 in
set_option maxHeartbeats 16000000 in
theorem goOn_any {w0 W : World} {p : List (List Stp)} {k : RunB} {st : LkS} {q : Nat} (h : RunS w0 p.length p k W st q) (hI : LkI p p.length st) (hP : PlOk p) (hd0 : st.done.length ≤ 60) (hv0 : st.vic.length ≤ 60) (hq : q < 1000) (t : Nat) (ht : t < p.length) (hc : st.cnt t ≤ 100000) :
    Calls Tryd.prog 20 #[.pointer (some ⟨k.B, 0, none⟩), .int .i64 (t : Int)] W fun e W' => e = .returned (.tuple #[]) ∧ RunS w0 p.length p k W' (goS p p.length st t) (q + 1) := by
  obtain ⟨vh, vd, vv, g, hR, hG⟩ := h
  have hn := hP.few
  have hl0 := held_len st
  have HI := hideIt hI
  have HP := hideIt hP
  have HG := hideIt hG
  have HR := hideIt hR
  obtain ⟨_, c1, c2, c3, _, _, _⟩ := hR.cells
  have o0 := hR.over.bit t ht
  obtain ⟨W1, hr1, hm1, hg1⟩ := hR.map.drop hn ht 0
  have H1 := hideIt (hR.putM hm1 hg1)
  have HR1 := hideIt hr1
  clear hI hP hG hR hr1 hm1 hg1
  have htn : (t : Int) < (p.length : Int) := by omega
  go_enter Tryd.func20, Tryd.ntmps20
  cases ho : st.ov t
  rotate_left 1
  · rw [ho] at o0
    have HE := hideIt (goS_over (p := p) (n := p.length) ho)
    go_wp2
    ((try simp only [Exit.inBlock, Exit.then]); refine bodyPost_ret (results_none rfl _ _ _) rfl ?_)
    refine ⟨rfl, ?_⟩
    rw [HE.out]
    exact RunS.more ⟨_, _, _, _, HR.out, HG.out⟩ (Nat.le_succ _)
  rw [ho] at o0
  clear HR
  obtain ⟨la, lc, l0, l1, l3⟩ := H1.out.left.at_ t ht
  obtain ⟨_, d1, _, _, _, _, _⟩ := H1.out.cells
  by_cases hpo : st.pos t = (plN p t).length
  · have HE := hideIt (goS_end (p := p) (n := p.length) ho hpo)
    have hz : (plN p t).length - st.pos t = 0 := by omega
    rw [hz] at l0
    have HEn := hideIt (endP_any H1.out hn (by omega) (by omega) t ht 3)
    clear H1
    go_wp2_with (at_delete; refine wpList_delete_run _ rfl _ _ 64 3 rfl _ _ _ W1 rfl rfl HR1.out ?_)
    go_wp2_with fail
    refine HEn.out.mono ?_
    rintro e W2 ⟨rfl, vh', vd', h2⟩
    have H2 := hideIt h2
    clear HEn h2
    go_wp2
    ((try simp only [Exit.inBlock, Exit.then]); refine bodyPost_ret (results_none rfl _ _ _) rfl ?_)
    refine ⟨rfl, ?_⟩
    rw [HE.out]
    have h2 := H2.out
    rw [upd_twice, ← HI.out.held_end (kd := 3) (by decide)] at h2
    exact ⟨_, _, _, _, h2.more (Nat.le_succ _), HG.out.none t⟩
  have hlt : st.pos t < (plN p t).length := by have := HI.out.pos t; omega
  obtain ⟨r, hr⟩ : ∃ r, (plN p t).length - st.pos t = r + 1 := ⟨(plN p t).length - st.pos t - 1, by omega⟩
  rw [hr] at l0 l1
  obtain ⟨b, off, rfl, hbl, hst⟩ : ∃ b off, la = some ⟨b, off, none⟩ ∧ b < w0.heap.size ∧ StpsAt w0 b off ((plN p t).drop (st.pos t)) := by
    rcases l3 with e | e
    · have : ((plN p t).drop (st.pos t)).length = 0 := by rw [e]; rfl
      rw [List.length_drop] at this
      omega
    · exact e
  have HL3 := hideIt l3
  obtain ⟨hd1, hd2⟩ := drop_head hlt
  have hs0 := hst 0 hd1
  rw [hd2 hd1, Nat.zero_mul, Nat.add_zero] at hs0
  obtain ⟨s0, s1, s2⟩ := hs0.below hbl H1.out.bel
  have HSt := hideIt (HP.out.step t ht (st.pos t) hlt)
  have HNx : Hid (nxS p st t = stZ (plN p t) (st.pos t)) := rfl
  generalize stZ (plN p t) (st.pos t) = s at s0 s1 s2 HSt HNx
  have hbW : b < W1.heap.size := Nat.lt_of_lt_of_le hbl H1.out.size
  have hx1 : ¬ b = W1.heap.size := by omega
  have hx2 : ¬ W1.heap.size = b := by omega
  have hz1 : (((r + 1 : Nat) : Int) == 0) = false := by rw [beq_eq_false_iff_ne]; omega
  have hz2 : ((r : Int) + 1 == 0) = false := by rw [beq_eq_false_iff_ne]; omega
  have H2 := hideIt (H1.out.below (belA (Below.refl _ _) (.cells #[.int .i64 s.p, .int .i64 s.k, .int .i64 s.m] 46)))
  have hnew := heap_alloc_new W1 (.cells #[.int .i64 s.p, .int .i64 s.k, .int .i64 s.m] 46)
  have HSb : Hid (StpAt (W1.alloc (.cells #[.int .i64 s.p, .int .i64 s.k, .int .i64 s.m] 46)) W1.heap.size 0 s) := ⟨cell_of_row _ _ _ _ 46 (0, 0) hnew, cell_of_row _ _ _ _ 46 (0, 0) hnew, cell_of_row _ _ _ _ 46 (0, 0) hnew⟩
  have HNe : Hid (W1.heap.size ≠ k.B ∧ vh.ownBlock ≠ some W1.heap.size) := ⟨fun e => by have := H1.out.lt; omega, fun e => by have := (ownsRow_block H1.out.held _ e).2.1; omega⟩
  have hLB : k.L < W1.heap.size := H1.out.left.lt
  clear H1 hst hs0 l3 hnew hd1 hd2
  go_upto_region 5 with (at_delete; refine wpList_delete_run _ rfl _ _ 64 3 rfl _ _ _ W1 rfl rfl HR1.out ?_)
  generalize W1.alloc (.cells #[.int .i64 s.p, .int .i64 s.k, .int .i64 s.m] 46) = W2 at H2 HSb ⊢
  generalize W1.heap.size = Bs at *
  clear HR1 c1 c2 c3 o0 s0 s1 s2 hx1 hx2 d1 l0 hbW hz1 hz2
  obtain ⟨b0, b1, b2⟩ := HSb.out
  have HAg : Hid (∀ Z, Below W2.heap.size W2 Z → Calls Tryd.prog 24 #[.pointer (some ⟨k.B, 0, none⟩), .agg #[.int .i64 s.p, .int .i64 s.k, .int .i64 s.m]] Z fun e w' => AgTold (heldL st) s Z e w') := fun Z hZ => by
    have hR := H2.out.below hZ
    obtain ⟨a, cap, rfl, _, hsq⟩ := stpsQ_ownH hR.held
    exact against_any (heldL st) s k.B a cap Z (by omega) hR.cells.1 hsq (fun d hd => HI.out.held_p hd)
  unfold AgTold at HAg
  go_region_with (go_at_call 24; refine (HAg.out _ (by repeat (first | exact Below.refl _ _ | refine Below.drew ?_))).mono ?_; rintro e w3 ⟨⟨m, hm, rfl, hbits⟩, hb3⟩)
  have hb3' : Below W2.heap.size W2 w3 := belJ (Below.refl _ _).drew hb3
  have H3 := hideIt (H2.out.below hb3')
  have hSb3 := HSb.out.below (World.block_lt_of_cell? W2 _ b0) hb3'
  have hagm : ∀ u, u < 8 → m.testBit u = agst st t s u := fun u hu => (hbits u hu).trans (HI.out.held_ag HSt.out.1 HSt.out.2.1 u)
  have hany := HI.out.crowd_any hn hm hagm
  rw [← HNx.out] at hany
  clear hb3 hb3' H2 HSb b0 b1 b2 HAg
  by_cases hm0 : m = 0
  rotate_left 1
  · have hne : ((m : Int) != 0) = true := by rw [bne_iff_ne]; omega
    have HE := hideIt (goS_wait ht ho hpo (by rw [hany]; exact decide_eq_true hm0))
    have hgg : ∀ a, a < p.length → upd g t 0 a < 256 := fun a ha => ((HG.out.none t) a ha).1
    have HW := hideIt (wait_any H3.out hn hgg (by omega) (by omega) (by omega) hq t ht hc m hm)
    have HG4 : Hid (WtG p.length (upd (upd g t 0) t m) (waS st t s).wt) := by
      rw [upd_twice]
      exact HG.out.put t hm hagm
    clear H3 hany hbits
    go_wp2_with fail
    refine HW.out.mono ?_
    rintro e W4 ⟨rfl, h4⟩
    have H4 := hideIt h4
    clear HW h4
    go_wp2
    ((try simp only [Exit.inBlock, Exit.then]); refine bodyPost_ret (results_none rfl _ _ _) rfl ?_)
    refine ⟨rfl, ?_⟩
    rw [HE.out, HNx.out]
    have h4 := H4.out
    unfold vicN at h4
    rw [vic_crowd (st := waS st t s) hn HG4.out ht] at h4
    cases hvic : lastN (onB (waS st t s) p.length t) p.length with
    | none =>
      rw [hvic] at h4
      obtain ⟨vh', vd', vv', h5⟩ := h4
      exact ⟨_, _, _, _, h5, HG4.out⟩
    | some v =>
      rw [hvic] at h4
      obtain ⟨vh', vd', vv', h5⟩ := h4
      have hel : heldL (viS (waS st t s) v) = (heldL st).filter fun d => !(d.p == (v : Int)) := (HI.out.wa ho s).held_end (t := v) (kd := 4) (by decide)
      refine ⟨vh', vd', vv', _, ?_, HG4.out.none v⟩
      rw [hel]
      exact h5
  subst hm0
  have HE := hideIt (goS_do ho hpo (by rw [hany]; rfl))
  have hHe : heldL (doS st t s) = heldL st ++ [s] := held_do HSt.out.1 (by have := HSt.out.2.1; omega) ho
  have HHe := hideIt hHe
  have HTk : Hid (∀ Z, Below w3.heap.size w3 Z → Calls Tryd.prog 26 #[.pointer (some ⟨k.B, 0, none⟩), .agg #[.int .i64 s.p, .int .i64 s.k, .int .i64 s.m]] Z fun e W' => e = .returned (.tuple #[]) ∧ (∃ vh', RunM w0 p.length p k W' (heldL st ++ [s]) st.done st.ov st.pos q (upd g t 0) st.cnt st.vic vh' vd vv) ∧ StpAt W' Bs 0 s) := fun Z hZ =>
    (take_any (H3.out.below hZ) (by omega) s).mono fun e W' ⟨h1, h2, h3⟩ => ⟨h1, h2, (hSb3.below (World.block_lt_of_cell? w3 _ hSb3.1) hZ).block (h3 Bs (Nat.lt_of_lt_of_le (World.block_lt_of_cell? w3 _ hSb3.1) hZ.size) HNe.out.1 HNe.out.2)⟩
  obtain ⟨b0, b1, b2⟩ := hSb3
  clear hany hbits hagm H3
  go_upto_region 8 with fail
  go_region_with (go_at_call 26; refine (HTk.out _ (by repeat (first | exact Below.refl _ _ | refine Below.drew ?_))).mono ?_; rintro e w4 ⟨rfl, ⟨vh', h4⟩, hsb4⟩)
  clear b0 b1 b2 HTk
  obtain ⟨la2, lc2, m0, m1, m3⟩ := h4.left.at_ t ht
  rw [hr] at m0 m1
  obtain ⟨z, zo, rfl, HZ⟩ : ∃ z zo, la2 = some ⟨z, zo, none⟩ ∧ Hid (StpsQ w0 (some ⟨z, zo, none⟩) ((plN p t).drop (st.pos t))) := by
    rcases m3 with e | ⟨z, zo, rfl, h⟩
    · have : ((plN p t).drop (st.pos t)).length = 0 := by rw [e]; rfl
      rw [List.length_drop] at this
      omega
    · exact ⟨z, zo, rfl, .inr ⟨z, zo, rfl, h⟩⟩
  have hrr : (plN p t).length - (st.pos t + 1) = r := by omega
  have hLe : k.L ≠ Bs := by omega
  obtain ⟨a2, c2, hA2, hC2, hcl⟩ : ∃ a2 c2, StpsQ w0 a2 ((plN p t).drop (st.pos t + 1)) ∧ c2 = lc2 - 1 ∧ ((lc2 = 1 ∧ a2 = some ⟨z, zo, none⟩) ∨ (¬ lc2 = 1 ∧ a2 = some ⟨z, zo + 3, none⟩)) := by
    by_cases hlc : lc2 = 1
    · refine ⟨some ⟨z, zo, none⟩, _, .inl (List.eq_nil_of_length_eq_zero ?_), rfl, .inl ⟨hlc, rfl⟩⟩
      rw [List.length_drop]
      omega
    · exact ⟨some ⟨z, zo + 3, none⟩, _, stpsQ_next HZ.out hlt, rfl, .inr ⟨hlc, rfl⟩⟩
  have h5 := h4.putL ht (a := a2) (c := c2) (by omega) hA2
  rw [hrr] at h5
  have hsb5 : StpAt (w4.setCell ⟨k.L, t, none⟩ (.slice a2 r c2)) Bs 0 s := hsb4.block (Below.heap_setCell w4 ⟨k.L, t, none⟩ _ Bs (Ne.symm hLe))
  obtain ⟨_, n1, _, _, _, _, _⟩ := h4.cells
  have n2 := h4.left.fz t
  have HE2 : Hid (∀ W6, (∃ vh vd vv, RunM w0 p.length p k W6 (heldL st ++ [s]) (st.done ++ [s]) st.ov (upd st.pos t (st.pos t + 1)) q (upd g t 0) st.cnt st.vic vh vd vv) → RunS w0 p.length p k W6 (goS p p.length st t) (q + 1)) := fun W6 ⟨a, b, c, h⟩ => by
    rw [HE.out, HNx.out]
    refine RunS.more ⟨a, b, c, upd g t 0, ?_, HG.out.none t⟩ (Nat.le_succ q)
    rw [HHe.out]
    exact h
  have H5 := hideIt (h5.below (Below.refl _ _).drew)
  have HS5 := hideIt (hsb5.below (World.block_lt_of_cell? _ _ hsb5.1) (Below.refl _ _).drew)
  have hrl : r + 1 ≤ lc2 := m1
  clear h4 h5 hsb4 hsb5 hA2 HZ m3 HE HHe hHe HI HP HG HL3 HSt HNx
  subst hC2
  go_upto_region 9 with fail
  rcases hcl with ⟨hlc, rfl⟩ | ⟨hlc, rfl⟩
  · subst hlc
    obtain rfl : r = 0 := by omega
    go_region
    generalize (w4.setCell ⟨k.L, t, none⟩ (.slice (some ⟨z, zo, none⟩) 0 (1 - 1))).drew = W5 at H5 HS5 ⊢
    clear n1 n2 m0
    obtain ⟨va, vc, va', vc', W6, rfl, hr6, h6, d0, d1⟩ := done_step H5.out (by omega) s
    obtain ⟨b0, b1, b2⟩ := HS5.out
    have hB5 := World.block_lt_of_cell? W5 _ b0
    have c4 := H5.out.cells.2.2.2.2.1
    have hlt4 := H5.out.lt
    have hx1 : ¬ k.B = W5.heap.size := by omega
    have hx2 : ¬ W5.heap.size = k.B := by omega
    have hx3 : ¬ Bs = W5.heap.size := fun e => by simp [e] at hB5
    have hx4 : ¬ W5.heap.size = Bs := fun e => hx3 e.symm
    have HR6 := hideIt hr6
    have R6 := hideIt (HE2.out _ ⟨_, _, _, h6⟩)
    clear hr6 h6 H5 HS5 HE2 hB5
    go_upto_region 10 with fail
    go_region_law (refine step_append_run (by rfl) _ _ 26 (by rfl) _ _ _ W6 (by rfl) (by rfl) HR6.out ?_)
    all_goals go_wp2
    all_goals go_end0
    all_goals exact ⟨rfl, R6.out⟩
  · have hlc' : ¬ 1 = lc2 := fun e => hlc e.symm
    go_region
    generalize (w4.setCell ⟨k.L, t, none⟩ (.slice (some ⟨z, zo + 3, none⟩) r (lc2 - 1))).drew = W5 at H5 HS5 ⊢
    clear n1 n2 m0
    obtain ⟨va, vc, va', vc', W6, rfl, hr6, h6, d0, d1⟩ := done_step H5.out (by omega) s
    obtain ⟨b0, b1, b2⟩ := HS5.out
    have hB5 := World.block_lt_of_cell? W5 _ b0
    have c4 := H5.out.cells.2.2.2.2.1
    have hlt4 := H5.out.lt
    have hx1 : ¬ k.B = W5.heap.size := by omega
    have hx2 : ¬ W5.heap.size = k.B := by omega
    have hx3 : ¬ Bs = W5.heap.size := fun e => by simp [e] at hB5
    have hx4 : ¬ W5.heap.size = Bs := fun e => hx3 e.symm
    have HR6 := hideIt hr6
    have R6 := hideIt (HE2.out _ ⟨_, _, _, h6⟩)
    clear hr6 h6 H5 HS5 HE2 hB5
    go_upto_region 10 with fail
    go_region_law (refine step_append_run (by rfl) _ _ 26 (by rfl) _ _ _ W6 (by rfl) (by rfl) HR6.out ?_)
    all_goals go_wp2
    all_goals go_end0
    all_goals exact ⟨rfl, R6.out⟩
end Go.Proofs.YthmiocbihhbdpaaDoor
