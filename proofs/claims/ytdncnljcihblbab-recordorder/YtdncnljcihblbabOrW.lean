/-
  The statement RecordOrder: walked.
-/
import Derived.Test.YtdncnljcihblbabOrP
import Derived.Test.YtdncnljcihblbabLdX
namespace Go.Proofs.Ytdncnljcihblbab
open Go.RowKit

theorem mk46 (w : World) : (Instr.makeSlice 46 (.int .i64 4) (.int .i64 4)).run Try.prog w = .ok (.slice (some ⟨w.heap.size, 0, none⟩) 4 4) (w.alloc (.cells #[.slice none 0 0, .slice none 0 0, .slice none 0 0, .slice none 0 0, .slice none 0 0, .slice none 0 0, .slice none 0 0, .slice none 0 0] 49)) := by kernel_rfl
theorem stD_new (w : World) (l : List Ev) (Q : Nat → Nat) : StD (w.alloc (.cells #[.slice none 0 0, .slice none 0 0, .slice none 0 0, .slice none 0 0, .slice none 0 0, .slice none 0 0, .slice none 0 0, .slice none 0 0] 49)) w.heap.size l Q 0 (fun _ => .slice none 0 0) := by
  refine ⟨⟨_, heap_alloc_new w _, rfl, fun i hi => ?_⟩, fun q _ => ?_, fun q r _ _ _ b hb => (by cases hb), fun q _ h => (by cases h)⟩
  · match i, hi with
    | 0, _ => rfl
    | 1, _ => rfl
    | 2, _ => rfl
    | 3, _ => rfl
    | 4, _ => rfl
    | 5, _ => rfl
    | 6, _ => rfl
    | 7, _ => rfl
  · have e : (if q % 2 = 0 then inCs (tksD Q 0 (q / 2)) else evCells (evsD l Q 0 (q / 2))) = [] := by split <;> rfl
    show World.ownsRow _ _ _ _ _ (idxD Q 0 (q / 2)).length (if q % 2 = 0 then inCs (tksD Q 0 (q / 2)) else evCells (evsD l Q 0 (q / 2)))
    rw [e]
    exact World.ownsRow_nil _ _ _ _
theorem inq_of {w : World} {base : Nat} {v : Value} {L : List Int} (h : w.ownsRow base 3 1 v L.length (inCs L)) : InQ w v L := by
  obtain ⟨hl, ⟨rfl, h0⟩ | ⟨g, cap, cur, rfl, hb, hh, h1, h2, h3, h4⟩⟩ := id h
  · exact ⟨none, 0, by rw [h0], by omega, Or.inl (List.eq_nil_of_length_eq_zero h0)⟩
  · refine ⟨_, cap, rfl, h1, Or.inr ⟨g, 0, rfl, (Array.getElem?_eq_some_iff.1 hh).1, fun i hi => ?_⟩⟩
    rw [Nat.zero_add, h.cellAt i (by omega)]
    simp [inCs, List.getElem?_eq_getElem hi]
theorem EvAt.grownX {W W' : World} {b off : Nat} {e : Ev} {row : Option Nat} (h : EvAt W b off e) (hg : W.grownBy W' row) (hne : some b ≠ row) : EvAt W' b off e := by
  obtain ⟨h0, h1, h2, h3, h4, h5, h6⟩ := h
  exact ⟨hg.cell h0 hne, hg.cell h1 hne, hg.cell h2 hne, hg.cell h3 hne, hg.cell h4 hne, hg.cell h5 hne, hg.cell h6 hne⟩
theorem evAt_new (w : World) (e : Ev) (t : TypeId) : EvAt (w.alloc (.cells #[.int .i64 e.p, .int .i64 e.t, .int .i64 e.k, .int .i64 e.d, .int .i64 e.a, .int .i64 e.b, .int .i64 e.r] t)) w.heap.size 0 e :=
  ⟨by simp [go_sem], by simp [go_sem], by simp [go_sem], by simp [go_sem], by simp [go_sem], by simp [go_sem], by simp [go_sem]⟩
theorem bset {w W : World} (h : Below w.heap.size w W) (j : Nat) (v : Value) : Below w.heap.size w (W.setCell ⟨w.heap.size, j, none⟩ v) := h.grown (grown_set W ⟨w.heap.size, j, none⟩ v) h.size (fun g hg => by cases hg; exact Nat.le_refl _)
theorem own_shapeS {W : World} {base : Nat} {e : TypeId} {z : Nat} {v : Value} {n : Nat} {xs : List Value} (h : W.ownsRow base e z v n xs) : ∃ a c, v = .slice a n c := by
  obtain ⟨_, ⟨rfl, h0⟩ | ⟨g, c, _, rfl, _⟩⟩ := h
  · exact ⟨none, 0, by rw [h0]⟩
  · exact ⟨_, c, rfl⟩
theorem tks_len (Q : Nat → Nat) (n q : Nat) : (tksD Q n q).length = (idxD Q n q).length := by simp [tksD]
theorem evs_len (l : List Ev) (Q : Nat → Nat) (n q : Nat) : (evsD l Q n q).length = (idxD Q n q).length := by simp [evsD]
/-- The four stripes, as they are handed on. -/
theorem StD.spq {w : World} {G : Nat} {l : List Ev} {Q : Nat → Nat} {n : Nat} {vs : Nat → Value} (h : StD w G l Q n vs) : SpQ w (.slice (some ⟨G, 0, none⟩) 4 4) (speD l Q n) := by
  have key : ∀ q, q < 4 → SpAt w G (0 + q * 2) ⟨tksD Q n q, evsD l Q n q⟩ := fun q hq => by
    have r0 := h.rws.rows (q * 2) (by omega)
    have r1 := h.rws.rows (q * 2 + 1) (by omega)
    rw [(tyI0 q).1, (tyI0 q).2] at r0
    rw [(tyI1 q).1, (tyI1 q).2] at r1
    simp only [show q * 2 % 2 = 0 by omega, show (q * 2 + 1) % 2 = 1 by omega, show q * 2 / 2 = q by omega, show (q * 2 + 1) / 2 = q by omega, if_true, show ¬ (1 = 0) by omega, if_false] at r0 r1
    rw [Nat.zero_add]
    exact ⟨vs (q * 2), vs (q * 2 + 1), h.tab.cell (by omega), h.tab.cell (by omega), inq_of (by rw [tks_len]; exact r0), own_evq (by rw [evs_len]; exact r1)⟩
  refine ⟨_, 4, rfl, Nat.le_refl _, Or.inr ⟨G, 0, rfl, h.tab.lt, fun i hi => ?_⟩⟩
  match i, hi with
  | 0, _ => exact key 0 (by omega)
  | 1, _ => exact key 1 (by omega)
  | 2, _ => exact key 2 (by omega)
  | 3, _ => exact key 3 (by omega)
  | m + 4, h => exact absurd h (by simp [speD])

set_option maxHeartbeats 8000000 in
set_option maxRecDepth 100000 in
theorem order_walk (vl vd : Value) (l : List Ev) (dl : List Int) (w : World) (hl : EvQ w vl l) (hd : InQ w vd dl) (h60 : l.length ≤ 60) (hdl : l.length ≤ dl.length) :
    Calls Try.prog 6 #[vl, vd] w fun r w' => r = .returned (.bool true) ∧ Below w.heap.size w w' := by
  have HLQ := hideIt hl
  obtain ⟨al, cl, rfl, hcl, hA⟩ := hl
  obtain ⟨ad, cd, rfl, hcd, hD⟩ := hd
  have HA := hideIt hA
  have HD := hideIt hD
  obtain ⟨Q, hQ⟩ : ∃ Q : Nat → Nat, Q = fun j => pickN (dl.getD j 0) 4 := ⟨_, rfl⟩
  have HQ : Hid (∀ j, (h : j < dl.length) → pickN dl[j] 4 = Q j) := fun j h => by rw [hQ]; show _ = pickN (dl.getD j 0) 4; rw [List.getD_eq_getElem?_getD, List.getElem?_eq_getElem h]; rfl
  have HQ4 : Hid (∀ j, Q j < 4) := fun j => by rw [hQ]; exact Nat.mod_lt _ (by omega)
  have h60' : ¬ (60 : Int) < (l.length : Int) := by omega
  have d60 : decide ((60 : Int) < (l.length : Int)) = false := decide_eq_false h60'
  have hdl' : ¬ (dl.length : Int) < (l.length : Int) := by omega
  have hmk := mk46 w
  have HS0 := hideIt (stD_new w l Q)
  clear hA hD hQ
  go_enter Try.func6, Try.ntmps6
  go_wp2
  go_loopw [6] (fun i wr => ∃ (k : Nat) (vs : Nat → Value), k ≤ l.length ∧ i = .int .i64 k ∧ StD wr w.heap.size l Q k vs ∧ Below w.heap.size w wr) (fun i _ => l.length - (intOf i).toNat)
  case atStart => exact ⟨0, _, Nat.zero_le _, rfl, HS0.out, below_alloc (Below.refl _ _) _⟩
  case round =>
    obtain ⟨k, vs, hk, rfl, hst, hnx⟩ := hrel
    have HS := hideIt hst
    have HX := hideIt hnx
    have hsz := hnx.size
    clear hst hnx HS0 hmk
    by_cases hlt : k < l.length
    · have hki : (k : Int) < (l.length : Int) := by omega
      have hkd : k < dl.length := by omega
      have hkdi : (k : Int) < (dl.length : Int) := by omega
      rcases HD.out with h0 | ⟨bd, od, rfl, hbd, hcell⟩
      · rw [h0] at hkd; exact absurd hkd (Nat.not_lt_zero _)
      rcases HA.out with h0 | ⟨b, o, rfl, hb, hat⟩
      · rw [h0] at hlt; exact absurd hlt (Nat.not_lt_zero _)
      have y0 := (HX.out.cell (p := ⟨bd, od + k, none⟩) hbd).trans (hcell k hkd)
      have hpk := HQ.out k hkd
      have HEV := hideIt (hat k hlt)
      have HGD : Hid (l.getD k zeroE = l[k]) := by show l.getD k zeroE = l[k]; rw [List.getD_eq_getElem?_getD, List.getElem?_eq_getElem hlt]; rfl
      have hq4 := HQ4.out k
      have HPk := hideIt (fun W => pick_is dl[k] 4 W (by omega) (by omega))
      rw [hpk] at HPk
      have HQK : Hid (∃ q, q = Q k) := ⟨_, rfl⟩
      clear hat hcell hpk
      generalize l[k] = e at *
      generalize dl[k] = dk at *
      obtain ⟨q, hq⟩ := HQK.out
      have HQ0 := hideIt hq.symm
      rw [← hq] at HPk hq4
      clear hq HQK
      have hq4i : (q : Int) < 4 := by omega
      have hG := HS.out.tab.lt
      have t0 := HS.out.tab.cell (i := q * 2) (by omega)
      have t1 := HS.out.tab.cell (i := q * 2 + 1) (by omega)
      have hn0 : (idxD Q k (q * 2 / 2)).length ≤ 1000 := Nat.le_trans (idx_le _ _ _) (by omega)
      have hn1 : (idxD Q k ((q * 2 + 1) / 2)).length ≤ 1000 := Nat.le_trans (idx_le _ _ _) (by omega)
      go_wp2_with fail
      refine (HPk.out _).mono ?_
      rintro y w1 ⟨rfl, rfl⟩
      go_wp2_with fail
      obtain ⟨at0, ct0, ht0⟩ := own_shapeS (HS.out.rws.rows (q * 2) (by omega))
      obtain ⟨at1, ct1, ht1⟩ := own_shapeS (HS.out.rws.rows (q * 2 + 1) (by omega))
      rw [ht0] at t0
      rw [ht1] at t1
      have HT0 := hideIt ht0
      have HT1 := hideIt ht1
      clear ht0 ht1
      generalize hm0 : (idxD Q k (q * 2 / 2)).length = m0 at *
      generalize hm1 : (idxD Q k ((q * 2 + 1) / 2)).length = m1 at *
      refine wp_region_L (B := [21]) (S := fun W => Below w.heap.size w W) (T := fun W => W.cell? ⟨w.heap.size, q * 2, none⟩ = some (.slice at0 m0 ct0) ∧ W.cell? ⟨w.heap.size, q * 2 + 1, none⟩ = some (.slice at1 m1 ct1)) (by kernel_rfl) ⟨below_drewN HX.out 1, t0, t1⟩ (fun hHeld => ?_)
      refine wpAnyL_takeS (i := 0) (v := ?_) rfl (by kernel_rfl) (by kernel_rfl) (by kernel_rfl) (by kernel_rfl) (fun _ _ _ h => h) (Or.inl ⟨by rfl, ?_⟩) (by assumption) ?_
      rotate_left 1
      · intro wz hwz
        go_simp
        all_goals with_reducible rfl
      simp only [Act.put, List.setIfInBounds_toArray, List.set_cons_zero, List.set_cons_succ, List.getElem_toArray, List.getElem_cons_zero]
      refine wpAnyL_takeS (i := 1) (v := ?_) rfl (by kernel_rfl) (by kernel_rfl) (by kernel_rfl) (by kernel_rfl) (fun _ _ _ h => h) (Or.inl ⟨by rfl, ?_⟩) (by assumption) ?_
      rotate_left 1
      · intro wz hwz
        go_simp
        all_goals with_reducible rfl
      simp only [Act.put, List.setIfInBounds_toArray, List.set_cons_zero, List.set_cons_succ, List.getElem_toArray, List.getElem_cons_zero, List.getElem_cons_succ]
      refine wpAnyL_takeS (i := 2) (v := ?_) rfl (by kernel_rfl) (by kernel_rfl) (by kernel_rfl) (by kernel_rfl) (fun _ _ _ h => h) (Or.inl ⟨by rfl, ?_⟩) (by assumption) ?_
      rotate_left 1
      · intro wz hwz
        go_simp
        all_goals with_reducible rfl
      simp only [Act.put, List.setIfInBounds_toArray, List.set_cons_zero, List.set_cons_succ, List.getElem_toArray, List.getElem_cons_zero, List.getElem_cons_succ]
      refine wpAnyL_takeS (i := 3) (v := ?_) rfl (by kernel_rfl) (by kernel_rfl) (by kernel_rfl) (by kernel_rfl) (fun _ _ _ h => h) (Or.inl ⟨by rfl, ?_⟩) (by assumption) ?_
      rotate_left 1
      · intro wz hwz
        go_simp
        all_goals with_reducible rfl
      simp only [Act.put, List.setIfInBounds_toArray, List.set_cons_zero, List.set_cons_succ, List.getElem_toArray, List.getElem_cons_zero, List.getElem_cons_succ]
      refine wpAnyL_takeS (i := 4) (v := ?_) rfl (by kernel_rfl) (by kernel_rfl) (by kernel_rfl) (by kernel_rfl) (fun _ _ _ h => h) (Or.inl ⟨by rfl, ?_⟩) (by assumption) ?_
      rotate_left 1
      · intro wz hwz
        go_simp
        all_goals with_reducible rfl
      simp only [Act.put, List.setIfInBounds_toArray, List.set_cons_zero, List.set_cons_succ, List.getElem_toArray, List.getElem_cons_zero, List.getElem_cons_succ]
      refine wpAnyL_take [8, 18, 21] (i := 5) (v := ?_) rfl (by kernel_rfl) (by kernel_rfl) (by kernel_rfl) (by kernel_rfl) (fun _ _ _ h => h) (Or.inl ⟨by rfl, ?_⟩) (by assumption) ?_
      rotate_left 1
      · intro wz ⟨hwz, t0, t1⟩
        go_simp
        all_goals with_reducible rfl
      simp only [Act.put, List.setIfInBounds_toArray, List.set_cons_zero, List.set_cons_succ, List.getElem_toArray, List.getElem_cons_zero, List.getElem_cons_succ]
      refine wpAnyL_takeS (i := 6) (v := ?_) rfl (by kernel_rfl) (by kernel_rfl) (by kernel_rfl) (by kernel_rfl) (fun _ _ _ h => h) (Or.inl ⟨by rfl, ?_⟩) (by assumption) ?_
      rotate_left 1
      · intro wz hwz
        go_simp
        all_goals with_reducible rfl
      simp only [Act.put, List.setIfInBounds_toArray, List.set_cons_zero, List.set_cons_succ, List.getElem_toArray, List.getElem_cons_zero, List.getElem_cons_succ]
      refine wpAnyL_takeS (i := 9) (v := ?_) rfl (by kernel_rfl) (by kernel_rfl) (by kernel_rfl) (by kernel_rfl) (fun _ _ _ h => h) (Or.inl ⟨by rfl, ?_⟩) (by assumption) ?_
      rotate_left 1
      · intro wz hwz
        go_simp
        all_goals with_reducible rfl
      simp only [Act.put, List.setIfInBounds_toArray, List.set_cons_zero, List.set_cons_succ, List.getElem_toArray, List.getElem_cons_zero, List.getElem_cons_succ]
      refine wpAnyL_takeS (i := 10) (v := ?_) rfl (by kernel_rfl) (by kernel_rfl) (by kernel_rfl) (by kernel_rfl) (fun _ _ _ h => h) (Or.inl ⟨by rfl, ?_⟩) (by assumption) ?_
      rotate_left 1
      · intro wz hwz
        go_simp
        all_goals with_reducible rfl
      simp only [Act.put, List.setIfInBounds_toArray, List.set_cons_zero, List.set_cons_succ, List.getElem_toArray, List.getElem_cons_zero, List.getElem_cons_succ]
      refine wpAnyL_takeS (i := 11) (v := ?_) rfl (by kernel_rfl) (by kernel_rfl) (by kernel_rfl) (by kernel_rfl) (fun _ _ _ h => h) (Or.inl ⟨by rfl, ?_⟩) (by assumption) ?_
      rotate_left 1
      · intro wz hwz
        go_simp
        all_goals with_reducible rfl
      simp only [Act.put, List.setIfInBounds_toArray, List.set_cons_zero, List.set_cons_succ, List.getElem_toArray, List.getElem_cons_zero, List.getElem_cons_succ]
      refine wpAnyL_take [18, 21] (i := 12) (v := ?_) rfl (by kernel_rfl) (by kernel_rfl) (by kernel_rfl) (by kernel_rfl) (fun _ _ _ h => h) (Or.inl ⟨by rfl, ?_⟩) (by assumption) ?_
      rotate_left 1
      · intro wz ⟨hwz, t0, t1⟩
        go_simp
        all_goals with_reducible rfl
      simp only [Act.put, List.setIfInBounds_toArray, List.set_cons_zero, List.set_cons_succ, List.getElem_toArray, List.getElem_cons_zero, List.getElem_cons_succ]
      refine wpAnyL_takeS (i := 13) (v := ?_) rfl (by kernel_rfl) (by kernel_rfl) (by kernel_rfl) (by kernel_rfl) (fun _ _ _ h => h) (Or.inl ⟨by rfl, ?_⟩) (by assumption) ?_
      rotate_left 1
      · intro wz hwz
        go_simp
        all_goals with_reducible rfl
      simp only [Act.put, List.setIfInBounds_toArray, List.set_cons_zero, List.set_cons_succ, List.getElem_toArray, List.getElem_cons_zero, List.getElem_cons_succ]
      refine wpAnyL_takeS (i := 14) (v := ?_) rfl (by kernel_rfl) (by kernel_rfl) (by kernel_rfl) (by kernel_rfl) (fun _ _ _ h => h) (Or.inl ⟨by rfl, ?_⟩) (by assumption) ?_
      rotate_left 1
      · intro wz hwz
        go_simp
        all_goals with_reducible rfl
      simp only [Act.put, List.setIfInBounds_toArray, List.set_cons_zero, List.set_cons_succ, List.getElem_toArray, List.getElem_cons_zero, List.getElem_cons_succ]
      refine wpAnyL_takeS (i := 15) (v := ?_) rfl (by kernel_rfl) (by kernel_rfl) (by kernel_rfl) (by kernel_rfl) (fun _ _ _ h => h) (Or.inl ⟨by rfl, ?_⟩) (by assumption) ?_
      rotate_left 1
      · intro wz hwz
        go_simp
        all_goals with_reducible rfl
      simp only [Act.put, List.setIfInBounds_toArray, List.set_cons_zero, List.set_cons_succ, List.getElem_toArray, List.getElem_cons_zero, List.getElem_cons_succ]
      refine wpAnyL_takeS (i := 16) (v := ?_) rfl (by kernel_rfl) (by kernel_rfl) (by kernel_rfl) (by kernel_rfl) (fun _ _ _ h => h) (Or.inl ⟨by rfl, ?_⟩) (by assumption) ?_
      rotate_left 1
      · intro wz hwz
        obtain ⟨z0, z1, z2, z3, z4, z5, z6⟩ := HEV.out.below hb hwz
        go_simp
        all_goals with_reducible rfl
      simp only [Act.put, List.setIfInBounds_toArray, List.set_cons_zero, List.set_cons_succ, List.getElem_toArray, List.getElem_cons_zero, List.getElem_cons_succ]
      have HTc : Hid (∀ V, Below w1.heap.size w1 V → V.cell? ⟨w.heap.size, q * 2, none⟩ = some (.slice at0 m0 ct0) ∧ V.cell? ⟨w.heap.size, q * 2 + 1, none⟩ = some (.slice at1 m1 ct1)) := fun V hV => ⟨(hV.cell (p := ⟨w.heap.size, q * 2, none⟩) hG).trans t0, (hV.cell (p := ⟨w.heap.size, q * 2 + 1, none⟩) hG).trans t1⟩
      have HV0 : Hid (Below w1.heap.size w1 w1.drew) := below_drewN (Below.refl _ _) 1
      have ho0 := HS.out.rws.off (q * 2) (by omega)
      have hl0 : ∀ b, (vs (q * 2)).ownBlock = some b → b < w1.heap.size := fun b hb => ((HS.out.rws.rows (q * 2) (by omega)).lt b hb).2
      clear hHeld t0 t1
      refine wpAnyL_ready (rs := [7, 17]) (by kernel_rfl) (by simp) (AllReadyL.cons rfl (fun K hK => ?_) (AllReadyL.cons rfl (fun K hK => ?_) AllReadyL.nil))
      · go_simp
        refine hK.out _ _ ?_ (fun hHeld => ?_)
        · exact ⟨below_join HX.out (below_drewN (below_alloc (Below.refl _ _) _) 1), HTc.out _ (below_drewN (below_alloc (Below.refl _ _) _) 1)⟩
        clear hK K
        refine wpAnyL_ready (rs := [8, 17]) (by kernel_rfl) (by simp) (AllReadyL.cons rfl (fun K hK => ?_) (AllReadyL.cons rfl (fun K hK => ?_) AllReadyL.nil))
        · have hV8 : Below w1.heap.size w1 ((w1.alloc (.cells #[.int .i64 (k : Int)] 3)).drew) := below_drewN (below_alloc (Below.refl _ _) _) 1
          have hC8 : ((w1.alloc (.cells #[.int .i64 (k : Int)] 3)).drew).cell? ⟨w1.heap.size, 0, none⟩ = some (.int .i64 (k : Int)) := by simp [go_sem]
          have hR8a := HS.out.rws.below hV8
          obtain ⟨x, wb, hr8, hg8, hR8, ax, cx, hx⟩ := app_tk hR8a (Nat.lt_of_lt_of_le hG hV8.size) (Nat.le_trans hsz hV8.size) hq4 (k : Int) hC8 (by first | omega | (dsimp only; omega)) 45
          obtain ⟨mx, hx⟩ : ∃ m, x = .slice ax m cx := ⟨_, hx⟩
          rw [HT0.out] at hr8
          have hblk8 : wb.heap[w.heap.size]? = w1.heap[w.heap.size]? := (hg8.block _ (Nat.lt_of_lt_of_le hG hV8.size) (fun k => ho0 k.symm)).trans (hV8.block _ hG)
          have hTb := HS.out.tab.block hblk8
          have hXb : Below w.heap.size w wb := (below_join HX.out hV8).grown hg8 (Nat.le_trans hsz hV8.size) (fun b hb => ((HS.out.rws.rows (q * 2) (by omega)).lt b hb).1)
          have u0 := hTb.cell (i := q * 2) (by omega)
          have u1 := hTb.cell (i := q * 2 + 1) (by omega)
          rw [HT0.out] at u0
          rw [HT1.out] at u1
          have hzb := hg8.size
          have hE18 : EvAt (wb.alloc (.cells #[.int .i64 e.p, .int .i64 e.t, .int .i64 e.k, .int .i64 e.d, .int .i64 e.a, .int .i64 e.b, .int .i64 e.r] 38)) wb.heap.size 0 e := evAt_new wb e _
          have hV18 : Below wb.heap.size wb (wb.alloc (.cells #[.int .i64 e.p, .int .i64 e.t, .int .i64 e.k, .int .i64 e.d, .int .i64 e.a, .int .i64 e.b, .int .i64 e.r] 38)) := below_alloc (Below.refl _ _) _
          have hR18a := hR8.below hV18
          have hTc := hTb.block (hV18.block _ hTb.lt)
          have hXc : Below w.heap.size w (wb.alloc (.cells #[.int .i64 e.p, .int .i64 e.t, .int .i64 e.k, .int .i64 e.d, .int .i64 e.a, .int .i64 e.b, .int .i64 e.r] 38)) := below_join hXb hV18
          obtain ⟨y, wd, hr18, hg18, hR18, ay, cy, hy⟩ := app_ev hR18a hTc.lt hXc.size hq4 e hE18 (by show setX _ _ _ _ ≤ 1000; unfold setX; rw [if_neg (by omega)]; first | omega | (dsimp only; omega)) 22
          obtain ⟨my, hy⟩ : ∃ m, y = .slice ay m cy := ⟨_, hy⟩
          have hs1 : setX vs (q * 2) x (q * 2 + 1) = .slice at1 m1 ct1 := by unfold setX; rw [if_neg (by omega)]; exact HT1.out
          rw [hs1] at hr18
          have hoff1 := hR18a.off (q * 2 + 1) (by omega)
          have hTd := hTc.block (hg18.block _ hTc.lt (fun k => hoff1 k.symm))
          have hXd : Below w.heap.size w wd := hXc.grown hg18 hXc.size (fun b hb => ((hR18a.rows (q * 2 + 1) (by omega)).lt b hb).1)
          have v0 := hTd.cell (i := q * 2) (by omega)
          have v1 := hTd.cell (i := q * 2 + 1) (by omega)
          rw [HT0.out] at v0
          rw [HT1.out] at v1
          have vf := hTd.fz
          have vlt := hTd.lt
          have HNX := hideIt (StD.next (l := l) (y := y) HQ0.out (by rw [HGD.out]; exact hR18) hTd)
          have HXE : Hid (Below w.heap.size w ((wd.setCell ⟨w.heap.size, q * 2, none⟩ x).setCell ⟨w.heap.size, q * 2 + 1, none⟩ y)) := bset (bset hXd _ _) _ _
          have HXD : Hid (Below w.heap.size w (wd.setCell ⟨w.heap.size, q * 2, none⟩ x)) := bset hXd _ _
          rw [hx] at hr8 HNX HXE HXD
          rw [hy] at hr18 HNX HXE
          have HR8 := hideIt hr8
          have HR18 := hideIt hr18
          have HXb := hideIt hXb
          have HXc := hideIt hXc
          have HXd := hideIt hXd
          have HUT := hideIt (And.intro u0 u1)
          have HVT := hideIt (And.intro v0 v1)
          clear hr8 hr18 hx hy hR18 hR18a hR8 hR8a hTb hTd hTc hs1 hoff1 hg18 hg8 hE18 hblk8 u0 u1 hXb hXc hXd hC8
          refine step_append_run (by rfl) _ _ 45 (by rfl) _ _ _ wb (by rfl) (by rfl) HR8.out ?_
          refine hK.out _ _ ?_ (fun hHeld => ?_)
          · exact ⟨HXb.out, HUT.out⟩
          clear hK K
          refine wpAnyL_ready (rs := [17]) (by kernel_rfl) (by simp) (AllReadyL.cons rfl (fun K hK => ?_) AllReadyL.nil)
          go_simp
          refine hK.out _ _ ?_ (fun hHeld => ?_)
          · exact ⟨HXc.out, (below_alloc (Below.refl wb.heap.size wb) _).cell (p := ⟨w.heap.size, q * 2, none⟩) (Nat.lt_of_lt_of_le hG (Nat.le_trans hV8.size hzb)) |>.trans HUT.out.1, (below_alloc (Below.refl wb.heap.size wb) _).cell (p := ⟨w.heap.size, q * 2 + 1, none⟩) (Nat.lt_of_lt_of_le hG (Nat.le_trans hV8.size hzb)) |>.trans HUT.out.2⟩
          clear hK K
          refine wpAnyL_ready (rs := [18]) (by kernel_rfl) (by simp) (AllReadyL.cons rfl (fun K hK => ?_) AllReadyL.nil)
          refine step_append_run (by rfl) _ _ 22 (by rfl) _ _ _ wd (by rfl) (by rfl) HR18.out ?_
          refine hK.out _ _ ?_ (fun hHeld => ?_)
          · exact ⟨HXd.out, HVT.out⟩
          clear hK K
          refine wpAnyL_takeS (i := 19) (v := ?_) rfl (by kernel_rfl) (by kernel_rfl) (by kernel_rfl) (by kernel_rfl) (fun _ _ _ h => h) (Or.inl ⟨by rfl, ?_⟩) (by assumption) ?_
          rotate_left 1
          · intro wz hwz
            go_simp
            all_goals with_reducible rfl
          simp only [Act.put, List.setIfInBounds_toArray, List.set_cons_zero, List.set_cons_succ, List.getElem_toArray, List.getElem_cons_zero, List.getElem_cons_succ]
          refine wpAnyL_takeS (i := 20) (v := ?_) rfl (by kernel_rfl) (by kernel_rfl) (by kernel_rfl) (by kernel_rfl) (fun _ _ _ h => h) (Or.inl ⟨by rfl, ?_⟩) (by assumption) ?_
          rotate_left 1
          · intro wz hwz
            go_simp
            all_goals with_reducible rfl
          simp only [Act.put, List.setIfInBounds_toArray, List.set_cons_zero, List.set_cons_succ, List.getElem_toArray, List.getElem_cons_zero, List.getElem_cons_succ]
          refine wpAnyL_ready (rs := [21]) (by kernel_rfl) (by simp) (AllReadyL.last rfl (by kernel_rfl) (fun K hK => ?_) AllReadyL.nil)
          go_simp
          refine hK.out _ _ ?_ (fun hHeld => ?_)
          · exact HXD.out
          clear hK K
          refine wpAnyL_takeE (i := 22) (v := ?_) rfl (by kernel_rfl) (by kernel_rfl) (by kernel_rfl) (by kernel_rfl) (by kernel_rfl) (fun _ _ _ h => h) (Or.inl ⟨by rfl, ?_⟩) (by assumption) ?_
          rotate_left 1
          · intro wz hwz
            go_simp
            all_goals with_reducible rfl
          simp only [Act.put, List.setIfInBounds_toArray, List.set_cons_zero, List.set_cons_succ, List.getElem_toArray, List.getElem_cons_zero, List.getElem_cons_succ]
          refine wpAnyL_takeE (i := 23) (v := ?_) rfl (by kernel_rfl) (by kernel_rfl) (by kernel_rfl) (by kernel_rfl) (by kernel_rfl) (fun _ _ _ h => h) (Or.inl ⟨by rfl, ?_⟩) (by assumption) ?_
          rotate_left 1
          · intro wz hwz
            go_simp
            all_goals with_reducible rfl
          simp only [Act.put, List.setIfInBounds_toArray, List.set_cons_zero, List.set_cons_succ, List.getElem_toArray, List.getElem_cons_zero, List.getElem_cons_succ]
          refine wpAnyL_ready (rs := [24]) (by kernel_rfl) (by simp) (AllReadyL.last rfl (by kernel_rfl) (fun K hK => ?_) AllReadyL.nil)
          go_simp
          refine hK.out _ _ ?_ (fun hHeld => ?_)
          · exact HXE.out
          clear hK K
          refine wpAnyL_done (by kernel_rfl) ?_ _
          go_wp2
          go_roundw
          case rel => exact ⟨k + 1, _, by omega, by go_num, HNX.out, HXE.out⟩
          case measure => simp [intOf]; omega
        · have hV8 : Below w1.heap.size w1 (((w1.alloc (.cells #[.int .i64 (k : Int)] 3)).alloc (.cells #[.int .i64 e.p, .int .i64 e.t, .int .i64 e.k, .int .i64 e.d, .int .i64 e.a, .int .i64 e.b, .int .i64 e.r] 38)).drew) := below_drewN (below_alloc (below_alloc (Below.refl _ _) _) _) 1
          have hC8 : (((w1.alloc (.cells #[.int .i64 (k : Int)] 3)).alloc (.cells #[.int .i64 e.p, .int .i64 e.t, .int .i64 e.k, .int .i64 e.d, .int .i64 e.a, .int .i64 e.b, .int .i64 e.r] 38)).drew).cell? ⟨w1.heap.size, 0, none⟩ = some (.int .i64 (k : Int)) := by simp [go_sem]
          have hR8a := HS.out.rws.below hV8
          obtain ⟨x, wb, hr8, hg8, hR8, ax, cx, hx⟩ := app_tk hR8a (Nat.lt_of_lt_of_le hG hV8.size) (Nat.le_trans hsz hV8.size) hq4 (k : Int) hC8 (by first | omega | (dsimp only; omega)) 45
          obtain ⟨mx, hx⟩ : ∃ m, x = .slice ax m cx := ⟨_, hx⟩
          rw [HT0.out] at hr8
          have hblk8 : wb.heap[w.heap.size]? = w1.heap[w.heap.size]? := (hg8.block _ (Nat.lt_of_lt_of_le hG hV8.size) (fun k => ho0 k.symm)).trans (hV8.block _ hG)
          have hTb := HS.out.tab.block hblk8
          have hXb : Below w.heap.size w wb := (below_join HX.out hV8).grown hg8 (Nat.le_trans hsz hV8.size) (fun b hb => ((HS.out.rws.rows (q * 2) (by omega)).lt b hb).1)
          have u0 := hTb.cell (i := q * 2) (by omega)
          have u1 := hTb.cell (i := q * 2 + 1) (by omega)
          rw [HT0.out] at u0
          rw [HT1.out] at u1
          have hzb := hg8.size
          have hE8 : EvAt (((w1.alloc (.cells #[.int .i64 (k : Int)] 3)).alloc (.cells #[.int .i64 e.p, .int .i64 e.t, .int .i64 e.k, .int .i64 e.d, .int .i64 e.a, .int .i64 e.b, .int .i64 e.r] 38)).drew) (w1.heap.size + 1) 0 e := ⟨by simp [go_sem], by simp [go_sem], by simp [go_sem], by simp [go_sem], by simp [go_sem], by simp [go_sem], by simp [go_sem]⟩
          have hE18 : EvAt wb (w1.heap.size + 1) 0 e := hE8.grownX hg8 (fun k => by have := hl0 _ k.symm; omega)
          have hR18a := hR8
          have hTc := hTb
          have hXc := hXb
          obtain ⟨y, wd, hr18, hg18, hR18, ay, cy, hy⟩ := app_ev hR18a hTc.lt hXc.size hq4 e hE18 (by show setX _ _ _ _ ≤ 1000; unfold setX; rw [if_neg (by omega)]; first | omega | (dsimp only; omega)) 22
          obtain ⟨my, hy⟩ : ∃ m, y = .slice ay m cy := ⟨_, hy⟩
          have hs1 : setX vs (q * 2) x (q * 2 + 1) = .slice at1 m1 ct1 := by unfold setX; rw [if_neg (by omega)]; exact HT1.out
          rw [hs1] at hr18
          have hoff1 := hR18a.off (q * 2 + 1) (by omega)
          have hTd := hTc.block (hg18.block _ hTc.lt (fun k => hoff1 k.symm))
          have hXd : Below w.heap.size w wd := hXc.grown hg18 hXc.size (fun b hb => ((hR18a.rows (q * 2 + 1) (by omega)).lt b hb).1)
          have v0 := hTd.cell (i := q * 2) (by omega)
          have v1 := hTd.cell (i := q * 2 + 1) (by omega)
          rw [HT0.out] at v0
          rw [HT1.out] at v1
          have vf := hTd.fz
          have vlt := hTd.lt
          have HNX := hideIt (StD.next (l := l) (y := y) HQ0.out (by rw [HGD.out]; exact hR18) hTd)
          have HXE : Hid (Below w.heap.size w ((wd.setCell ⟨w.heap.size, q * 2, none⟩ x).setCell ⟨w.heap.size, q * 2 + 1, none⟩ y)) := bset (bset hXd _ _) _ _
          have HXD : Hid (Below w.heap.size w (wd.setCell ⟨w.heap.size, q * 2, none⟩ x)) := bset hXd _ _
          rw [hx] at hr8 HNX HXE HXD
          rw [hy] at hr18 HNX HXE
          have HR8 := hideIt hr8
          have HR18 := hideIt hr18
          have HXb := hideIt hXb
          have HXc := hideIt hXc
          have HXd := hideIt hXd
          have HUT := hideIt (And.intro u0 u1)
          have HVT := hideIt (And.intro v0 v1)
          clear hr8 hr18 hx hy hR18 hR18a hR8 hR8a hTb hTd hTc hs1 hoff1 hg18 hg8 hE18 hblk8 u0 u1 hXb hXc hXd hC8
          go_simp
          refine hK.out _ _ ?_ (fun hHeld => ?_)
          · exact ⟨below_join HX.out (below_drewN (below_alloc (below_alloc (Below.refl _ _) _) _) 1), HTc.out _ (below_drewN (below_alloc (below_alloc (Below.refl _ _) _) _) 1)⟩
          clear hK K
          refine wpAnyL_ready (rs := [8]) (by kernel_rfl) (by simp) (AllReadyL.cons rfl (fun K hK => ?_) AllReadyL.nil)
          refine step_append_run (by rfl) _ _ 45 (by rfl) _ _ _ wb (by rfl) (by rfl) HR8.out ?_
          refine hK.out _ _ ?_ (fun hHeld => ?_)
          · exact ⟨HXb.out, HUT.out⟩
          clear hK K
          refine wpAnyL_ready (rs := [18]) (by kernel_rfl) (by simp) (AllReadyL.cons rfl (fun K hK => ?_) AllReadyL.nil)
          refine step_append_run (by rfl) _ _ 22 (by rfl) _ _ _ wd (by rfl) (by rfl) HR18.out ?_
          refine hK.out _ _ ?_ (fun hHeld => ?_)
          · exact ⟨HXd.out, HVT.out⟩
          clear hK K
          refine wpAnyL_takeS (i := 19) (v := ?_) rfl (by kernel_rfl) (by kernel_rfl) (by kernel_rfl) (by kernel_rfl) (fun _ _ _ h => h) (Or.inl ⟨by rfl, ?_⟩) (by assumption) ?_
          rotate_left 1
          · intro wz hwz
            go_simp
            all_goals with_reducible rfl
          simp only [Act.put, List.setIfInBounds_toArray, List.set_cons_zero, List.set_cons_succ, List.getElem_toArray, List.getElem_cons_zero, List.getElem_cons_succ]
          refine wpAnyL_takeS (i := 20) (v := ?_) rfl (by kernel_rfl) (by kernel_rfl) (by kernel_rfl) (by kernel_rfl) (fun _ _ _ h => h) (Or.inl ⟨by rfl, ?_⟩) (by assumption) ?_
          rotate_left 1
          · intro wz hwz
            go_simp
            all_goals with_reducible rfl
          simp only [Act.put, List.setIfInBounds_toArray, List.set_cons_zero, List.set_cons_succ, List.getElem_toArray, List.getElem_cons_zero, List.getElem_cons_succ]
          refine wpAnyL_ready (rs := [21]) (by kernel_rfl) (by simp) (AllReadyL.last rfl (by kernel_rfl) (fun K hK => ?_) AllReadyL.nil)
          go_simp
          refine hK.out _ _ ?_ (fun hHeld => ?_)
          · exact HXD.out
          clear hK K
          refine wpAnyL_takeE (i := 22) (v := ?_) rfl (by kernel_rfl) (by kernel_rfl) (by kernel_rfl) (by kernel_rfl) (by kernel_rfl) (fun _ _ _ h => h) (Or.inl ⟨by rfl, ?_⟩) (by assumption) ?_
          rotate_left 1
          · intro wz hwz
            go_simp
            all_goals with_reducible rfl
          simp only [Act.put, List.setIfInBounds_toArray, List.set_cons_zero, List.set_cons_succ, List.getElem_toArray, List.getElem_cons_zero, List.getElem_cons_succ]
          refine wpAnyL_takeE (i := 23) (v := ?_) rfl (by kernel_rfl) (by kernel_rfl) (by kernel_rfl) (by kernel_rfl) (by kernel_rfl) (fun _ _ _ h => h) (Or.inl ⟨by rfl, ?_⟩) (by assumption) ?_
          rotate_left 1
          · intro wz hwz
            go_simp
            all_goals with_reducible rfl
          simp only [Act.put, List.setIfInBounds_toArray, List.set_cons_zero, List.set_cons_succ, List.getElem_toArray, List.getElem_cons_zero, List.getElem_cons_succ]
          refine wpAnyL_ready (rs := [24]) (by kernel_rfl) (by simp) (AllReadyL.last rfl (by kernel_rfl) (fun K hK => ?_) AllReadyL.nil)
          go_simp
          refine hK.out _ _ ?_ (fun hHeld => ?_)
          · exact HXE.out
          clear hK K
          refine wpAnyL_done (by kernel_rfl) ?_ _
          go_wp2
          go_roundw
          case rel => exact ⟨k + 1, _, by omega, by go_num, HNX.out, HXE.out⟩
          case measure => simp [intOf]; omega
      · have hV8 : Below w1.heap.size w1 (((w1.alloc (.cells #[.int .i64 e.p, .int .i64 e.t, .int .i64 e.k, .int .i64 e.d, .int .i64 e.a, .int .i64 e.b, .int .i64 e.r] 38)).alloc (.cells #[.int .i64 (k : Int)] 3)).drew) := below_drewN (below_alloc (below_alloc (Below.refl _ _) _) _) 1
        have hC8 : (((w1.alloc (.cells #[.int .i64 e.p, .int .i64 e.t, .int .i64 e.k, .int .i64 e.d, .int .i64 e.a, .int .i64 e.b, .int .i64 e.r] 38)).alloc (.cells #[.int .i64 (k : Int)] 3)).drew).cell? ⟨(w1.heap.size + 1), 0, none⟩ = some (.int .i64 (k : Int)) := by simp [go_sem]
        have hR8a := HS.out.rws.below hV8
        obtain ⟨x, wb, hr8, hg8, hR8, ax, cx, hx⟩ := app_tk hR8a (Nat.lt_of_lt_of_le hG hV8.size) (Nat.le_trans hsz hV8.size) hq4 (k : Int) hC8 (by first | omega | (dsimp only; omega)) 45
        obtain ⟨mx, hx⟩ : ∃ m, x = .slice ax m cx := ⟨_, hx⟩
        rw [HT0.out] at hr8
        have hblk8 : wb.heap[w.heap.size]? = w1.heap[w.heap.size]? := (hg8.block _ (Nat.lt_of_lt_of_le hG hV8.size) (fun k => ho0 k.symm)).trans (hV8.block _ hG)
        have hTb := HS.out.tab.block hblk8
        have hXb : Below w.heap.size w wb := (below_join HX.out hV8).grown hg8 (Nat.le_trans hsz hV8.size) (fun b hb => ((HS.out.rws.rows (q * 2) (by omega)).lt b hb).1)
        have u0 := hTb.cell (i := q * 2) (by omega)
        have u1 := hTb.cell (i := q * 2 + 1) (by omega)
        rw [HT0.out] at u0
        rw [HT1.out] at u1
        have hzb := hg8.size
        have hE8 : EvAt (((w1.alloc (.cells #[.int .i64 e.p, .int .i64 e.t, .int .i64 e.k, .int .i64 e.d, .int .i64 e.a, .int .i64 e.b, .int .i64 e.r] 38)).alloc (.cells #[.int .i64 (k : Int)] 3)).drew) w1.heap.size 0 e := ⟨by simp [go_sem], by simp [go_sem], by simp [go_sem], by simp [go_sem], by simp [go_sem], by simp [go_sem], by simp [go_sem]⟩
        have hE18 : EvAt wb w1.heap.size 0 e := hE8.grownX hg8 (fun k => by have := hl0 _ k.symm; omega)
        have hR18a := hR8
        have hTc := hTb
        have hXc := hXb
        obtain ⟨y, wd, hr18, hg18, hR18, ay, cy, hy⟩ := app_ev hR18a hTc.lt hXc.size hq4 e hE18 (by show setX _ _ _ _ ≤ 1000; unfold setX; rw [if_neg (by omega)]; first | omega | (dsimp only; omega)) 22
        obtain ⟨my, hy⟩ : ∃ m, y = .slice ay m cy := ⟨_, hy⟩
        have hs1 : setX vs (q * 2) x (q * 2 + 1) = .slice at1 m1 ct1 := by unfold setX; rw [if_neg (by omega)]; exact HT1.out
        rw [hs1] at hr18
        have hoff1 := hR18a.off (q * 2 + 1) (by omega)
        have hTd := hTc.block (hg18.block _ hTc.lt (fun k => hoff1 k.symm))
        have hXd : Below w.heap.size w wd := hXc.grown hg18 hXc.size (fun b hb => ((hR18a.rows (q * 2 + 1) (by omega)).lt b hb).1)
        have v0 := hTd.cell (i := q * 2) (by omega)
        have v1 := hTd.cell (i := q * 2 + 1) (by omega)
        rw [HT0.out] at v0
        rw [HT1.out] at v1
        have vf := hTd.fz
        have vlt := hTd.lt
        have HNX := hideIt (StD.next (l := l) (y := y) HQ0.out (by rw [HGD.out]; exact hR18) hTd)
        have HXE : Hid (Below w.heap.size w ((wd.setCell ⟨w.heap.size, q * 2, none⟩ x).setCell ⟨w.heap.size, q * 2 + 1, none⟩ y)) := bset (bset hXd _ _) _ _
        have HXD : Hid (Below w.heap.size w (wd.setCell ⟨w.heap.size, q * 2, none⟩ x)) := bset hXd _ _
        rw [hx] at hr8 HNX HXE HXD
        rw [hy] at hr18 HNX HXE
        have HR8 := hideIt hr8
        have HR18 := hideIt hr18
        have HXb := hideIt hXb
        have HXc := hideIt hXc
        have HXd := hideIt hXd
        have HUT := hideIt (And.intro u0 u1)
        have HVT := hideIt (And.intro v0 v1)
        clear hr8 hr18 hx hy hR18 hR18a hR8 hR8a hTb hTd hTc hs1 hoff1 hg18 hg8 hE18 hblk8 u0 u1 hXb hXc hXd hC8
        go_simp
        refine hK.out _ _ ?_ (fun hHeld => ?_)
        · exact ⟨below_join HX.out (below_drewN (below_alloc (Below.refl _ _) _) 1), HTc.out _ (below_drewN (below_alloc (Below.refl _ _) _) 1)⟩
        clear hK K
        refine wpAnyL_ready (rs := [7]) (by kernel_rfl) (by simp) (AllReadyL.cons rfl (fun K hK => ?_) AllReadyL.nil)
        go_simp
        refine hK.out _ _ ?_ (fun hHeld => ?_)
        · exact ⟨below_join HX.out (below_drewN (below_alloc (below_alloc (Below.refl _ _) _) _) 1), HTc.out _ (below_drewN (below_alloc (below_alloc (Below.refl _ _) _) _) 1)⟩
        clear hK K
        refine wpAnyL_ready (rs := [8]) (by kernel_rfl) (by simp) (AllReadyL.cons rfl (fun K hK => ?_) AllReadyL.nil)
        refine step_append_run (by rfl) _ _ 45 (by rfl) _ _ _ wb (by rfl) (by rfl) HR8.out ?_
        refine hK.out _ _ ?_ (fun hHeld => ?_)
        · exact ⟨HXb.out, HUT.out⟩
        clear hK K
        refine wpAnyL_ready (rs := [18]) (by kernel_rfl) (by simp) (AllReadyL.cons rfl (fun K hK => ?_) AllReadyL.nil)
        refine step_append_run (by rfl) _ _ 22 (by rfl) _ _ _ wd (by rfl) (by rfl) HR18.out ?_
        refine hK.out _ _ ?_ (fun hHeld => ?_)
        · exact ⟨HXd.out, HVT.out⟩
        clear hK K
        refine wpAnyL_takeS (i := 19) (v := ?_) rfl (by kernel_rfl) (by kernel_rfl) (by kernel_rfl) (by kernel_rfl) (fun _ _ _ h => h) (Or.inl ⟨by rfl, ?_⟩) (by assumption) ?_
        rotate_left 1
        · intro wz hwz
          go_simp
          all_goals with_reducible rfl
        simp only [Act.put, List.setIfInBounds_toArray, List.set_cons_zero, List.set_cons_succ, List.getElem_toArray, List.getElem_cons_zero, List.getElem_cons_succ]
        refine wpAnyL_takeS (i := 20) (v := ?_) rfl (by kernel_rfl) (by kernel_rfl) (by kernel_rfl) (by kernel_rfl) (fun _ _ _ h => h) (Or.inl ⟨by rfl, ?_⟩) (by assumption) ?_
        rotate_left 1
        · intro wz hwz
          go_simp
          all_goals with_reducible rfl
        simp only [Act.put, List.setIfInBounds_toArray, List.set_cons_zero, List.set_cons_succ, List.getElem_toArray, List.getElem_cons_zero, List.getElem_cons_succ]
        refine wpAnyL_ready (rs := [21]) (by kernel_rfl) (by simp) (AllReadyL.last rfl (by kernel_rfl) (fun K hK => ?_) AllReadyL.nil)
        go_simp
        refine hK.out _ _ ?_ (fun hHeld => ?_)
        · exact HXD.out
        clear hK K
        refine wpAnyL_takeE (i := 22) (v := ?_) rfl (by kernel_rfl) (by kernel_rfl) (by kernel_rfl) (by kernel_rfl) (by kernel_rfl) (fun _ _ _ h => h) (Or.inl ⟨by rfl, ?_⟩) (by assumption) ?_
        rotate_left 1
        · intro wz hwz
          go_simp
          all_goals with_reducible rfl
        simp only [Act.put, List.setIfInBounds_toArray, List.set_cons_zero, List.set_cons_succ, List.getElem_toArray, List.getElem_cons_zero, List.getElem_cons_succ]
        refine wpAnyL_takeE (i := 23) (v := ?_) rfl (by kernel_rfl) (by kernel_rfl) (by kernel_rfl) (by kernel_rfl) (by kernel_rfl) (fun _ _ _ h => h) (Or.inl ⟨by rfl, ?_⟩) (by assumption) ?_
        rotate_left 1
        · intro wz hwz
          go_simp
          all_goals with_reducible rfl
        simp only [Act.put, List.setIfInBounds_toArray, List.set_cons_zero, List.set_cons_succ, List.getElem_toArray, List.getElem_cons_zero, List.getElem_cons_succ]
        refine wpAnyL_ready (rs := [24]) (by kernel_rfl) (by simp) (AllReadyL.last rfl (by kernel_rfl) (fun K hK => ?_) AllReadyL.nil)
        go_simp
        refine hK.out _ _ ?_ (fun hHeld => ?_)
        · exact HXE.out
        clear hK K
        refine wpAnyL_done (by kernel_rfl) ?_ _
        go_wp2
        go_roundw
        case rel => exact ⟨k + 1, _, by omega, by go_num, HNX.out, HXE.out⟩
        case measure => simp [intOf]; omega
    · have hkl : k = l.length := by omega
      have hki : ¬ (k : Int) < (l.length : Int) := by omega
      have HMg := hideIt (merge_any _ (speD l Q k) wr HS.out.spq (by simp [speD]) (fun i h _ => by
        have hb := fun q => idx_le Q k q
        match i, h with
        | 0, _ => exact ⟨by show (tksD Q k 0).length ≤ 200; rw [tks_len]; have := hb 0; omega, by show (evsD l Q k 0).length ≤ 200; rw [evs_len]; have := hb 0; omega⟩
        | 1, _ => exact ⟨by show (tksD Q k 1).length ≤ 200; rw [tks_len]; have := hb 1; omega, by show (evsD l Q k 1).length ≤ 200; rw [evs_len]; have := hb 1; omega⟩
        | 2, _ => exact ⟨by show (tksD Q k 2).length ≤ 200; rw [tks_len]; have := hb 2; omega, by show (evsD l Q k 2).length ≤ 200; rw [evs_len]; have := hb 2; omega⟩
        | 3, _ => exact ⟨by show (tksD Q k 3).length ≤ 200; rw [tks_len]; have := hb 3; omega, by show (evsD l Q k 3).length ≤ 200; rw [evs_len]; have := hb 3; omega⟩
        | m + 4, h => exact absurd h (by simp [speD])))
      have HPm : Hid ((pairsL (speD l Q k)).Perm (numL 0 l)) := by
        show (pairsL (speD l Q k)).Perm (numL 0 l)
        rw [hkl]; exact pairs_spe l Q HQ4.out
      have HF0 := hideIt (flt_spe l Q k)
      go_wp2_with fail
      refine HMg.out.mono ?_
      rintro y w2 ⟨hb2, ⟨hne, _⟩ | ⟨_, L', hp, hsrt, hrest⟩⟩
      · exact absurd HF0.out hne
      have hsm := srt_same hsrt ((numL_strict l 0).imp fun h => by omega) (hp.trans HPm.out)
      have htw : twinB L' = false := by rw [hsm.1]; exact twin_of_strict (numL_strict l 0)
      obtain rfl := hsm.2 htw
      rcases hrest with ⟨ht, _⟩ | ⟨_, v2, rfl, ho2⟩
      · rw [htw] at ht; cases ht
      rw [numL_ev, numL_len] at ho2
      obtain ⟨a2, c2, rfl⟩ := own_shapeS ho2
      have HE2 := hideIt (own_evq ho2)
      have HB2 := hideIt (below_join HX.out hb2)
      clear hsm htw hp hsrt ho2 hb2 hkl
      go_wp2_with fail
      refine (kept_any _).mono ?_
      rintro y w3 ⟨rfl, hb3⟩
      have HB3 := hideIt (below_join HB2.out hb3)
      have HE3 := hideIt (HE2.out.below hb3)
      have HBe := hideIt (begins_true _ _ l l w3 HE3.out (HLQ.out.below HB3.out) (List.prefix_refl _) (by omega))
      clear hb3
      go_wp2_with fail
      refine HBe.out.mono ?_
      rintro y w4 ⟨rfl, n4, rfl⟩
      go_wp2
      go_ret
      exact ⟨rfl, below_drewN HB3.out n4⟩

theorem order_any (vl vd : Value) (l : List Ev) (dl : List Int) (w : World) (hl : EvQ w vl l) (hd : InQ w vd dl) :
    Calls Try.prog 6 #[vl, vd] w fun r w' => r = .returned (.bool true) ∧ Below w.heap.size w w' := by
  by_cases h60 : l.length ≤ 60
  · by_cases hdl : l.length ≤ dl.length
    · exact order_walk vl vd l dl w hl hd h60 hdl
    · obtain ⟨al, cl, rfl, hcl, hA⟩ := hl
      obtain ⟨ad, cd, rfl, hcd, hD⟩ := hd
      have h60' : ¬ (60 : Int) < (l.length : Int) := by omega
      have d60 : decide ((60 : Int) < (l.length : Int)) = false := decide_eq_false h60'
      have hdl' : (dl.length : Int) < (l.length : Int) := by omega
      clear hA hD
      go_enter Try.func6, Try.ntmps6
      go_wp2
      go_ret
      exact ⟨rfl, Below.refl _ _⟩
  · obtain ⟨al, cl, rfl, hcl, hA⟩ := hl
    obtain ⟨ad, cd, rfl, hcd, hD⟩ := hd
    have h60' : (60 : Int) < (l.length : Int) := by omega
    have d60 : decide ((60 : Int) < (l.length : Int)) = true := decide_eq_true h60'
    clear hA hD
    go_enter Try.func6, Try.ntmps6
    go_wp2
    go_ret
    exact ⟨rfl, Below.refl _ _⟩

end Go.Proofs.Ytdncnljcihblbab
