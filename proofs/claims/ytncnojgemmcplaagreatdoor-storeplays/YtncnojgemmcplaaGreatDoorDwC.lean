/-
  The document's store, walked: see.
-/
import Derived.Test.YtncnojgemmcplaaGreatDoorSwBZ
namespace Go.Proofs.YtncnojgemmcplaaGreatDoor.St.Dc
open Go.RowKit

section
variable {w0 W W' : World} {K : DoK} {S : Sto}
set_option maxRecDepth 100000 in
set_option maxHeartbeats 8000000 in
theorem seeD_any (h : DoR w0 W K S) (hs : S.seen.length ≤ 1000) {i : Nat} (hi : i < S.k) (typ res : Int) (s : Smp) :
    Calls Tryz.prog 66 #[.pointer (some ⟨K.B, 0, none⟩), .int .i64 (i : Int), .int .i64 typ, .int .i64 res, .agg #[.int .i64 s.t, .int .i64 s.c]] W fun en W' => en = .returned (.tuple #[]) ∧ ∃ K', (DoR w0 W' K' { S with seen := S.seen ++ [snOf i (S.cl i) typ res s] } ∧ (K'.L = K.L ∧ K'.lt = K.lt ∧ K'.f = K.f ∧ K'.cut = K.cut ∧ K'.LM = K.LM)) ∧ DFr K S.k W W' K' := by
  have c10 := h.cells.2.2.2.2.1
  have hi' : (i : Int) < (S.k : Int) := by omega
  obtain ⟨ra, rc, _, hcl⟩ := h.client hi
  have HP := hideIt h
  have hBl := h.ltB
  generalize hnl : (S.cl i).cnt.length = nl at hcl
  clear h
  cases gw : (S.cl i).write
  · skip
    obtain ⟨x0, x1, x2, x3, x4, x5, x6, x7, x8, x9, x10⟩ := hcl (W.alloc (.cells #[.int .i64 s.t, .int .i64 s.c] 61)) (belA (Below.refl _ _) _)
    have c10' : (W.alloc (.cells #[.int .i64 s.t, .int .i64 s.c] 61)).cell? ⟨K.B, 10, none⟩ = some (.slice (some ⟨K.C, 0, none⟩) S.k S.k) := (HP.out.below (belA (Below.refl _ _) _)).cells.2.2.2.2.1
    rw [gw] at x2
    have hb0 : Below W.heap.size W (((W.alloc (.cells #[.int .i64 s.t, .int .i64 s.c] 61)).alloc (.cells #[.bool (S.cl i).busy, .bool (S.cl i).gone, .bool false, .bool (S.cl i).tells, .int .i64 (S.cl i).key, .int .i64 (S.cl i).value, .int .i64 (S.cl i).rd, .int .i64 (S.cl i).kept.s.t, .int .i64 (S.cl i).kept.s.c, .int .i64 (S.cl i).kept.v, .slice ra nl rc] 107)).alloc (.cells #[.int .i64 (i : Int), .int .i64 typ, .int .i64 (S.cl i).key, .int .i64 1, .int .i64 0, .int .i64 0, .int .i64 res] 110)) := (belA (belA (belA (Below.refl _ _) _) _) _)
    have HV0 : Hid (DoR w0 (((W.alloc (.cells #[.int .i64 s.t, .int .i64 s.c] 61)).alloc (.cells #[.bool (S.cl i).busy, .bool (S.cl i).gone, .bool false, .bool (S.cl i).tells, .int .i64 (S.cl i).key, .int .i64 (S.cl i).value, .int .i64 (S.cl i).rd, .int .i64 (S.cl i).kept.s.t, .int .i64 (S.cl i).kept.s.c, .int .i64 (S.cl i).kept.v, .slice ra nl rc] 107)).alloc (.cells #[.int .i64 (i : Int), .int .i64 typ, .int .i64 (S.cl i).key, .int .i64 1, .int .i64 0, .int .i64 0, .int .i64 res] 110)) K S ∧ DFr K S.k W (((W.alloc (.cells #[.int .i64 s.t, .int .i64 s.c] 61)).alloc (.cells #[.bool (S.cl i).busy, .bool (S.cl i).gone, .bool false, .bool (S.cl i).tells, .int .i64 (S.cl i).key, .int .i64 (S.cl i).value, .int .i64 (S.cl i).rd, .int .i64 (S.cl i).kept.s.t, .int .i64 (S.cl i).kept.s.c, .int .i64 (S.cl i).kept.v, .slice ra nl rc] 107)).alloc (.cells #[.int .i64 (i : Int), .int .i64 typ, .int .i64 (S.cl i).key, .int .i64 1, .int .i64 0, .int .i64 0, .int .i64 res] 110)) K) := ⟨HP.out.below hb0, DFr.below hb0⟩
    have HVE0 : Hid ((((W.alloc (.cells #[.int .i64 s.t, .int .i64 s.c] 61)).alloc (.cells #[.bool (S.cl i).busy, .bool (S.cl i).gone, .bool false, .bool (S.cl i).tells, .int .i64 (S.cl i).key, .int .i64 (S.cl i).value, .int .i64 (S.cl i).rd, .int .i64 (S.cl i).kept.s.t, .int .i64 (S.cl i).kept.s.c, .int .i64 (S.cl i).kept.v, .slice ra nl rc] 107)).alloc (.cells #[.int .i64 (i : Int), .int .i64 typ, .int .i64 (S.cl i).key, .int .i64 1, .int .i64 0, .int .i64 0, .int .i64 res] 110)).heap[W.heap.size + 1 + 1]? = some (.cells #[.int .i64 (i : Int), .int .i64 typ, .int .i64 (S.cl i).key, .int .i64 1, .int .i64 0, .int .i64 0, .int .i64 res] 110)) := by
      have := heap_alloc_new ((W.alloc (.cells #[.int .i64 s.t, .int .i64 s.c] 61)).alloc (.cells #[.bool (S.cl i).busy, .bool (S.cl i).gone, .bool false, .bool (S.cl i).tells, .int .i64 (S.cl i).key, .int .i64 (S.cl i).value, .int .i64 (S.cl i).rd, .int .i64 (S.cl i).kept.s.t, .int .i64 (S.cl i).kept.s.c, .int .i64 (S.cl i).kept.v, .slice ra nl rc] 107)) (.cells #[.int .i64 (i : Int), .int .i64 typ, .int .i64 (S.cl i).key, .int .i64 1, .int .i64 0, .int .i64 0, .int .i64 res] 110)
      have hsz : ((W.alloc (.cells #[.int .i64 s.t, .int .i64 s.c] 61)).alloc (.cells #[.bool (S.cl i).busy, .bool (S.cl i).gone, .bool false, .bool (S.cl i).tells, .int .i64 (S.cl i).key, .int .i64 (S.cl i).value, .int .i64 (S.cl i).rd, .int .i64 (S.cl i).kept.s.t, .int .i64 (S.cl i).kept.s.c, .int .i64 (S.cl i).kept.v, .slice ra nl rc] 107)).heap.size = W.heap.size + 1 + 1 := by simp
      rw [hsz] at this
      exact this
    have HVS0 : Hid ((((W.alloc (.cells #[.int .i64 s.t, .int .i64 s.c] 61)).alloc (.cells #[.bool (S.cl i).busy, .bool (S.cl i).gone, .bool false, .bool (S.cl i).tells, .int .i64 (S.cl i).key, .int .i64 (S.cl i).value, .int .i64 (S.cl i).rd, .int .i64 (S.cl i).kept.s.t, .int .i64 (S.cl i).kept.s.c, .int .i64 (S.cl i).kept.v, .slice ra nl rc] 107)).alloc (.cells #[.int .i64 (i : Int), .int .i64 typ, .int .i64 (S.cl i).key, .int .i64 1, .int .i64 0, .int .i64 0, .int .i64 res] 110)).heap[W.heap.size]? = some (.cells #[.int .i64 s.t, .int .i64 s.c] 61)) := blkA (blkA (heap_alloc_new W _))
    obtain ⟨e, he⟩ : ∃ e, snOf (i : Int) (S.cl i) typ res s = e := ⟨_, rfl⟩
    have HEC : Hid ((#[.int .i64 (i : Int), .int .i64 typ, .int .i64 (S.cl i).key, .int .i64 1, .int .i64 0, .int .i64 0, .int .i64 res] : Array Value).toList = snC e) := by
      show _ = _
      rw [← he]
      unfold snC snOf
      rw [gw]
      rfl
    have HEA : Hid (e.at_ = s) := by rw [← he]; rfl
    rw [he]
    clear hcl hnl hb0 he HP
    go_enter Tryz.func66, Tryz.ntmps66
    go_upto_region 5 with fail
    clear x0 x1 x2 x3 x4 x5 x6 x7 x8 x9 x10 c10' c10
    generalize (((W.alloc (.cells #[.int .i64 s.t, .int .i64 s.c] 61)).alloc (.cells #[.bool (S.cl i).busy, .bool (S.cl i).gone, .bool false, .bool (S.cl i).tells, .int .i64 (S.cl i).key, .int .i64 (S.cl i).value, .int .i64 (S.cl i).rd, .int .i64 (S.cl i).kept.s.t, .int .i64 (S.cl i).kept.s.c, .int .i64 (S.cl i).kept.v, .slice ra nl rc] 107)).alloc (.cells #[.int .i64 (i : Int), .int .i64 typ, .int .i64 (S.cl i).key, .int .i64 1, .int .i64 0, .int .i64 0, .int .i64 res] 110)) = V at *
    have HV := HV0
    have HVE := HVE0
    have HVS := HVS0
    clear HV0 HVE0 HVS0
    obtain ⟨va, vc, eve⟩ := ownsRow_slice (HV.out.1.facts .ve trivial)
    obtain ⟨sa, sc, evs⟩ := ownsRow_slice (HV.out.1.facts .vs trivial)
    have hse : (S.seen.map Sn.at_).length = S.seen.length := by simp
    have HT : Hid (∀ Z, Below V.heap.size V Z → Z.cell? ⟨K.B, 11, none⟩ = some (.slice va S.seen.length vc)) := fun Z hZ => by
      rw [← eve]; exact (HV.out.1.below hZ).cells.2.2.2.2.2.1
    have HU : Hid (∀ Z, Below V.heap.size V Z → Z.cell? ⟨W.heap.size + 1 + 1, 0, none⟩ = some (.int .i64 (i : Int)) ∧ Z.cell? ⟨W.heap.size + 1 + 1, 1, none⟩ = some (.int .i64 typ) ∧ Z.cell? ⟨W.heap.size + 1 + 1, 2, none⟩ = some (.int .i64 (S.cl i).key) ∧ Z.cell? ⟨W.heap.size + 1 + 1, 3, none⟩ = some (.int .i64 1) ∧ Z.cell? ⟨W.heap.size + 1 + 1, 4, none⟩ = some (.int .i64 0) ∧ Z.cell? ⟨W.heap.size + 1 + 1, 5, none⟩ = some (.int .i64 0) ∧ Z.cell? ⟨W.heap.size + 1 + 1, 6, none⟩ = some (.int .i64 res)) := fun Z hZ => by
      have hb := (hZ.block (W.heap.size + 1 + 1) (lt_of_heap HVE.out)).trans HVE.out
      have hcc := fun i => cell_of_row Z (W.heap.size + 1 + 1) i _ 110 _ hb
      exact ⟨by rw [hcc]; rfl, by rw [hcc]; rfl, by rw [hcc]; rfl, by rw [hcc]; rfl, by rw [hcc]; rfl, by rw [hcc]; rfl, by rw [hcc]; rfl⟩
    refine wp_region_L (B := [7, 10]) (S := fun _ => True) (T := fun Z => Below V.heap.size V Z) (by kernel_rfl) ⟨trivial, (Below.refl _ _).drew⟩ (fun hHeld => ?_)
    refine wpAnyL_takeS (i := 0) (v := ?_) rfl (by kernel_rfl) (by kernel_rfl) (by kernel_rfl) (by kernel_rfl) (fun _ _ _ h => h) (Or.inl ⟨by rfl, ?_⟩) (by assumption) ?_
    rotate_left 1
    · intro wz _
      go_simp
      all_goals with_reducible rfl
    simp only [Act.put, List.setIfInBounds_toArray, List.set_cons_zero, List.set_cons_succ, List.getElem_toArray, List.getElem_cons_zero]
    refine wpAnyL_takeS (i := 1) (v := ?_) rfl (by kernel_rfl) (by kernel_rfl) (by kernel_rfl) (by kernel_rfl) (fun _ _ _ h => h) (Or.inl ⟨by rfl, ?_⟩) (by assumption) ?_
    rotate_left 1
    · intro wz _
      go_simp
      all_goals with_reducible rfl
    simp only [Act.put, List.setIfInBounds_toArray, List.set_cons_zero, List.set_cons_succ, List.getElem_toArray, List.getElem_cons_zero, List.getElem_cons_succ]
    refine wpAnyL_takeS (i := 2) (v := ?_) rfl (by kernel_rfl) (by kernel_rfl) (by kernel_rfl) (by kernel_rfl) (fun _ _ _ h => h) (Or.inl ⟨by rfl, ?_⟩) (by assumption) ?_
    rotate_left 1
    · intro wz _
      go_simp
      all_goals with_reducible rfl
    simp only [Act.put, List.setIfInBounds_toArray, List.set_cons_zero, List.set_cons_succ, List.getElem_toArray, List.getElem_cons_zero, List.getElem_cons_succ]
    refine wpAnyL_takeS (i := 3) (v := ?_) rfl (by kernel_rfl) (by kernel_rfl) (by kernel_rfl) (by kernel_rfl) (fun _ _ _ h => h) (Or.inl ⟨by rfl, ?_⟩) (by assumption) ?_
    rotate_left 1
    · intro wz _
      go_simp
      all_goals with_reducible rfl
    simp only [Act.put, List.setIfInBounds_toArray, List.set_cons_zero, List.set_cons_succ, List.getElem_toArray, List.getElem_cons_zero, List.getElem_cons_succ]
    refine wpAnyL_take [7, 10] (i := 4) (v := ?_) rfl (by kernel_rfl) (by kernel_rfl) (by kernel_rfl) (by kernel_rfl) (fun _ _ _ h => h) (Or.inl ⟨by rfl, ?_⟩) (by assumption) ?_
    rotate_left 1
    · intro wz sb
      have y0 := HT.out wz sb.2
      go_simp
      all_goals with_reducible rfl
    simp only [Act.put, List.setIfInBounds_toArray, List.set_cons_zero, List.set_cons_succ, List.getElem_toArray, List.getElem_cons_zero, List.getElem_cons_succ]
    refine wpAnyL_take [6, 7, 10] (i := 5) (v := ?_) rfl (by kernel_rfl) (by kernel_rfl) (by kernel_rfl) (by kernel_rfl) (fun _ _ _ h => h) (Or.inl ⟨by rfl, ?_⟩) (by assumption) ?_
    rotate_left 1
    · intro wz sb
      obtain ⟨y0, y1, y2, y3, y4, y5, y6⟩ := HU.out wz sb.2
      go_simp
      all_goals with_reducible rfl
    simp only [Act.put, List.setIfInBounds_toArray, List.set_cons_zero, List.set_cons_succ, List.getElem_toArray, List.getElem_cons_zero, List.getElem_cons_succ]
    generalize V.drew = Y0 at hHeld ⊢
    refine wpAnyL_ready (rs := [6]) (by kernel_rfl) (by simp) (AllReadyL.cons rfl (fun Q hQ => ?_) AllReadyL.nil)
    go_simp
    have hb1 : Below V.heap.size V (Y0.alloc (.cells #[.int .i64 (i : Int), .int .i64 typ, .int .i64 (S.cl i).key, .int .i64 1, .int .i64 0, .int .i64 0, .int .i64 res] 110)) := hHeld.2.alloc hHeld.2.size _
    have hnew := heap_alloc_new Y0 (.cells #[.int .i64 (i : Int), .int .i64 typ, .int .i64 (S.cl i).key, .int .i64 1, .int .i64 0, .int .i64 0, .int .i64 res] 110)
    refine hQ.out _ _ ⟨trivial, hb1⟩ (fun hHeld2 => ?_)
    clear hQ Q hb1
    generalize Y0.alloc (.cells #[.int .i64 (i : Int), .int .i64 typ, .int .i64 (S.cl i).key, .int .i64 1, .int .i64 0, .int .i64 0, .int .i64 res] 110) = Y1 at *
    have hP := HV.out.1.below hHeld2.2
    have hF := HV.out.2.trans (DFr.below hHeld2.2)
    obtain ⟨v1, w6, hr, ho, hg, hob⟩ := run_appN (e := e) (cs := #[.int .i64 (i : Int), .int .i64 typ, .int .i64 (S.cl i).key, .int .i64 1, .int .i64 0, .int .i64 0, .int .i64 res]) HEC.out (hP.facts .ve trivial) hnew hP.bel.size (by omega) 55
    have eB : w6.heap[K.B]? = Y1.heap[K.B]? := hg.block K.B hP.ltB fun e' => hP.apart (p := .ve) (q := .B) trivial trivial (fun e => by cases e) (b := K.B) e'.symm rfl
    have c6 : w6.cell? ⟨K.B, 11, none⟩ = some (.slice va S.seen.length vc) := by
      rw [World.cell?_of_block (a := ⟨K.B, 11, none⟩) eB, ← eve]; exact hP.cells.2.2.2.2.2.1
    have c612 : w6.cell? ⟨K.B, 12, none⟩ = some K.vs := (World.cell?_of_block (a := ⟨K.B, 12, none⟩) eB).trans hP.cells.2.2.2.2.2.2
    have f6 : w6.frozen? ⟨K.B, 11, none⟩ = false := (World.frozen?_of_block (a := ⟨K.B, 11, none⟩) eB).trans (hP.fzB 11)
    have f612 : w6.frozen? ⟨K.B, 12, none⟩ = false := (World.frozen?_of_block (a := ⟨K.B, 12, none⟩) eB).trans (hP.fzB 12)
    have hSb : w6.heap[W.heap.size]? = some (.cells #[.int .i64 s.t, .int .i64 s.c] 61) := by
      refine (hg.block W.heap.size (Nat.lt_of_lt_of_le (lt_of_heap HVS.out) hHeld2.2.size) fun e' => ?_).trans ((hHeld2.2.block W.heap.size (lt_of_heap HVS.out)).trans HVS.out)
      have h1 := ((hP.facts .ve trivial).blk e'.symm).2.2
      rw [hHeld2.2.block W.heap.size (lt_of_heap HVS.out), HVS.out] at h1
      exact absurd (show (62 : Nat) = 111 from h1) (by decide)
    replace hr : (Builtin.append_ #[55, 55] 55 #[K.ve, .slice (some ⟨Y0.heap.size, 0, none⟩) 1 1]).run Tryz.prog Y1 = .ok v1 w6 := hr
    rw [eve] at hr
    refine wpAnyL_ready (rs := [7]) (by kernel_rfl) (by simp) (AllReadyL.last rfl (by kernel_rfl) (fun Q' hQ => ?_) AllReadyL.nil)
    refine step_append_run (by rfl) _ _ 55 rfl _ _ v1 w6 rfl rfl hr ?_
    have HP1 := hideIt hP
    have HF1 := hideIt hF
    have HO1 := hideIt ho
    have HG1 := hideIt hg
    have HSb : Hid ((w6.setCell ⟨K.B, 11, none⟩ v1).heap[W.heap.size]? = some (.cells #[.int .i64 s.t, .int .i64 s.c] 61)) := by
      refine (Below.heap_setCell w6 ⟨K.B, 11, none⟩ v1 W.heap.size fun e' => ?_).trans hSb
      have e2 : W.heap.size = K.B := e'
      rw [e2, eB, (hP.facts .B trivial).1] at hSb
      exact absurd hSb (by unfold doO; intro h; injection h with h; injection h with _ h2; exact absurd h2 (by decide))
    have HC12 : Hid (∀ Z, Below (w6.setCell ⟨K.B, 11, none⟩ v1).heap.size (w6.setCell ⟨K.B, 11, none⟩ v1) Z → Z.cell? ⟨K.B, 12, none⟩ = some (.slice sa S.seen.length sc) ∧ Z.frozen? ⟨K.B, 12, none⟩ = false) := fun Z hZ => by
      have hlt : K.B < (w6.setCell ⟨K.B, 11, none⟩ v1).heap.size := by have := hP.ltB; have := hg.size; simp; omega
      have e12 : (w6.setCell ⟨K.B, 11, none⟩ v1).cell? ⟨K.B, 12, none⟩ = w6.cell? ⟨K.B, 12, none⟩ := World.cell?_setCell_other _ _ _ _ (offNe (by decide))
      obtain ⟨cur, hcur⟩ : ∃ cur, w6.heap[K.B]? = some (.cells cur 58 (0, 0)) := ⟨_, eB.trans (hP.facts .B trivial).1⟩
      obtain ⟨cur', hcur', _⟩ := heap_setCell hcur 11 v1
      refine ⟨?_, frozen_of_row _ _ _ _ 58 ((hZ.block K.B hlt).trans hcur')⟩
      rw [hZ.cell (p := ⟨K.B, 12, none⟩) hlt, e12, c612, evs, hse]
    obtain ⟨a6, n6, cap6, rfl⟩ : ∃ a n c, v1 = .slice a n c := by
      obtain ⟨a, c, e'⟩ := ownsRow_slice ho
      exact ⟨a, _, c, e'⟩
    refine hQ.out _ _ trivial (fun _ => ?_)
    clear hQ Q' hr ho hg hob hP hF hHeld hHeld2 hnew eB HT HU hSb c612 f612 HV HVE HVS
    refine wpAnyL_takeE (i := 8) (v := ?_) rfl (by kernel_rfl) (by kernel_rfl) (by kernel_rfl) (by kernel_rfl) (by kernel_rfl) (fun _ _ _ h => h) (Or.inl ⟨by rfl, ?_⟩) (by assumption) ?_
    rotate_left 1
    · intro wz _
      go_simp
      all_goals with_reducible rfl
    simp only [Act.put, List.setIfInBounds_toArray, List.set_cons_zero, List.set_cons_succ, List.getElem_toArray, List.getElem_cons_zero, List.getElem_cons_succ]
    refine wpAnyL_takeE (i := 9) (v := ?_) rfl (by kernel_rfl) (by kernel_rfl) (by kernel_rfl) (by kernel_rfl) (by kernel_rfl) (fun _ _ _ h => h) (Or.inl ⟨by rfl, ?_⟩) (by assumption) ?_
    rotate_left 1
    · intro wz _
      go_simp
      all_goals with_reducible rfl
    simp only [Act.put, List.setIfInBounds_toArray, List.set_cons_zero, List.set_cons_succ, List.getElem_toArray, List.getElem_cons_zero, List.getElem_cons_succ]
    refine wpAnyL_ready (rs := [10]) (by kernel_rfl) (by simp) (AllReadyL.last rfl (by kernel_rfl) (fun Q' hQ => ?_) AllReadyL.nil)
    go_simp
    refine hQ.out _ _ trivial (fun _ => ?_)
    clear hQ Q' c6 f6
    refine wpAnyL_done (by kernel_rfl) ?_ _
    go_wp2_with fail
    generalize hW2 : w6.setCell ⟨K.B, 11, none⟩ (.slice a6 n6 cap6) = W2 at *
    have HT : Hid (∀ Z, Below W2.heap.size W2 Z → Z.cell? ⟨K.B, 12, none⟩ = some (.slice sa S.seen.length sc)) := fun Z hZ => (HC12.out Z hZ).1
    have HU : Hid (∀ Z, Below W2.heap.size W2 Z → Z.cell? ⟨W.heap.size, 0, none⟩ = some (.int .i64 s.t) ∧ Z.cell? ⟨W.heap.size, 1, none⟩ = some (.int .i64 s.c)) := fun Z hZ => blkSp ((hZ.block W.heap.size (lt_of_heap HSb.out)).trans HSb.out)
    have HW2 := hideIt hW2
    clear hW2
    refine wp_region_L (B := [7, 10]) (S := fun _ => True) (T := fun Z => Below W2.heap.size W2 Z) (by kernel_rfl) ⟨trivial, (Below.refl _ _).drew⟩ (fun hHeld => ?_)
    refine wpAnyL_takeS (i := 0) (v := ?_) rfl (by kernel_rfl) (by kernel_rfl) (by kernel_rfl) (by kernel_rfl) (fun _ _ _ h => h) (Or.inl ⟨by rfl, ?_⟩) (by assumption) ?_
    rotate_left 1
    · intro wz _
      go_simp
      all_goals with_reducible rfl
    simp only [Act.put, List.setIfInBounds_toArray, List.set_cons_zero, List.set_cons_succ, List.getElem_toArray, List.getElem_cons_zero]
    refine wpAnyL_takeS (i := 1) (v := ?_) rfl (by kernel_rfl) (by kernel_rfl) (by kernel_rfl) (by kernel_rfl) (fun _ _ _ h => h) (Or.inl ⟨by rfl, ?_⟩) (by assumption) ?_
    rotate_left 1
    · intro wz _
      go_simp
      all_goals with_reducible rfl
    simp only [Act.put, List.setIfInBounds_toArray, List.set_cons_zero, List.set_cons_succ, List.getElem_toArray, List.getElem_cons_zero, List.getElem_cons_succ]
    refine wpAnyL_takeS (i := 2) (v := ?_) rfl (by kernel_rfl) (by kernel_rfl) (by kernel_rfl) (by kernel_rfl) (fun _ _ _ h => h) (Or.inl ⟨by rfl, ?_⟩) (by assumption) ?_
    rotate_left 1
    · intro wz _
      go_simp
      all_goals with_reducible rfl
    simp only [Act.put, List.setIfInBounds_toArray, List.set_cons_zero, List.set_cons_succ, List.getElem_toArray, List.getElem_cons_zero, List.getElem_cons_succ]
    refine wpAnyL_takeS (i := 3) (v := ?_) rfl (by kernel_rfl) (by kernel_rfl) (by kernel_rfl) (by kernel_rfl) (fun _ _ _ h => h) (Or.inl ⟨by rfl, ?_⟩) (by assumption) ?_
    rotate_left 1
    · intro wz _
      go_simp
      all_goals with_reducible rfl
    simp only [Act.put, List.setIfInBounds_toArray, List.set_cons_zero, List.set_cons_succ, List.getElem_toArray, List.getElem_cons_zero, List.getElem_cons_succ]
    refine wpAnyL_take [7, 10] (i := 4) (v := ?_) rfl (by kernel_rfl) (by kernel_rfl) (by kernel_rfl) (by kernel_rfl) (fun _ _ _ h => h) (Or.inl ⟨by rfl, ?_⟩) (by assumption) ?_
    rotate_left 1
    · intro wz sb
      have y0 := HT.out wz sb.2
      go_simp
      all_goals with_reducible rfl
    simp only [Act.put, List.setIfInBounds_toArray, List.set_cons_zero, List.set_cons_succ, List.getElem_toArray, List.getElem_cons_zero, List.getElem_cons_succ]
    refine wpAnyL_take [6, 7, 10] (i := 5) (v := ?_) rfl (by kernel_rfl) (by kernel_rfl) (by kernel_rfl) (by kernel_rfl) (fun _ _ _ h => h) (Or.inl ⟨by rfl, ?_⟩) (by assumption) ?_
    rotate_left 1
    · intro wz sb
      obtain ⟨y0, y1⟩ := HU.out wz sb.2
      go_simp
      all_goals with_reducible rfl
    simp only [Act.put, List.setIfInBounds_toArray, List.set_cons_zero, List.set_cons_succ, List.getElem_toArray, List.getElem_cons_zero, List.getElem_cons_succ]
    generalize W2.drew = X0 at hHeld ⊢
    refine wpAnyL_ready (rs := [6]) (by kernel_rfl) (by simp) (AllReadyL.cons rfl (fun Q hQ => ?_) AllReadyL.nil)
    go_simp
    have hb1 : Below W2.heap.size W2 (X0.alloc (.cells #[.int .i64 s.t, .int .i64 s.c] 61)) := hHeld.2.alloc hHeld.2.size _
    have hnew := heap_alloc_new X0 (.cells #[.int .i64 s.t, .int .i64 s.c] 61)
    refine hQ.out _ _ ⟨trivial, hb1⟩ (fun hHeld2 => ?_)
    clear hQ Q hb1
    generalize X0.alloc (.cells #[.int .i64 s.t, .int .i64 s.c] 61) = X1 at *
    have hrow : X1.ownsRow w0.heap.size 61 2 K.vs (S.seen.map Sn.at_).length (spCs (S.seen.map Sn.at_)) := by
      have h0 := HP1.out.facts .vs trivial
      refine ownsRow_same h0 fun b hb => ?_
      have hb1 := (DFact.blk (p := .vs) h0 hb)
      have hlt2 : b < W2.heap.size := by
        have := HG1.out.size
        rw [← HW2.out]; simp; omega
      refine (hHeld2.2.block b hlt2).trans ?_
      rw [← HW2.out]
      refine (Below.heap_setCell w6 ⟨K.B, 11, none⟩ _ b fun e' => ?_).trans (HG1.out.block b hb1.2.1 fun e' => ?_)
      · exact HP1.out.apart (p := .vs) (q := .B) trivial trivial (fun e => by cases e) (b := b) hb (by rw [e']; rfl)
      · exact HP1.out.apart (p := .vs) (q := .ve) trivial trivial (fun e => by cases e) (b := b) hb e'.symm
    have hsz2 : W2.heap.size = w6.heap.size := by rw [← HW2.out]; simp
    have hbs : w0.heap.size ≤ X1.heap.size := by have := HP1.out.bel.size; have := HG1.out.size; have := hHeld2.2.size; omega
    obtain ⟨v2, w7, hr, ho, hg, hob⟩ := run_appT (e := s) (cs := #[.int .i64 s.t, .int .i64 s.c]) rfl hrow hnew hbs (by rw [hse]; omega) 56
    have hg2 : W2.grownBy w7 K.vs.ownBlock := grown_pre hHeld2.2 hg
    have eB2 : w7.heap[K.B]? = W2.heap[K.B]? := hg2.block K.B (by have := HP1.out.ltB; have := HG1.out.size; rw [← HW2.out]; simp; omega) fun e' => HP1.out.apart (p := .vs) (q := .B) trivial trivial (fun e => by cases e) (b := K.B) e'.symm rfl
    have c7 : w7.cell? ⟨K.B, 12, none⟩ = some (.slice sa S.seen.length sc) := (World.cell?_of_block (a := ⟨K.B, 12, none⟩) eB2).trans (HC12.out W2 (Below.refl _ _)).1
    have f7 : w7.frozen? ⟨K.B, 12, none⟩ = false := (World.frozen?_of_block (a := ⟨K.B, 12, none⟩) eB2).trans (HC12.out W2 (Below.refl _ _)).2
    rw [evs, hse] at hr
    have hmp : (S.seen ++ [e]).map Sn.at_ = S.seen.map Sn.at_ ++ [s] := by rw [List.map_append, List.map_singleton, HEA.out]
    have HR := hideIt (DoR.see (e := e) (v2 := v2) (W2 := w7) HP1.out HG1.out HO1.out (by rw [HW2.out]; exact hg2) (by rw [hmp]; exact ho))
    refine wpAnyL_ready (rs := [7]) (by kernel_rfl) (by simp) (AllReadyL.last rfl (by kernel_rfl) (fun Q' hQ => ?_) AllReadyL.nil)
    refine step_append_run (by rfl) _ _ 56 rfl _ _ v2 w7 rfl rfl hr ?_
    have HF9 := hideIt (HF1.out.trans HR.out.2)
    obtain ⟨a7, n7, cap7, rfl⟩ : ∃ a n c, v2 = .slice a n c := by
      obtain ⟨a, c, e'⟩ := ownsRow_slice ho
      exact ⟨a, _, c, e'⟩
    refine hQ.out _ _ trivial (fun _ => ?_)
    clear hQ Q' hr ho hg hg2 hob hHeld hHeld2 hnew eB2 HT HU hrow HP1 HF1 HO1 HG1 HSb HC12 HW2 hmp
    refine wpAnyL_takeE (i := 8) (v := ?_) rfl (by kernel_rfl) (by kernel_rfl) (by kernel_rfl) (by kernel_rfl) (by kernel_rfl) (fun _ _ _ h => h) (Or.inl ⟨by rfl, ?_⟩) (by assumption) ?_
    rotate_left 1
    · intro wz _
      go_simp
      all_goals with_reducible rfl
    simp only [Act.put, List.setIfInBounds_toArray, List.set_cons_zero, List.set_cons_succ, List.getElem_toArray, List.getElem_cons_zero, List.getElem_cons_succ]
    refine wpAnyL_takeE (i := 9) (v := ?_) rfl (by kernel_rfl) (by kernel_rfl) (by kernel_rfl) (by kernel_rfl) (by kernel_rfl) (fun _ _ _ h => h) (Or.inl ⟨by rfl, ?_⟩) (by assumption) ?_
    rotate_left 1
    · intro wz _
      go_simp
      all_goals with_reducible rfl
    simp only [Act.put, List.setIfInBounds_toArray, List.set_cons_zero, List.set_cons_succ, List.getElem_toArray, List.getElem_cons_zero, List.getElem_cons_succ]
    refine wpAnyL_ready (rs := [10]) (by kernel_rfl) (by simp) (AllReadyL.last rfl (by kernel_rfl) (fun Q' hQ => ?_) AllReadyL.nil)
    go_simp
    refine hQ.out _ _ trivial (fun _ => ?_)
    clear hQ Q' c7 f7
    refine wpAnyL_done (by kernel_rfl) ?_ _
    go_wp2
    go_end0
    exact ⟨rfl, _, ⟨HR.out.1, rfl, rfl, rfl, rfl, rfl⟩, HF9.out⟩

  · skip
    obtain ⟨x0, x1, x2, x3, x4, x5, x6, x7, x8, x9, x10⟩ := hcl (W.alloc (.cells #[.int .i64 s.t, .int .i64 s.c] 61)) (belA (Below.refl _ _) _)
    have c10' : (W.alloc (.cells #[.int .i64 s.t, .int .i64 s.c] 61)).cell? ⟨K.B, 10, none⟩ = some (.slice (some ⟨K.C, 0, none⟩) S.k S.k) := (HP.out.below (belA (Below.refl _ _) _)).cells.2.2.2.2.1
    rw [gw] at x2
    have hb0 : Below W.heap.size W (((W.alloc (.cells #[.int .i64 s.t, .int .i64 s.c] 61)).alloc (.cells #[.bool (S.cl i).busy, .bool (S.cl i).gone, .bool true, .bool (S.cl i).tells, .int .i64 (S.cl i).key, .int .i64 (S.cl i).value, .int .i64 (S.cl i).rd, .int .i64 (S.cl i).kept.s.t, .int .i64 (S.cl i).kept.s.c, .int .i64 (S.cl i).kept.v, .slice ra nl rc] 107)).alloc (.cells #[.int .i64 (i : Int), .int .i64 typ, .int .i64 (S.cl i).key, .int .i64 2, .int .i64 (S.cl i).value, .int .i64 0, .int .i64 res] 110)).drew := (belA (belA (belA (Below.refl _ _) _) _) _).drew
    have HV0 : Hid (DoR w0 (((W.alloc (.cells #[.int .i64 s.t, .int .i64 s.c] 61)).alloc (.cells #[.bool (S.cl i).busy, .bool (S.cl i).gone, .bool true, .bool (S.cl i).tells, .int .i64 (S.cl i).key, .int .i64 (S.cl i).value, .int .i64 (S.cl i).rd, .int .i64 (S.cl i).kept.s.t, .int .i64 (S.cl i).kept.s.c, .int .i64 (S.cl i).kept.v, .slice ra nl rc] 107)).alloc (.cells #[.int .i64 (i : Int), .int .i64 typ, .int .i64 (S.cl i).key, .int .i64 2, .int .i64 (S.cl i).value, .int .i64 0, .int .i64 res] 110)).drew K S ∧ DFr K S.k W (((W.alloc (.cells #[.int .i64 s.t, .int .i64 s.c] 61)).alloc (.cells #[.bool (S.cl i).busy, .bool (S.cl i).gone, .bool true, .bool (S.cl i).tells, .int .i64 (S.cl i).key, .int .i64 (S.cl i).value, .int .i64 (S.cl i).rd, .int .i64 (S.cl i).kept.s.t, .int .i64 (S.cl i).kept.s.c, .int .i64 (S.cl i).kept.v, .slice ra nl rc] 107)).alloc (.cells #[.int .i64 (i : Int), .int .i64 typ, .int .i64 (S.cl i).key, .int .i64 2, .int .i64 (S.cl i).value, .int .i64 0, .int .i64 res] 110)).drew K) := ⟨HP.out.below hb0, DFr.below hb0⟩
    have HVE0 : Hid ((((W.alloc (.cells #[.int .i64 s.t, .int .i64 s.c] 61)).alloc (.cells #[.bool (S.cl i).busy, .bool (S.cl i).gone, .bool true, .bool (S.cl i).tells, .int .i64 (S.cl i).key, .int .i64 (S.cl i).value, .int .i64 (S.cl i).rd, .int .i64 (S.cl i).kept.s.t, .int .i64 (S.cl i).kept.s.c, .int .i64 (S.cl i).kept.v, .slice ra nl rc] 107)).alloc (.cells #[.int .i64 (i : Int), .int .i64 typ, .int .i64 (S.cl i).key, .int .i64 2, .int .i64 (S.cl i).value, .int .i64 0, .int .i64 res] 110)).drew.heap[W.heap.size + 1 + 1]? = some (.cells #[.int .i64 (i : Int), .int .i64 typ, .int .i64 (S.cl i).key, .int .i64 2, .int .i64 (S.cl i).value, .int .i64 0, .int .i64 res] 110)) := by
      have := heap_alloc_new ((W.alloc (.cells #[.int .i64 s.t, .int .i64 s.c] 61)).alloc (.cells #[.bool (S.cl i).busy, .bool (S.cl i).gone, .bool true, .bool (S.cl i).tells, .int .i64 (S.cl i).key, .int .i64 (S.cl i).value, .int .i64 (S.cl i).rd, .int .i64 (S.cl i).kept.s.t, .int .i64 (S.cl i).kept.s.c, .int .i64 (S.cl i).kept.v, .slice ra nl rc] 107)) (.cells #[.int .i64 (i : Int), .int .i64 typ, .int .i64 (S.cl i).key, .int .i64 2, .int .i64 (S.cl i).value, .int .i64 0, .int .i64 res] 110)
      have hsz : ((W.alloc (.cells #[.int .i64 s.t, .int .i64 s.c] 61)).alloc (.cells #[.bool (S.cl i).busy, .bool (S.cl i).gone, .bool true, .bool (S.cl i).tells, .int .i64 (S.cl i).key, .int .i64 (S.cl i).value, .int .i64 (S.cl i).rd, .int .i64 (S.cl i).kept.s.t, .int .i64 (S.cl i).kept.s.c, .int .i64 (S.cl i).kept.v, .slice ra nl rc] 107)).heap.size = W.heap.size + 1 + 1 := by simp
      rw [hsz] at this
      exact this
    have HVS0 : Hid ((((W.alloc (.cells #[.int .i64 s.t, .int .i64 s.c] 61)).alloc (.cells #[.bool (S.cl i).busy, .bool (S.cl i).gone, .bool true, .bool (S.cl i).tells, .int .i64 (S.cl i).key, .int .i64 (S.cl i).value, .int .i64 (S.cl i).rd, .int .i64 (S.cl i).kept.s.t, .int .i64 (S.cl i).kept.s.c, .int .i64 (S.cl i).kept.v, .slice ra nl rc] 107)).alloc (.cells #[.int .i64 (i : Int), .int .i64 typ, .int .i64 (S.cl i).key, .int .i64 2, .int .i64 (S.cl i).value, .int .i64 0, .int .i64 res] 110)).drew.heap[W.heap.size]? = some (.cells #[.int .i64 s.t, .int .i64 s.c] 61)) := blkA (blkA (heap_alloc_new W _))
    obtain ⟨e, he⟩ : ∃ e, snOf (i : Int) (S.cl i) typ res s = e := ⟨_, rfl⟩
    have HEC : Hid ((#[.int .i64 (i : Int), .int .i64 typ, .int .i64 (S.cl i).key, .int .i64 2, .int .i64 (S.cl i).value, .int .i64 0, .int .i64 res] : Array Value).toList = snC e) := by
      show _ = _
      rw [← he]
      unfold snC snOf
      rw [gw]
      rfl
    have HEA : Hid (e.at_ = s) := by rw [← he]; rfl
    rw [he]
    clear hcl hnl hb0 he HP
    go_enter Tryz.func66, Tryz.ntmps66
    go_upto_region 4 with fail
    go_region
    go_wp2_with fail
    clear x0 x1 x2 x3 x4 x5 x6 x7 x8 x9 x10 c10' c10
    generalize (((W.alloc (.cells #[.int .i64 s.t, .int .i64 s.c] 61)).alloc (.cells #[.bool (S.cl i).busy, .bool (S.cl i).gone, .bool true, .bool (S.cl i).tells, .int .i64 (S.cl i).key, .int .i64 (S.cl i).value, .int .i64 (S.cl i).rd, .int .i64 (S.cl i).kept.s.t, .int .i64 (S.cl i).kept.s.c, .int .i64 (S.cl i).kept.v, .slice ra nl rc] 107)).alloc (.cells #[.int .i64 (i : Int), .int .i64 typ, .int .i64 (S.cl i).key, .int .i64 2, .int .i64 (S.cl i).value, .int .i64 0, .int .i64 res] 110)).drew = V at *
    have HV := HV0
    have HVE := HVE0
    have HVS := HVS0
    clear HV0 HVE0 HVS0
    obtain ⟨va, vc, eve⟩ := ownsRow_slice (HV.out.1.facts .ve trivial)
    obtain ⟨sa, sc, evs⟩ := ownsRow_slice (HV.out.1.facts .vs trivial)
    have hse : (S.seen.map Sn.at_).length = S.seen.length := by simp
    have HT : Hid (∀ Z, Below V.heap.size V Z → Z.cell? ⟨K.B, 11, none⟩ = some (.slice va S.seen.length vc)) := fun Z hZ => by
      rw [← eve]; exact (HV.out.1.below hZ).cells.2.2.2.2.2.1
    have HU : Hid (∀ Z, Below V.heap.size V Z → Z.cell? ⟨W.heap.size + 1 + 1, 0, none⟩ = some (.int .i64 (i : Int)) ∧ Z.cell? ⟨W.heap.size + 1 + 1, 1, none⟩ = some (.int .i64 typ) ∧ Z.cell? ⟨W.heap.size + 1 + 1, 2, none⟩ = some (.int .i64 (S.cl i).key) ∧ Z.cell? ⟨W.heap.size + 1 + 1, 3, none⟩ = some (.int .i64 2) ∧ Z.cell? ⟨W.heap.size + 1 + 1, 4, none⟩ = some (.int .i64 (S.cl i).value) ∧ Z.cell? ⟨W.heap.size + 1 + 1, 5, none⟩ = some (.int .i64 0) ∧ Z.cell? ⟨W.heap.size + 1 + 1, 6, none⟩ = some (.int .i64 res)) := fun Z hZ => by
      have hb := (hZ.block (W.heap.size + 1 + 1) (lt_of_heap HVE.out)).trans HVE.out
      have hcc := fun i => cell_of_row Z (W.heap.size + 1 + 1) i _ 110 _ hb
      exact ⟨by rw [hcc]; rfl, by rw [hcc]; rfl, by rw [hcc]; rfl, by rw [hcc]; rfl, by rw [hcc]; rfl, by rw [hcc]; rfl, by rw [hcc]; rfl⟩
    refine wp_region_L (B := [7, 10]) (S := fun _ => True) (T := fun Z => Below V.heap.size V Z) (by kernel_rfl) ⟨trivial, (Below.refl _ _).drew⟩ (fun hHeld => ?_)
    refine wpAnyL_takeS (i := 0) (v := ?_) rfl (by kernel_rfl) (by kernel_rfl) (by kernel_rfl) (by kernel_rfl) (fun _ _ _ h => h) (Or.inl ⟨by rfl, ?_⟩) (by assumption) ?_
    rotate_left 1
    · intro wz _
      go_simp
      all_goals with_reducible rfl
    simp only [Act.put, List.setIfInBounds_toArray, List.set_cons_zero, List.set_cons_succ, List.getElem_toArray, List.getElem_cons_zero]
    refine wpAnyL_takeS (i := 1) (v := ?_) rfl (by kernel_rfl) (by kernel_rfl) (by kernel_rfl) (by kernel_rfl) (fun _ _ _ h => h) (Or.inl ⟨by rfl, ?_⟩) (by assumption) ?_
    rotate_left 1
    · intro wz _
      go_simp
      all_goals with_reducible rfl
    simp only [Act.put, List.setIfInBounds_toArray, List.set_cons_zero, List.set_cons_succ, List.getElem_toArray, List.getElem_cons_zero, List.getElem_cons_succ]
    refine wpAnyL_takeS (i := 2) (v := ?_) rfl (by kernel_rfl) (by kernel_rfl) (by kernel_rfl) (by kernel_rfl) (fun _ _ _ h => h) (Or.inl ⟨by rfl, ?_⟩) (by assumption) ?_
    rotate_left 1
    · intro wz _
      go_simp
      all_goals with_reducible rfl
    simp only [Act.put, List.setIfInBounds_toArray, List.set_cons_zero, List.set_cons_succ, List.getElem_toArray, List.getElem_cons_zero, List.getElem_cons_succ]
    refine wpAnyL_takeS (i := 3) (v := ?_) rfl (by kernel_rfl) (by kernel_rfl) (by kernel_rfl) (by kernel_rfl) (fun _ _ _ h => h) (Or.inl ⟨by rfl, ?_⟩) (by assumption) ?_
    rotate_left 1
    · intro wz _
      go_simp
      all_goals with_reducible rfl
    simp only [Act.put, List.setIfInBounds_toArray, List.set_cons_zero, List.set_cons_succ, List.getElem_toArray, List.getElem_cons_zero, List.getElem_cons_succ]
    refine wpAnyL_take [7, 10] (i := 4) (v := ?_) rfl (by kernel_rfl) (by kernel_rfl) (by kernel_rfl) (by kernel_rfl) (fun _ _ _ h => h) (Or.inl ⟨by rfl, ?_⟩) (by assumption) ?_
    rotate_left 1
    · intro wz sb
      have y0 := HT.out wz sb.2
      go_simp
      all_goals with_reducible rfl
    simp only [Act.put, List.setIfInBounds_toArray, List.set_cons_zero, List.set_cons_succ, List.getElem_toArray, List.getElem_cons_zero, List.getElem_cons_succ]
    refine wpAnyL_take [6, 7, 10] (i := 5) (v := ?_) rfl (by kernel_rfl) (by kernel_rfl) (by kernel_rfl) (by kernel_rfl) (fun _ _ _ h => h) (Or.inl ⟨by rfl, ?_⟩) (by assumption) ?_
    rotate_left 1
    · intro wz sb
      obtain ⟨y0, y1, y2, y3, y4, y5, y6⟩ := HU.out wz sb.2
      go_simp
      all_goals with_reducible rfl
    simp only [Act.put, List.setIfInBounds_toArray, List.set_cons_zero, List.set_cons_succ, List.getElem_toArray, List.getElem_cons_zero, List.getElem_cons_succ]
    generalize V.drew = Y0 at hHeld ⊢
    refine wpAnyL_ready (rs := [6]) (by kernel_rfl) (by simp) (AllReadyL.cons rfl (fun Q hQ => ?_) AllReadyL.nil)
    go_simp
    have hb1 : Below V.heap.size V (Y0.alloc (.cells #[.int .i64 (i : Int), .int .i64 typ, .int .i64 (S.cl i).key, .int .i64 2, .int .i64 (S.cl i).value, .int .i64 0, .int .i64 res] 110)) := hHeld.2.alloc hHeld.2.size _
    have hnew := heap_alloc_new Y0 (.cells #[.int .i64 (i : Int), .int .i64 typ, .int .i64 (S.cl i).key, .int .i64 2, .int .i64 (S.cl i).value, .int .i64 0, .int .i64 res] 110)
    refine hQ.out _ _ ⟨trivial, hb1⟩ (fun hHeld2 => ?_)
    clear hQ Q hb1
    generalize Y0.alloc (.cells #[.int .i64 (i : Int), .int .i64 typ, .int .i64 (S.cl i).key, .int .i64 2, .int .i64 (S.cl i).value, .int .i64 0, .int .i64 res] 110) = Y1 at *
    have hP := HV.out.1.below hHeld2.2
    have hF := HV.out.2.trans (DFr.below hHeld2.2)
    obtain ⟨v1, w6, hr, ho, hg, hob⟩ := run_appN (e := e) (cs := #[.int .i64 (i : Int), .int .i64 typ, .int .i64 (S.cl i).key, .int .i64 2, .int .i64 (S.cl i).value, .int .i64 0, .int .i64 res]) HEC.out (hP.facts .ve trivial) hnew hP.bel.size (by omega) 55
    have eB : w6.heap[K.B]? = Y1.heap[K.B]? := hg.block K.B hP.ltB fun e' => hP.apart (p := .ve) (q := .B) trivial trivial (fun e => by cases e) (b := K.B) e'.symm rfl
    have c6 : w6.cell? ⟨K.B, 11, none⟩ = some (.slice va S.seen.length vc) := by
      rw [World.cell?_of_block (a := ⟨K.B, 11, none⟩) eB, ← eve]; exact hP.cells.2.2.2.2.2.1
    have c612 : w6.cell? ⟨K.B, 12, none⟩ = some K.vs := (World.cell?_of_block (a := ⟨K.B, 12, none⟩) eB).trans hP.cells.2.2.2.2.2.2
    have f6 : w6.frozen? ⟨K.B, 11, none⟩ = false := (World.frozen?_of_block (a := ⟨K.B, 11, none⟩) eB).trans (hP.fzB 11)
    have f612 : w6.frozen? ⟨K.B, 12, none⟩ = false := (World.frozen?_of_block (a := ⟨K.B, 12, none⟩) eB).trans (hP.fzB 12)
    have hSb : w6.heap[W.heap.size]? = some (.cells #[.int .i64 s.t, .int .i64 s.c] 61) := by
      refine (hg.block W.heap.size (Nat.lt_of_lt_of_le (lt_of_heap HVS.out) hHeld2.2.size) fun e' => ?_).trans ((hHeld2.2.block W.heap.size (lt_of_heap HVS.out)).trans HVS.out)
      have h1 := ((hP.facts .ve trivial).blk e'.symm).2.2
      rw [hHeld2.2.block W.heap.size (lt_of_heap HVS.out), HVS.out] at h1
      exact absurd (show (62 : Nat) = 111 from h1) (by decide)
    replace hr : (Builtin.append_ #[55, 55] 55 #[K.ve, .slice (some ⟨Y0.heap.size, 0, none⟩) 1 1]).run Tryz.prog Y1 = .ok v1 w6 := hr
    rw [eve] at hr
    refine wpAnyL_ready (rs := [7]) (by kernel_rfl) (by simp) (AllReadyL.last rfl (by kernel_rfl) (fun Q' hQ => ?_) AllReadyL.nil)
    refine step_append_run (by rfl) _ _ 55 rfl _ _ v1 w6 rfl rfl hr ?_
    have HP1 := hideIt hP
    have HF1 := hideIt hF
    have HO1 := hideIt ho
    have HG1 := hideIt hg
    have HSb : Hid ((w6.setCell ⟨K.B, 11, none⟩ v1).heap[W.heap.size]? = some (.cells #[.int .i64 s.t, .int .i64 s.c] 61)) := by
      refine (Below.heap_setCell w6 ⟨K.B, 11, none⟩ v1 W.heap.size fun e' => ?_).trans hSb
      have e2 : W.heap.size = K.B := e'
      rw [e2, eB, (hP.facts .B trivial).1] at hSb
      exact absurd hSb (by unfold doO; intro h; injection h with h; injection h with _ h2; exact absurd h2 (by decide))
    have HC12 : Hid (∀ Z, Below (w6.setCell ⟨K.B, 11, none⟩ v1).heap.size (w6.setCell ⟨K.B, 11, none⟩ v1) Z → Z.cell? ⟨K.B, 12, none⟩ = some (.slice sa S.seen.length sc) ∧ Z.frozen? ⟨K.B, 12, none⟩ = false) := fun Z hZ => by
      have hlt : K.B < (w6.setCell ⟨K.B, 11, none⟩ v1).heap.size := by have := hP.ltB; have := hg.size; simp; omega
      have e12 : (w6.setCell ⟨K.B, 11, none⟩ v1).cell? ⟨K.B, 12, none⟩ = w6.cell? ⟨K.B, 12, none⟩ := World.cell?_setCell_other _ _ _ _ (offNe (by decide))
      obtain ⟨cur, hcur⟩ : ∃ cur, w6.heap[K.B]? = some (.cells cur 58 (0, 0)) := ⟨_, eB.trans (hP.facts .B trivial).1⟩
      obtain ⟨cur', hcur', _⟩ := heap_setCell hcur 11 v1
      refine ⟨?_, frozen_of_row _ _ _ _ 58 ((hZ.block K.B hlt).trans hcur')⟩
      rw [hZ.cell (p := ⟨K.B, 12, none⟩) hlt, e12, c612, evs, hse]
    obtain ⟨a6, n6, cap6, rfl⟩ : ∃ a n c, v1 = .slice a n c := by
      obtain ⟨a, c, e'⟩ := ownsRow_slice ho
      exact ⟨a, _, c, e'⟩
    refine hQ.out _ _ trivial (fun _ => ?_)
    clear hQ Q' hr ho hg hob hP hF hHeld hHeld2 hnew eB HT HU hSb c612 f612 HV HVE HVS
    refine wpAnyL_takeE (i := 8) (v := ?_) rfl (by kernel_rfl) (by kernel_rfl) (by kernel_rfl) (by kernel_rfl) (by kernel_rfl) (fun _ _ _ h => h) (Or.inl ⟨by rfl, ?_⟩) (by assumption) ?_
    rotate_left 1
    · intro wz _
      go_simp
      all_goals with_reducible rfl
    simp only [Act.put, List.setIfInBounds_toArray, List.set_cons_zero, List.set_cons_succ, List.getElem_toArray, List.getElem_cons_zero, List.getElem_cons_succ]
    refine wpAnyL_takeE (i := 9) (v := ?_) rfl (by kernel_rfl) (by kernel_rfl) (by kernel_rfl) (by kernel_rfl) (by kernel_rfl) (fun _ _ _ h => h) (Or.inl ⟨by rfl, ?_⟩) (by assumption) ?_
    rotate_left 1
    · intro wz _
      go_simp
      all_goals with_reducible rfl
    simp only [Act.put, List.setIfInBounds_toArray, List.set_cons_zero, List.set_cons_succ, List.getElem_toArray, List.getElem_cons_zero, List.getElem_cons_succ]
    refine wpAnyL_ready (rs := [10]) (by kernel_rfl) (by simp) (AllReadyL.last rfl (by kernel_rfl) (fun Q' hQ => ?_) AllReadyL.nil)
    go_simp
    refine hQ.out _ _ trivial (fun _ => ?_)
    clear hQ Q' c6 f6
    refine wpAnyL_done (by kernel_rfl) ?_ _
    go_wp2_with fail
    generalize hW2 : w6.setCell ⟨K.B, 11, none⟩ (.slice a6 n6 cap6) = W2 at *
    have HT : Hid (∀ Z, Below W2.heap.size W2 Z → Z.cell? ⟨K.B, 12, none⟩ = some (.slice sa S.seen.length sc)) := fun Z hZ => (HC12.out Z hZ).1
    have HU : Hid (∀ Z, Below W2.heap.size W2 Z → Z.cell? ⟨W.heap.size, 0, none⟩ = some (.int .i64 s.t) ∧ Z.cell? ⟨W.heap.size, 1, none⟩ = some (.int .i64 s.c)) := fun Z hZ => blkSp ((hZ.block W.heap.size (lt_of_heap HSb.out)).trans HSb.out)
    have HW2 := hideIt hW2
    clear hW2
    refine wp_region_L (B := [7, 10]) (S := fun _ => True) (T := fun Z => Below W2.heap.size W2 Z) (by kernel_rfl) ⟨trivial, (Below.refl _ _).drew⟩ (fun hHeld => ?_)
    refine wpAnyL_takeS (i := 0) (v := ?_) rfl (by kernel_rfl) (by kernel_rfl) (by kernel_rfl) (by kernel_rfl) (fun _ _ _ h => h) (Or.inl ⟨by rfl, ?_⟩) (by assumption) ?_
    rotate_left 1
    · intro wz _
      go_simp
      all_goals with_reducible rfl
    simp only [Act.put, List.setIfInBounds_toArray, List.set_cons_zero, List.set_cons_succ, List.getElem_toArray, List.getElem_cons_zero]
    refine wpAnyL_takeS (i := 1) (v := ?_) rfl (by kernel_rfl) (by kernel_rfl) (by kernel_rfl) (by kernel_rfl) (fun _ _ _ h => h) (Or.inl ⟨by rfl, ?_⟩) (by assumption) ?_
    rotate_left 1
    · intro wz _
      go_simp
      all_goals with_reducible rfl
    simp only [Act.put, List.setIfInBounds_toArray, List.set_cons_zero, List.set_cons_succ, List.getElem_toArray, List.getElem_cons_zero, List.getElem_cons_succ]
    refine wpAnyL_takeS (i := 2) (v := ?_) rfl (by kernel_rfl) (by kernel_rfl) (by kernel_rfl) (by kernel_rfl) (fun _ _ _ h => h) (Or.inl ⟨by rfl, ?_⟩) (by assumption) ?_
    rotate_left 1
    · intro wz _
      go_simp
      all_goals with_reducible rfl
    simp only [Act.put, List.setIfInBounds_toArray, List.set_cons_zero, List.set_cons_succ, List.getElem_toArray, List.getElem_cons_zero, List.getElem_cons_succ]
    refine wpAnyL_takeS (i := 3) (v := ?_) rfl (by kernel_rfl) (by kernel_rfl) (by kernel_rfl) (by kernel_rfl) (fun _ _ _ h => h) (Or.inl ⟨by rfl, ?_⟩) (by assumption) ?_
    rotate_left 1
    · intro wz _
      go_simp
      all_goals with_reducible rfl
    simp only [Act.put, List.setIfInBounds_toArray, List.set_cons_zero, List.set_cons_succ, List.getElem_toArray, List.getElem_cons_zero, List.getElem_cons_succ]
    refine wpAnyL_take [7, 10] (i := 4) (v := ?_) rfl (by kernel_rfl) (by kernel_rfl) (by kernel_rfl) (by kernel_rfl) (fun _ _ _ h => h) (Or.inl ⟨by rfl, ?_⟩) (by assumption) ?_
    rotate_left 1
    · intro wz sb
      have y0 := HT.out wz sb.2
      go_simp
      all_goals with_reducible rfl
    simp only [Act.put, List.setIfInBounds_toArray, List.set_cons_zero, List.set_cons_succ, List.getElem_toArray, List.getElem_cons_zero, List.getElem_cons_succ]
    refine wpAnyL_take [6, 7, 10] (i := 5) (v := ?_) rfl (by kernel_rfl) (by kernel_rfl) (by kernel_rfl) (by kernel_rfl) (fun _ _ _ h => h) (Or.inl ⟨by rfl, ?_⟩) (by assumption) ?_
    rotate_left 1
    · intro wz sb
      obtain ⟨y0, y1⟩ := HU.out wz sb.2
      go_simp
      all_goals with_reducible rfl
    simp only [Act.put, List.setIfInBounds_toArray, List.set_cons_zero, List.set_cons_succ, List.getElem_toArray, List.getElem_cons_zero, List.getElem_cons_succ]
    generalize W2.drew = X0 at hHeld ⊢
    refine wpAnyL_ready (rs := [6]) (by kernel_rfl) (by simp) (AllReadyL.cons rfl (fun Q hQ => ?_) AllReadyL.nil)
    go_simp
    have hb1 : Below W2.heap.size W2 (X0.alloc (.cells #[.int .i64 s.t, .int .i64 s.c] 61)) := hHeld.2.alloc hHeld.2.size _
    have hnew := heap_alloc_new X0 (.cells #[.int .i64 s.t, .int .i64 s.c] 61)
    refine hQ.out _ _ ⟨trivial, hb1⟩ (fun hHeld2 => ?_)
    clear hQ Q hb1
    generalize X0.alloc (.cells #[.int .i64 s.t, .int .i64 s.c] 61) = X1 at *
    have hrow : X1.ownsRow w0.heap.size 61 2 K.vs (S.seen.map Sn.at_).length (spCs (S.seen.map Sn.at_)) := by
      have h0 := HP1.out.facts .vs trivial
      refine ownsRow_same h0 fun b hb => ?_
      have hb1 := (DFact.blk (p := .vs) h0 hb)
      have hlt2 : b < W2.heap.size := by
        have := HG1.out.size
        rw [← HW2.out]; simp; omega
      refine (hHeld2.2.block b hlt2).trans ?_
      rw [← HW2.out]
      refine (Below.heap_setCell w6 ⟨K.B, 11, none⟩ _ b fun e' => ?_).trans (HG1.out.block b hb1.2.1 fun e' => ?_)
      · exact HP1.out.apart (p := .vs) (q := .B) trivial trivial (fun e => by cases e) (b := b) hb (by rw [e']; rfl)
      · exact HP1.out.apart (p := .vs) (q := .ve) trivial trivial (fun e => by cases e) (b := b) hb e'.symm
    have hsz2 : W2.heap.size = w6.heap.size := by rw [← HW2.out]; simp
    have hbs : w0.heap.size ≤ X1.heap.size := by have := HP1.out.bel.size; have := HG1.out.size; have := hHeld2.2.size; omega
    obtain ⟨v2, w7, hr, ho, hg, hob⟩ := run_appT (e := s) (cs := #[.int .i64 s.t, .int .i64 s.c]) rfl hrow hnew hbs (by rw [hse]; omega) 56
    have hg2 : W2.grownBy w7 K.vs.ownBlock := grown_pre hHeld2.2 hg
    have eB2 : w7.heap[K.B]? = W2.heap[K.B]? := hg2.block K.B (by have := HP1.out.ltB; have := HG1.out.size; rw [← HW2.out]; simp; omega) fun e' => HP1.out.apart (p := .vs) (q := .B) trivial trivial (fun e => by cases e) (b := K.B) e'.symm rfl
    have c7 : w7.cell? ⟨K.B, 12, none⟩ = some (.slice sa S.seen.length sc) := (World.cell?_of_block (a := ⟨K.B, 12, none⟩) eB2).trans (HC12.out W2 (Below.refl _ _)).1
    have f7 : w7.frozen? ⟨K.B, 12, none⟩ = false := (World.frozen?_of_block (a := ⟨K.B, 12, none⟩) eB2).trans (HC12.out W2 (Below.refl _ _)).2
    rw [evs, hse] at hr
    have hmp : (S.seen ++ [e]).map Sn.at_ = S.seen.map Sn.at_ ++ [s] := by rw [List.map_append, List.map_singleton, HEA.out]
    have HR := hideIt (DoR.see (e := e) (v2 := v2) (W2 := w7) HP1.out HG1.out HO1.out (by rw [HW2.out]; exact hg2) (by rw [hmp]; exact ho))
    refine wpAnyL_ready (rs := [7]) (by kernel_rfl) (by simp) (AllReadyL.last rfl (by kernel_rfl) (fun Q' hQ => ?_) AllReadyL.nil)
    refine step_append_run (by rfl) _ _ 56 rfl _ _ v2 w7 rfl rfl hr ?_
    have HF9 := hideIt (HF1.out.trans HR.out.2)
    obtain ⟨a7, n7, cap7, rfl⟩ : ∃ a n c, v2 = .slice a n c := by
      obtain ⟨a, c, e'⟩ := ownsRow_slice ho
      exact ⟨a, _, c, e'⟩
    refine hQ.out _ _ trivial (fun _ => ?_)
    clear hQ Q' hr ho hg hg2 hob hHeld hHeld2 hnew eB2 HT HU hrow HP1 HF1 HO1 HG1 HSb HC12 HW2 hmp
    refine wpAnyL_takeE (i := 8) (v := ?_) rfl (by kernel_rfl) (by kernel_rfl) (by kernel_rfl) (by kernel_rfl) (by kernel_rfl) (fun _ _ _ h => h) (Or.inl ⟨by rfl, ?_⟩) (by assumption) ?_
    rotate_left 1
    · intro wz _
      go_simp
      all_goals with_reducible rfl
    simp only [Act.put, List.setIfInBounds_toArray, List.set_cons_zero, List.set_cons_succ, List.getElem_toArray, List.getElem_cons_zero, List.getElem_cons_succ]
    refine wpAnyL_takeE (i := 9) (v := ?_) rfl (by kernel_rfl) (by kernel_rfl) (by kernel_rfl) (by kernel_rfl) (by kernel_rfl) (fun _ _ _ h => h) (Or.inl ⟨by rfl, ?_⟩) (by assumption) ?_
    rotate_left 1
    · intro wz _
      go_simp
      all_goals with_reducible rfl
    simp only [Act.put, List.setIfInBounds_toArray, List.set_cons_zero, List.set_cons_succ, List.getElem_toArray, List.getElem_cons_zero, List.getElem_cons_succ]
    refine wpAnyL_ready (rs := [10]) (by kernel_rfl) (by simp) (AllReadyL.last rfl (by kernel_rfl) (fun Q' hQ => ?_) AllReadyL.nil)
    go_simp
    refine hQ.out _ _ trivial (fun _ => ?_)
    clear hQ Q' c7 f7
    refine wpAnyL_done (by kernel_rfl) ?_ _
    go_wp2
    go_end0
    exact ⟨rfl, _, ⟨HR.out.1, rfl, rfl, rfl, rfl, rfl⟩, HF9.out⟩

end
end Go.Proofs.YtncnojgemmcplaaGreatDoor.St.Dc
