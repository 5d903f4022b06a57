/-
  gen.Parse.
-/
import Derived.Test.YthblokfiojccmaaGreatDoorRdG
namespace Go.Proofs.YthblokfiojccmaaGreatDoor.Gn
open Go.RowKit

theorem sgs_mem : ∀ (n : Nat) (l t : Bt), t ∈ sgs n l → t ≠ [] ∧ t.length ≤ l.length
  | 0, _, _, h => by simp [sgs] at h
  | n + 1, [], _, h => by simp [sgs] at h
  | n + 1, c :: l, t, h => by
    have hp := sgLen_pos (l := c :: l) (by simp)
    simp only [sgs] at h
    split at h
    · have := sgs_mem n l t h
      exact ⟨this.1, Nat.le_trans this.2 (by simp)⟩
    · rcases List.mem_cons.1 h with e | e
      · subst e
        refine ⟨fun e => ?_, by rw [List.length_take]; omega⟩
        have := congrArg List.length e
        simp only [List.length_take, List.length_nil, List.length_cons] at this hp
        omega
      · have := sgs_mem n _ t e
        exact ⟨this.1, Nat.le_trans this.2 (by simp)⟩
theorem sgs_len : ∀ (n : Nat) (l : Bt), (sgs n l).length ≤ l.length
  | 0, _ => by simp [sgs]
  | n + 1, [] => by simp [sgs]
  | n + 1, c :: l => by
    have hp := sgLen_pos (l := c :: l) (by simp)
    simp only [sgs]
    split
    · have := sgs_len n l
      simp; omega
    · have := sgs_len n ((c :: l).drop (sgLen (c :: l)))
      simp only [List.length_drop, List.length_cons] at this hp ⊢
      omega
theorem sgEnd_of (l : Bt) : SgEnd (sgs l.length l ++ [[]]) := ⟨fun a ha => by
  simp only [List.length_append, List.length_cons, List.length_nil] at ha ⊢
  constructor
  · intro h
    apply Classical.byContradiction
    intro hn
    have hl : a < (sgs l.length l).length := by omega
    rw [List.getD_eq_getElem?_getD, List.getElem?_append_left hl, List.getElem?_eq_getElem hl] at h
    exact (sgs_mem _ _ _ (List.getElem_mem hl)).1 h
  · intro h
    have : a = (sgs l.length l).length := by omega
    rw [List.getD_eq_getElem?_getD, this, List.getElem?_append_right (Nat.le_refl _)]
    simp⟩

theorem sgCs_at : ∀ (ps : List (Bt × Nat)) (i : Nat) (h : i < ps.length), (sgCs ps)[i * 2]? = some (.string (ba ps[i].1)) ∧ (sgCs ps)[i * 2 + 1]? = some (.int .i64 (ps[i].2 : Nat))
  | [], _, h => absurd h (Nat.not_lt_zero _)
  | p :: ps, 0, _ => ⟨rfl, rfl⟩
  | p :: ps, i + 1, h => by
    have ih := sgCs_at ps i (by simpa using h)
    have e : sgCs (p :: ps) = .string (ba p.1) :: .int .i64 (p.2 : Nat) :: sgCs ps := rfl
    rw [e, show (i + 1) * 2 = i * 2 + 2 by omega, show i * 2 + 2 + 1 = (i * 2 + 1) + 2 by omega]
    exact ih

/-- What Parse tells. -/
def PsTold (l : Bt) (w : World) (e : Ending) (w' : World) : Prop :=
  (∃ g v bs, parseF l = some g ∧ e = .returned (.tuple #[v, .nilIface]) ∧ GAt 20 w' w.heap.size v g bs ∧ Fr [] w w') ∨
  (parseF l = none ∧ ∃ T x, e = .returned (.tuple #[.nilIface, .iface T x]) ∧ Fr [] w w')

set_option maxHeartbeats 4000000 in
theorem parse_long (l : Bt) (w : World) (hl : 2000 < l.length) : Calls Tryz.prog 5 #[.string (ba l)] w (PsTold l w) := by
  have hsz := ba_size l
  have hN : parseF l = none := by unfold parseF; rw [if_pos hl]
  have HN := hideIt hN
  have hl' : (2000 : Int) < (l.length : Int) := by omega
  clear hN
  go_enter Tryz.func5, Tryz.ntmps5
  go_wp2
  go_ret2
  exact .inr ⟨HN.out, _, _, rfl, Fr.refl _ _⟩

theorem fr_nil_of_new {w w' : World} {R : Nat} (h : Fr [R] w w') (hR : w.heap.size ≤ R) : Fr [] w w' :=
  ⟨h.os, h.tape, h.output, h.size, fun k hk _ => h.block k hk (by simp; omega)⟩

theorem Fr.new2 {w w1 w' : World} {R : Nat} (h : Fr [] w w1) (k : Fr [R] w1 w') (hR : w.heap.size ≤ R) : Fr [] w w' :=
  fr_nil_of_new ((h.more (Y := [R]) (by simp)).trans k) hR

set_option maxHeartbeats 8000000 in
set_option maxRecDepth 100000 in
theorem parse_any (l : Bt) (w : World) (hv : ErrV w) : Calls Tryz.prog 5 #[.string (ba l)] w (PsTold l w) := by
  by_cases hl : 2000 < l.length
  · exact parse_long l w hl
  have hsz := ba_size l
  have hl' : ¬ (2000 : Int) < (l.length : Int) := by omega
  have HS := hideIt (signsOf_any l w (by omega))
  have HV := hideIt hv
  have HVl := hideIt hv.lt
  clear hv
  go_enter Tryz.func5, Tryz.ntmps5
  go_wp2_with fail
  refine HS.out.mono ?_
  rintro y w1 ⟨S, cap, ps, hret, hrow, htxt, hbel⟩
  subst hret
  obtain ⟨L, hL⟩ : ∃ L, sgs l.length l ++ [[]] = L := ⟨_, rfl⟩
  have hpl : ps.length = L.length := by rw [← hL, ← htxt, List.length_map]
  rw [hpl]
  have hfew : L.length ≤ 2001 := by rw [← hL, List.length_append]; have := sgs_len l.length l; simp; omega
  have hE : SgEnd L := by rw [← hL]; exact sgEnd_of l
  have hP : parseF l = match gF 20 L with
      | none => none
      | some r => if r.s.headD [] = [] then some r.g else none := by unfold parseF; rw [if_neg hl, hL]; rfl
  have hSlt : S < w1.heap.size := by
    rcases hrow.2 with ⟨e, _⟩ | ⟨g, c, cur, e, _, e2, _⟩
    · cases e
    · injection e with e _ _; injection e with e; injection e with e _; rw [e]; exact (Array.getElem?_eq_some_iff.1 e2).1
  have hRd : RdAt (w1.alloc (.cells #[.slice (some ⟨S, 0, none⟩) L.length cap, .int .i64 0, .int .i64 0] 64)) w1.heap.size S L 0 0 := by
    have hnew := heap_new w1 (.cells #[.slice (some ⟨S, 0, none⟩) L.length cap, .int .i64 0, .int .i64 0] 64)
    have hold : (w1.alloc (.cells #[.slice (some ⟨S, 0, none⟩) L.length cap, .int .i64 0, .int .i64 0] 64)).heap[S]? = w1.heap[S]? := Below.heap_alloc _ _ _ hSlt
    refine ⟨⟨cap, by rw [cell_of_row _ _ _ _ _ _ hnew]; rfl, ?_⟩, by rw [cell_of_row _ _ _ _ _ _ hnew]; rfl, by rw [cell_of_row _ _ _ _ _ _ hnew]; rfl, frozen_of_row _ _ _ _ _ hnew, frozen_of_row _ _ _ _ _ hnew, fun i hi => ?_, by rw [← hL, List.length_append]; simp, hfew, by omega⟩
    · rcases hrow.2 with ⟨e, _⟩ | ⟨g, c, cur, e, _, _, e3, _⟩
      · cases e
      · injection e with _ _ e; rw [e, ← hpl]; exact e3
    · have hi2 : i < ps.length := by omega
      obtain ⟨k1, k2⟩ := sgCs_at ps i hi2
      have hx : ps[i].1 = L[i] := by
        have h1 : (ps.map (·.1))[i]? = L[i]? := by rw [htxt, hL]
        rw [List.getElem?_map, List.getElem?_eq_getElem hi2, List.getElem?_eq_getElem hi] at h1
        exact Option.some.inj h1
      exact ⟨((World.cell?_of_block (a := ⟨S, i * 2, none⟩) hold).trans (hrow.cellAt (i * 2) (by omega))).trans (by rw [k1, hx]), _, ((World.cell?_of_block (a := ⟨S, i * 2 + 1, none⟩) hold).trans (hrow.cellAt (i * 2 + 1) (by omega))).trans k2⟩
  have hEnv : RdEnv (w1.alloc (.cells #[.slice (some ⟨S, 0, none⟩) L.length cap, .int .i64 0, .int .i64 0] 64)) w1.heap.size L := by
    have hvl := HVl.out
    have hws := hbel.size
    have hFr : Fr [] w (w1.alloc (.cells #[.slice (some ⟨S, 0, none⟩) L.length cap, .int .i64 0, .int .i64 0] 64)) := (fr_below hbel []).trans (Fr.alloc _ _ _)
    refine ⟨HV.out.fr hFr (by simp) (by simp), by omega, by omega, fun t ht => ?_⟩
    rw [← hL] at ht
    rcases List.mem_append.1 ht with h | h
    · have := (sgs_mem _ _ _ h).2; omega
    · simp at h; subst h; simp
  have HFr1 : Hid (Fr [] w w1) := hideIt (fr_below hbel [])
  have HG := hideIt ((genOk 20).ok w.heap.size _ _ _ _ _ hRd hEnv hE (by have := hbel.size; simp; omega) (Nat.le_refl _))
  rw [show ((20 - 20 : Nat) : Int) = 0 from rfl] at HG
  have HP := hideIt hP
  have hws := hbel.size
  clear hRd hEnv hbel hrow htxt hP HS
  go_wp2_with fail
  refine HG.out.mono ?_
  rintro y w2 htold
  have htold2 : ∃ v a' fl', y = .returned v ∧ IfV v ∧ RdAt w2 w1.heap.size S L a' fl' ∧ Fr [w1.heap.size] (w1.alloc (.cells #[.slice (some ⟨S, 0, none⟩) L.length cap, .int .i64 0, .int .i64 0] 64)) w2 ∧
      ((∃ r bs, gF 20 L = some r ∧ fl' = 0 ∧ L.drop a' = r.s ∧ GAt 20 w2 w.heap.size v r.g bs ∧ ∀ b ∈ bs, w1.heap.size < b) ∨ (gF 20 L = none ∧ fl' ≠ 0)) := by
    rcases htold with ⟨r, v, a', bs, k1, rfl, k2, k3, k4, k5, k6, k7⟩ | ⟨v, a', fl', k1, rfl, k2, k3, k4, k5⟩
    · exact ⟨v, a', 0, rfl, k5.ifv, k2, k7, .inl ⟨r, bs, k1, rfl, k3, k5, fun b hb => by have := k6 b hb; simp at this; omega⟩⟩
    · exact ⟨v, a', fl', rfl, k2, k4, k5, .inr ⟨k1, k3⟩⟩
  obtain ⟨v, a', fl', rfl, hiv, h2, hf2, hcase⟩ := htold2
  have hX := expect_any w2 w1.heap.size S L a' fl' [] h2
  have HF2 : Hid (Fr [] w w2) := hideIt (HFr1.out.trans (fr_nil_of_new ((Fr.alloc _ _ _).trans hf2) (Nat.le_refl _)))
  have hw2 := hf2.size
  have hSlt2 := h2.lt
  rcases hcase with ⟨r, bs, k1, rfl, k3, k5, k6⟩ | ⟨k1, k2⟩
  · have hh : r.s.headD [] = L.getD a' [] := by rw [← k3, drop_get h2.lt]; rfl
    by_cases ht : L.getD a' [] = []
    · have hp : parseF l = some r.g := by rw [HP.out, k1]; simp only [hh, ht, if_true]
      have hx : expS L [] a' 0 = (passS L.length a' 0, 0) := by unfold expS; rw [if_pos ht]
      rw [hx] at hX
      have HX := hideIt hX
      have HPr := hideIt hp
      have HGt := hideIt k5
      have HK6 := hideIt k6
      clear h2 hf2 hX hp hx k1 k3 k5 hh ht k6 HG HP
      rcases hiv with rfl | ⟨T1, x1, rfl⟩
      all_goals (
        go_wp2_with fail
        refine HX.out.mono ?_
        rintro y w3 ⟨rfl, h3, hf3⟩
        have c2 := h3.c2
        have HGt3 := hideIt (HGt.out.fr hf3 (fun b hb => by have h6 := HK6.out b hb; rw [List.mem_singleton]; omega))
        have HF3 := hideIt (HF2.out.new2 hf3 (by omega))
        clear h3 hf3
        go_wp2
        go_ret2
        exact .inl ⟨_, _, _, HPr.out, rfl, HGt3.out, HF3.out⟩)
    · have hp : parseF l = none := by rw [HP.out, k1]; simp only [hh, ht, if_false]
      have hx : expS L [] a' 0 = (a', 3) := by unfold expS; rw [if_neg ht, failS_ok, passS_bad (by decide)]
      rw [hx] at hX
      have HX := hideIt hX
      have HPr := hideIt hp
      clear h2 hf2 hX hp hx k1 k3 k5 hh ht k6 HG HP
      rcases hiv with rfl | ⟨T1, x1, rfl⟩
      all_goals (
        go_wp2_with fail
        refine HX.out.mono ?_
        rintro y w3 ⟨rfl, h3, hf3⟩
        obtain ⟨⟨cap3, c0, hcap⟩, c1, c2, _, _, row, hlt, _, _⟩ := h3
        obtain ⟨_, x3, hx3⟩ := row a' hlt
        have hlt' : (a' : Int) < (L.length : Int) := by omega
        have HF3 := hideIt (HF2.out.new2 hf3 (by omega))
        clear row hf3
        go_wp2
        go_region
        go_wp2
        go_ret2
        exact .inr ⟨HPr.out, _, _, rfl, (HF3.out.trans (Fr.alloc _ _ _)).trans (Fr.drewN _ _ 1)⟩)
  · have hp : parseF l = none := by rw [HP.out, k1]
    have hx : expS L [] a' fl' = (a', fl') := expS_bad k2
    rw [hx] at hX
    have HX := hideIt hX
    have HPr := hideIt hp
    have hne : (fl' == 0) = false := by simp [k2]
    clear h2 hf2 hX hp hx k1 HG HP
    rcases hiv with rfl | ⟨T1, x1, rfl⟩
    all_goals (
      go_wp2_with fail
      refine HX.out.mono ?_
      rintro y w3 ⟨rfl, h3, hf3⟩
      obtain ⟨⟨cap3, c0, hcap⟩, c1, c2, _, _, row, hlt, _, _⟩ := h3
      obtain ⟨_, x3, hx3⟩ := row a' hlt
      have hlt' : (a' : Int) < (L.length : Int) := by omega
      have HF3 := hideIt (HF2.out.new2 hf3 (by omega))
      clear row hf3
      go_wp2
      go_region
      go_wp2
      go_ret2
      exact .inr ⟨HPr.out, _, _, rfl, (HF3.out.trans (Fr.alloc _ _ _)).trans (Fr.drewN _ _ 1)⟩)
end Go.Proofs.YthblokfiojccmaaGreatDoor.Gn
