/-
  Package lock: a run of which nothing is done, walked.
  Package lock's Check, walked.
  slices.Contains at a row of bools: is one not over; walked. What Play tells at the end.
-/
import Derived.Test.YthmiocbihhbdpaaDoorGnW
import Derived.Laws.IdiomCopy
import Derived.Test.YthmiocbihhbdpaaDoorRnMZ
import Derived.Laws.ResultCell
namespace Go.Proofs.YthmiocbihhbdpaaDoor
open Go.RowKit

theorem crMap_empty {Z : World} {M : Nat} (hM : Z.heap[M]? = some (.map #[] 0)) (n : Nat) : CrMap Z M 0 n (fun _ => 0) := by
  obtain ⟨D, ⟨es, clock, hb, F, hs, hD⟩, h2⟩ := crMap_made (n := n) Z
  have e := (heap_alloc_new Z (.map #[] 0)).symm.trans hb
  injection e with e
  injection e with e1 e2
  subst e1 e2
  exact ⟨D, ⟨#[], 0, hM, F, hs, hD⟩, h2⟩
/-- What begin made ahead of the copy. -/
structure BgA (w0 Z : World) (n : Nat) (L O M B : Nat) : Prop where
  bel : Below w0.heap.size w0 Z
  hL : Z.heap[L]? = some (.cells (madeCells #[.slice none 0 0] n) 26 (0, 0))
  hO : Z.heap[O]? = some (.cells (madeCells #[.bool false] n) 4 (0, 0))
  hM : Z.heap[M]? = some (.map #[] 0)
  hB : Z.heap[B]? = some (.cells #[.slice none 0 0, .slice (some ⟨L, 0, none⟩) n n, .slice (some ⟨O, 0, none⟩) n n, .map (some M), .slice none 0 0, .slice none 0 0, .slice none 0 0] 66 (0, 0))
  lo : w0.heap.size ≤ L ∧ w0.heap.size ≤ O ∧ w0.heap.size ≤ M ∧ w0.heap.size ≤ B
/-- A plan's cells. -/
theorem plan_cells {W : World} {pa : Option Addr} {p : List (List Stp)} (h : PlQ W pa p) (hp : 0 < p.length) : ∃ b off, pa = some ⟨b, off, none⟩ ∧ b < W.heap.size ∧ ∃ cs : List Value, cs.length = p.length ∧ ∀ k (hk : k < cs.length), W.cell? ⟨b, off + k, none⟩ = some cs[k] ∧ ∃ ra rc, cs[k] = .slice ra (plN p k).length rc ∧ (plN p k).length ≤ rc ∧ StpsQ W ra (plN p k) := by
  rcases h with h | ⟨b, off, rfl, hb, h⟩
  · subst h; simp at hp
  · refine ⟨b, off, rfl, hb, (List.range p.length).map fun k => (W.cell? ⟨b, off + k, none⟩).getD (.slice none 0 0), by simp, fun k hk => ?_⟩
    have hk' : k < p.length := by simpa using hk
    obtain ⟨ra, rc, h1, h2, _, h4⟩ := h k hk'
    rw [plN_at hk']
    simp only [List.getElem_map, List.getElem_range, h1, Option.getD_some]
    exact ⟨trivial, ra, rc, rfl, h2, h4⟩
theorem infoL : (Tryd.prog.info? 26).map (fun i => (i.zero, i.size, i.bytes)) = some (some (.slice none 0 0), 1, 24) := by kernel_rfl
theorem made_left (w : World) (n : Nat) (hn : n ≤ 60) : (Instr.makeSlice 22 (.int .i64 (n : Int)) (.int .i64 (n : Int))).run Tryd.prog w = .ok (.slice (some ⟨w.heap.size, 0, none⟩) n n) (w.alloc (.cells (madeCells #[.slice none 0 0] n) 26)) := by
  obtain ⟨i, hi, hz, hs, hb⟩ := info_parts' infoL
  have := run_make (P := Tryd.prog) w 22 26 i (.slice none 0 0) Tryd.underlying22 hi hz .i64 .i64 (n : Int) (n : Int) (by omega) (Int.le_refl _) (by rw [hb]; omega) (by omega)
  have e : (Value.slice none 0 0).cells = #[.slice none 0 0] := rfl
  rw [e] at this
  simpa [hs] using this
theorem made_cnt (w : World) (n : Nat) (hn : n ≤ 60) : (Instr.makeSlice 24 (.int .i64 (n : Int)) (.int .i64 (n : Int))).run Tryd.prog w = .ok (.slice (some ⟨w.heap.size, 0, none⟩) n n) (w.alloc (.cells (madeCells #[.int .i64 0] n) 3)) := by
  obtain ⟨i, hi, hz, hs, hb⟩ := info_parts' info3
  have := run_make (P := Tryd.prog) w 24 3 i (.int .i64 0) Tryd.underlying24 hi hz .i64 .i64 (n : Int) (n : Int) (by omega) (Int.le_refl _) (by rw [hb]; omega) (by omega)
  have e : (Value.int .i64 0).cells = #[.int .i64 0] := rfl
  rw [e] at this
  simpa [hs] using this
/-- The copy, and what lies in memory behind it. -/
theorem copy_left {w0 Z : World} {pa : Option Addr} {pc : Nat} {p : List (List Stp)} {L O M B : Nat} (h : BgA w0 Z p.length L O M B) (hp : PlQ w0 pa p) (ty : TypeId) :
    ∃ Z1 r, (Builtin.copy_ #[22, 23] ty #[.slice (some ⟨L, 0, none⟩) p.length p.length, .slice pa p.length pc]).run Tryd.prog Z = .ok r Z1 ∧ LefAt w0 Z1 L p.length p (fun _ => 0) ∧ Z.grownBy Z1 (some L) := by
  have hsz : (Tryd.prog.info? 26).map (·.size) = some 1 := by
    obtain ⟨i, hi, _, hs, _⟩ := info_parts' infoL
    rw [hi]; simp [hs]
  by_cases h0 : 0 < p.length
  · obtain ⟨b, off, rfl, hb, cs, hcl, hcs⟩ := plan_cells hp h0
    have hcell : ∀ j, j < cs.length → Z.cell? ⟨L, 0 + j, none⟩ = some (.slice none 0 0) := fun j hj => by
      rw [cell_of_row _ _ _ _ 26 _ h.hL, Nat.zero_add]
      exact made_one _ _ _ (by omega)
    have hin : ∀ j, j < cs.length → (Z.cell? ⟨L, 0 + j, none⟩).isSome = true := fun j hj => by rw [hcell j hj]; rfl
    have hrun := run_copy_cells (P := Tryd.prog) Z 22 23 ty 26 L 0 p.length p.length ⟨b, off, none⟩ p.length pc cs Tryd.underlying22 hsz (by rw [hcl]; exact (Nat.min_self _).symm)
      (fun j v hj => by
        obtain ⟨hlt, e⟩ := List.getElem?_eq_some_iff.1 hj
        rw [Addr.add_mid, h.bel.cell (p := ⟨b, off + j, none⟩) hb, (hcs j hlt).1, e]) hin (fun j hj => frozen_of_row _ _ _ _ 26 h.hL)
      (fun v hv => by
        obtain ⟨j, hj, e⟩ := List.getElem_of_mem hv
        obtain ⟨_, ra, rc, e2, _⟩ := hcs j hj
        rw [← e, e2]; rfl)
    refine ⟨_, _, hrun, ?_, grown_setCells _ _ _ _⟩
    obtain ⟨cur', hc', _⟩ := heap_setCells cs 0 Z _ h.hL
    refine ⟨⟨cur', hc'⟩, fun t ht => ?_⟩
    have ht' : t < cs.length := by omega
    obtain ⟨_, ra, rc, e2, h1, h2⟩ := hcs t ht'
    have hat := World.cell?_setCells_in L cs 0 Z hin t ht'
    rw [Nat.zero_add, e2] at hat
    exact ⟨ra, rc, hat, h1, h2⟩
  · have e0 : p.length = 0 := by omega
    refine ⟨Z, _, run_copy_none (P := Tryd.prog) Z 22 23 ty 26 _ _ _ _ _ _ Tryd.underlying22 hsz (by rw [e0]; rfl), ⟨⟨_, h.hL⟩, fun t ht => by omega⟩, World.grownBy.refl _ _⟩
/-- The run of which nothing is done. -/
theorem bg_run {w0 Z Z1 : World} {p : List (List Stp)} {L O M B : Nat} (h : BgA w0 Z p.length L O M B) (hl : LefAt w0 Z1 L p.length p (fun _ => 0)) (hg : Z.grownBy Z1 (some L)) :
    RunS w0 p.length p ⟨B, L, O, M, Z1.heap.size⟩ ((Z1.alloc (.cells (madeCells #[.int .i64 0] p.length) 3)).setCell ⟨B, 5, none⟩ (.slice (some ⟨Z1.heap.size, 0, none⟩) p.length p.length)) lk0 0 ∧ Z1.cell? ⟨B, 5, none⟩ = some (.slice none 0 0) ∧ Z1.frozen? ⟨B, 5, none⟩ = false ∧ B < Z1.heap.size := by
  have tg : ∀ {b : Nat} {o : Obj}, Z.heap[b]? = some o → tagO Z.heap[b]? = tagO (some o) := fun h => by rw [h]
  have tL : tagO Z.heap[L]? = 27 := tg h.hL
  have tO : tagO Z.heap[O]? = 5 := tg h.hO
  have tM : tagO Z.heap[M]? = 0 := tg h.hM
  have tB : tagO Z.heap[B]? = 67 := tg h.hB
  have hO1 := (hg.block O (lt_of_heap h.hO) (someNe (ne_tag tO tL (by decide)))).trans h.hO
  have hM1 := (hg.block M (lt_of_heap h.hM) (someNe (ne_tag tM tL (by decide)))).trans h.hM
  have hB1 := (hg.block B (lt_of_heap h.hB) (someNe (ne_tag tB tL (by decide)))).trans h.hB
  have hs1 := hg.size
  have hb1 : Below w0.heap.size w0 Z1 := h.bel.grown hg h.bel.size fun b e => by injection e with e; rw [← e]; exact h.lo.1
  have lB := lt_of_heap hB1
  have al : ∀ b, b < Z1.heap.size → b ≠ B → ((Z1.alloc (.cells (madeCells #[.int .i64 0] p.length) 3)).setCell ⟨B, 5, none⟩ (.slice (some ⟨Z1.heap.size, 0, none⟩) p.length p.length)).heap[b]? = Z1.heap[b]? := fun b hb hne =>
    (Below.heap_setCell _ ⟨B, 5, none⟩ _ b hne).trans (Below.heap_alloc _ _ b hb)
  have hBa : (Z1.alloc (.cells (madeCells #[.int .i64 0] p.length) 3)).heap[B]? = _ := (Below.heap_alloc _ _ B lB).trans hB1
  refine ⟨⟨.slice none 0 0, .slice none 0 0, .slice none 0 0, fun _ => 0, ⟨(belA hb1 _).setCell (p := ⟨B, 5, none⟩) h.lo.2.2.2 _, set_run hBa 5 _, ⟨rfl, .inl ⟨rfl, rfl⟩⟩, hl.block (al L hl.lt (ne_tag tL tB (by decide))), ?_, ?_, ⟨rfl, .inl ⟨rfl, rfl⟩⟩, ?_, ⟨rfl, .inl ⟨rfl, rfl⟩⟩, ⟨h.lo.2.2.2, h.lo.1, h.lo.2.1, h.lo.2.2.1, hb1.size⟩, (fun b hb => by cases hb), (fun e => by cases e)⟩, fun t _ => ⟨Nat.zero_lt_succ _, fun u _ => by simp [lk0]⟩⟩, ?_, frozen_of_row _ _ _ _ 66 hB1, lB⟩
  · have hb : BitsAt Z1 O p.length (fun _ => false) := ⟨⟨_, hO1⟩, fun i hi => by rw [cell_of_row _ _ _ _ 4 _ hO1]; exact made_one _ _ _ hi⟩
    exact hb.block (al O (lt_of_heap hO1) (ne_tag tO tB (by decide)))
  · exact (crMap_empty hM1 p.length).block (al M (lt_of_heap hM1) (ne_tag tM tB (by decide)))
  · have hn : NumsAt (Z1.alloc (.cells (madeCells #[.int .i64 0] p.length) 3)) Z1.heap.size p.length (fun _ => 0) := ⟨⟨_, heap_alloc_new Z1 _⟩, fun i hi => cell_made Z1 (.int .i64 0) p.length 3 i hi⟩
    exact hn.block (Below.heap_setCell _ ⟨B, 5, none⟩ _ _ (fun e => by have e : Z1.heap.size = B := e; omega))
  · rw [cell_of_row _ _ _ _ 66 _ hB1]
    rfl
theorem chainF (w : World) (o0 o1 o2 o3 : Obj) : ((((w.alloc o0).alloc o1).alloc o2).alloc o3).heap[w.heap.size]? = some o0 ∧ ((((w.alloc o0).alloc o1).alloc o2).alloc o3).heap[w.heap.size + 1]? = some o1 ∧ ((((w.alloc o0).alloc o1).alloc o2).alloc o3).heap[w.heap.size + 1 + 1]? = some o2 ∧ ((((w.alloc o0).alloc o1).alloc o2).alloc o3).heap[w.heap.size + 1 + 1 + 1]? = some o3 := by
  have e : ((((w.alloc o0).alloc o1).alloc o2).alloc o3).heap = ((((w.heap.push o0).push o1).push o2).push o3) := rfl
  rw [e]
  refine ⟨?_, ?_, ?_, ?_⟩
  all_goals simp only [Array.getElem?_push, Array.size_push]
  all_goals repeat (first | rw [if_pos (by omega)] | rw [if_neg (by omega)])
  all_goals exact if_pos trivial

set_option maxRecDepth 100000 in
set_option maxHeartbeats 8000000 in
theorem begin_any (p : List (List Stp)) (hn : p.length ≤ 8) (pa : Option Addr) (pc : Nat) (W : World) (hp : PlQ W pa p) :
    Calls Tryd.prog 19 #[.slice pa p.length pc] W fun e W' => ∃ k : RunB, e = .returned (.pointer (some ⟨k.B, 0, none⟩)) ∧ RunS W p.length p k W' lk0 0 := by
  have HP := hideIt hp
  have hmk1 := fun Z => made_left Z p.length (by omega)
  have hmk2 := fun Z => made_bits Z p.length (by omega)
  have hmk4 := fun Z => made_cnt Z p.length (by omega)
  have hmk3 : ∀ Z : World, (Instr.makeMap 64 none).run Tryd.prog Z = .ok (.map (some Z.heap.size)) (Z.alloc (.map #[] 0)) := fun Z => rfl
  clear hp
  go_enter Tryd.func19, Tryd.ntmps19
  go_upto_region 1 with fail
  go_region
  · have HBg : Hid (BgA W (((((W.alloc (.cells (madeCells #[.slice none 0 0] p.length) 26)).alloc (.cells (madeCells #[.bool false] p.length) 4)).alloc (.map #[] 0)).alloc (.cells #[.slice none 0 0, .slice (some ⟨W.heap.size, 0, none⟩) p.length p.length, .slice (some ⟨(W.heap.size + 1), 0, none⟩) p.length p.length, .map (some (W.heap.size + 1 + 1)), .slice none 0 0, .slice none 0 0, .slice none 0 0] 66)).drew) p.length W.heap.size (W.heap.size + 1) (W.heap.size + 1 + 1) (W.heap.size + 1 + 1 + 1)) := by
      obtain ⟨k0, k1, k2, k3⟩ := chainF W (.cells (madeCells #[.slice none 0 0] p.length) 26) (.cells (madeCells #[.bool false] p.length) 4) (.map #[] 0) (.cells #[.slice none 0 0, .slice (some ⟨W.heap.size, 0, none⟩) p.length p.length, .slice (some ⟨(W.heap.size + 1), 0, none⟩) p.length p.length, .map (some (W.heap.size + 1 + 1)), .slice none 0 0, .slice none 0 0, .slice none 0 0] 66)
      exact ⟨(belA (belA (belA (belA (Below.refl _ _) _) _) _) _).drew, k0, k1, k2, k3, by omega⟩
    generalize ((((W.alloc (.cells (madeCells #[.slice none 0 0] p.length) 26)).alloc (.cells (madeCells #[.bool false] p.length) 4)).alloc (.map #[] 0)).alloc (.cells #[.slice none 0 0, .slice (some ⟨W.heap.size, 0, none⟩) p.length p.length, .slice (some ⟨(W.heap.size + 1), 0, none⟩) p.length p.length, .map (some (W.heap.size + 1 + 1)), .slice none 0 0, .slice none 0 0, .slice none 0 0] 66)).drew = Z at HBg ⊢
    generalize (W.heap.size + 1 + 1 + 1) = nB at HBg ⊢
    generalize (W.heap.size + 1 + 1) = n2 at HBg ⊢
    generalize (W.heap.size + 1) = n1 at HBg ⊢
    obtain ⟨Z1, r, hcp, hlf, hgr⟩ := copy_left (pc := pc) HBg.out HP.out 3
    obtain ⟨hRun, e0, e1, e2⟩ := bg_run HBg.out hlf hgr
    rw [World.setCell_alloc_past _ _ _ _ e2] at hRun
    have HRun := hideIt hRun
    have c1 : Z.cell? ⟨nB, 1, none⟩ = some (.slice (some ⟨W.heap.size, 0, none⟩) p.length p.length) := by
      rw [cell_of_row _ _ _ _ 66 _ HBg.out.hB]
      rfl
    have hx1 : ¬ nB = Z1.heap.size := by omega
    have hx2 : ¬ Z1.heap.size = nB := by omega
    clear hlf hgr hRun HBg hmk1 hmk2 hmk3
    go_wp2
    go_ret
    exact ⟨_, rfl, HRun.out⟩
  · have HBg : Hid (BgA W (((((W.alloc (.cells (madeCells #[.slice none 0 0] p.length) 26)).alloc (.map #[] 0)).alloc (.cells (madeCells #[.bool false] p.length) 4)).alloc (.cells #[.slice none 0 0, .slice (some ⟨W.heap.size, 0, none⟩) p.length p.length, .slice (some ⟨(W.heap.size + 1 + 1), 0, none⟩) p.length p.length, .map (some (W.heap.size + 1)), .slice none 0 0, .slice none 0 0, .slice none 0 0] 66)).drew) p.length W.heap.size (W.heap.size + 1 + 1) (W.heap.size + 1) (W.heap.size + 1 + 1 + 1)) := by
      obtain ⟨k0, k1, k2, k3⟩ := chainF W (.cells (madeCells #[.slice none 0 0] p.length) 26) (.map #[] 0) (.cells (madeCells #[.bool false] p.length) 4) (.cells #[.slice none 0 0, .slice (some ⟨W.heap.size, 0, none⟩) p.length p.length, .slice (some ⟨(W.heap.size + 1 + 1), 0, none⟩) p.length p.length, .map (some (W.heap.size + 1)), .slice none 0 0, .slice none 0 0, .slice none 0 0] 66)
      exact ⟨(belA (belA (belA (belA (Below.refl _ _) _) _) _) _).drew, k0, k2, k1, k3, by omega⟩
    generalize ((((W.alloc (.cells (madeCells #[.slice none 0 0] p.length) 26)).alloc (.map #[] 0)).alloc (.cells (madeCells #[.bool false] p.length) 4)).alloc (.cells #[.slice none 0 0, .slice (some ⟨W.heap.size, 0, none⟩) p.length p.length, .slice (some ⟨(W.heap.size + 1 + 1), 0, none⟩) p.length p.length, .map (some (W.heap.size + 1)), .slice none 0 0, .slice none 0 0, .slice none 0 0] 66)).drew = Z at HBg ⊢
    generalize (W.heap.size + 1 + 1 + 1) = nB at HBg ⊢
    generalize (W.heap.size + 1 + 1) = n2 at HBg ⊢
    generalize (W.heap.size + 1) = n1 at HBg ⊢
    obtain ⟨Z1, r, hcp, hlf, hgr⟩ := copy_left (pc := pc) HBg.out HP.out 3
    obtain ⟨hRun, e0, e1, e2⟩ := bg_run HBg.out hlf hgr
    rw [World.setCell_alloc_past _ _ _ _ e2] at hRun
    have HRun := hideIt hRun
    have c1 : Z.cell? ⟨nB, 1, none⟩ = some (.slice (some ⟨W.heap.size, 0, none⟩) p.length p.length) := by
      rw [cell_of_row _ _ _ _ 66 _ HBg.out.hB]
      rfl
    have hx1 : ¬ nB = Z1.heap.size := by omega
    have hx2 : ¬ Z1.heap.size = nB := by omega
    clear hlf hgr hRun HBg hmk1 hmk2 hmk3
    go_wp2
    go_ret
    exact ⟨_, rfl, HRun.out⟩
  · have HBg : Hid (BgA W (((((W.alloc (.cells (madeCells #[.bool false] p.length) 4)).alloc (.cells (madeCells #[.slice none 0 0] p.length) 26)).alloc (.map #[] 0)).alloc (.cells #[.slice none 0 0, .slice (some ⟨(W.heap.size + 1), 0, none⟩) p.length p.length, .slice (some ⟨W.heap.size, 0, none⟩) p.length p.length, .map (some (W.heap.size + 1 + 1)), .slice none 0 0, .slice none 0 0, .slice none 0 0] 66)).drew) p.length (W.heap.size + 1) W.heap.size (W.heap.size + 1 + 1) (W.heap.size + 1 + 1 + 1)) := by
      obtain ⟨k0, k1, k2, k3⟩ := chainF W (.cells (madeCells #[.bool false] p.length) 4) (.cells (madeCells #[.slice none 0 0] p.length) 26) (.map #[] 0) (.cells #[.slice none 0 0, .slice (some ⟨(W.heap.size + 1), 0, none⟩) p.length p.length, .slice (some ⟨W.heap.size, 0, none⟩) p.length p.length, .map (some (W.heap.size + 1 + 1)), .slice none 0 0, .slice none 0 0, .slice none 0 0] 66)
      exact ⟨(belA (belA (belA (belA (Below.refl _ _) _) _) _) _).drew, k1, k0, k2, k3, by omega⟩
    generalize ((((W.alloc (.cells (madeCells #[.bool false] p.length) 4)).alloc (.cells (madeCells #[.slice none 0 0] p.length) 26)).alloc (.map #[] 0)).alloc (.cells #[.slice none 0 0, .slice (some ⟨(W.heap.size + 1), 0, none⟩) p.length p.length, .slice (some ⟨W.heap.size, 0, none⟩) p.length p.length, .map (some (W.heap.size + 1 + 1)), .slice none 0 0, .slice none 0 0, .slice none 0 0] 66)).drew = Z at HBg ⊢
    generalize (W.heap.size + 1 + 1 + 1) = nB at HBg ⊢
    generalize (W.heap.size + 1 + 1) = n2 at HBg ⊢
    generalize (W.heap.size + 1) = n1 at HBg ⊢
    obtain ⟨Z1, r, hcp, hlf, hgr⟩ := copy_left (pc := pc) HBg.out HP.out 3
    obtain ⟨hRun, e0, e1, e2⟩ := bg_run HBg.out hlf hgr
    rw [World.setCell_alloc_past _ _ _ _ e2] at hRun
    have HRun := hideIt hRun
    have c1 : Z.cell? ⟨nB, 1, none⟩ = some (.slice (some ⟨n1, 0, none⟩) p.length p.length) := by
      rw [cell_of_row _ _ _ _ 66 _ HBg.out.hB]
      rfl
    have hx1 : ¬ nB = Z1.heap.size := by omega
    have hx2 : ¬ Z1.heap.size = nB := by omega
    clear hlf hgr hRun HBg hmk1 hmk2 hmk3
    go_wp2
    go_ret
    exact ⟨_, rfl, HRun.out⟩
  · have HBg : Hid (BgA W (((((W.alloc (.cells (madeCells #[.bool false] p.length) 4)).alloc (.map #[] 0)).alloc (.cells (madeCells #[.slice none 0 0] p.length) 26)).alloc (.cells #[.slice none 0 0, .slice (some ⟨(W.heap.size + 1 + 1), 0, none⟩) p.length p.length, .slice (some ⟨W.heap.size, 0, none⟩) p.length p.length, .map (some (W.heap.size + 1)), .slice none 0 0, .slice none 0 0, .slice none 0 0] 66)).drew) p.length (W.heap.size + 1 + 1) W.heap.size (W.heap.size + 1) (W.heap.size + 1 + 1 + 1)) := by
      obtain ⟨k0, k1, k2, k3⟩ := chainF W (.cells (madeCells #[.bool false] p.length) 4) (.map #[] 0) (.cells (madeCells #[.slice none 0 0] p.length) 26) (.cells #[.slice none 0 0, .slice (some ⟨(W.heap.size + 1 + 1), 0, none⟩) p.length p.length, .slice (some ⟨W.heap.size, 0, none⟩) p.length p.length, .map (some (W.heap.size + 1)), .slice none 0 0, .slice none 0 0, .slice none 0 0] 66)
      exact ⟨(belA (belA (belA (belA (Below.refl _ _) _) _) _) _).drew, k2, k0, k1, k3, by omega⟩
    generalize ((((W.alloc (.cells (madeCells #[.bool false] p.length) 4)).alloc (.map #[] 0)).alloc (.cells (madeCells #[.slice none 0 0] p.length) 26)).alloc (.cells #[.slice none 0 0, .slice (some ⟨(W.heap.size + 1 + 1), 0, none⟩) p.length p.length, .slice (some ⟨W.heap.size, 0, none⟩) p.length p.length, .map (some (W.heap.size + 1)), .slice none 0 0, .slice none 0 0, .slice none 0 0] 66)).drew = Z at HBg ⊢
    generalize (W.heap.size + 1 + 1 + 1) = nB at HBg ⊢
    generalize (W.heap.size + 1 + 1) = n2 at HBg ⊢
    generalize (W.heap.size + 1) = n1 at HBg ⊢
    obtain ⟨Z1, r, hcp, hlf, hgr⟩ := copy_left (pc := pc) HBg.out HP.out 3
    obtain ⟨hRun, e0, e1, e2⟩ := bg_run HBg.out hlf hgr
    rw [World.setCell_alloc_past _ _ _ _ e2] at hRun
    have HRun := hideIt hRun
    have c1 : Z.cell? ⟨nB, 1, none⟩ = some (.slice (some ⟨n2, 0, none⟩) p.length p.length) := by
      rw [cell_of_row _ _ _ _ 66 _ HBg.out.hB]
      rfl
    have hx1 : ¬ nB = Z1.heap.size := by omega
    have hx2 : ¬ Z1.heap.size = nB := by omega
    clear hlf hgr hRun HBg hmk1 hmk2 hmk3
    go_wp2
    go_ret
    exact ⟨_, rfl, HRun.out⟩
  · have HBg : Hid (BgA W (((((W.alloc (.map #[] 0)).alloc (.cells (madeCells #[.slice none 0 0] p.length) 26)).alloc (.cells (madeCells #[.bool false] p.length) 4)).alloc (.cells #[.slice none 0 0, .slice (some ⟨(W.heap.size + 1), 0, none⟩) p.length p.length, .slice (some ⟨(W.heap.size + 1 + 1), 0, none⟩) p.length p.length, .map (some W.heap.size), .slice none 0 0, .slice none 0 0, .slice none 0 0] 66)).drew) p.length (W.heap.size + 1) (W.heap.size + 1 + 1) W.heap.size (W.heap.size + 1 + 1 + 1)) := by
      obtain ⟨k0, k1, k2, k3⟩ := chainF W (.map #[] 0) (.cells (madeCells #[.slice none 0 0] p.length) 26) (.cells (madeCells #[.bool false] p.length) 4) (.cells #[.slice none 0 0, .slice (some ⟨(W.heap.size + 1), 0, none⟩) p.length p.length, .slice (some ⟨(W.heap.size + 1 + 1), 0, none⟩) p.length p.length, .map (some W.heap.size), .slice none 0 0, .slice none 0 0, .slice none 0 0] 66)
      exact ⟨(belA (belA (belA (belA (Below.refl _ _) _) _) _) _).drew, k1, k2, k0, k3, by omega⟩
    generalize ((((W.alloc (.map #[] 0)).alloc (.cells (madeCells #[.slice none 0 0] p.length) 26)).alloc (.cells (madeCells #[.bool false] p.length) 4)).alloc (.cells #[.slice none 0 0, .slice (some ⟨(W.heap.size + 1), 0, none⟩) p.length p.length, .slice (some ⟨(W.heap.size + 1 + 1), 0, none⟩) p.length p.length, .map (some W.heap.size), .slice none 0 0, .slice none 0 0, .slice none 0 0] 66)).drew = Z at HBg ⊢
    generalize (W.heap.size + 1 + 1 + 1) = nB at HBg ⊢
    generalize (W.heap.size + 1 + 1) = n2 at HBg ⊢
    generalize (W.heap.size + 1) = n1 at HBg ⊢
    obtain ⟨Z1, r, hcp, hlf, hgr⟩ := copy_left (pc := pc) HBg.out HP.out 3
    obtain ⟨hRun, e0, e1, e2⟩ := bg_run HBg.out hlf hgr
    rw [World.setCell_alloc_past _ _ _ _ e2] at hRun
    have HRun := hideIt hRun
    have c1 : Z.cell? ⟨nB, 1, none⟩ = some (.slice (some ⟨n1, 0, none⟩) p.length p.length) := by
      rw [cell_of_row _ _ _ _ 66 _ HBg.out.hB]
      rfl
    have hx1 : ¬ nB = Z1.heap.size := by omega
    have hx2 : ¬ Z1.heap.size = nB := by omega
    clear hlf hgr hRun HBg hmk1 hmk2 hmk3
    go_wp2
    go_ret
    exact ⟨_, rfl, HRun.out⟩
  · have HBg : Hid (BgA W (((((W.alloc (.map #[] 0)).alloc (.cells (madeCells #[.bool false] p.length) 4)).alloc (.cells (madeCells #[.slice none 0 0] p.length) 26)).alloc (.cells #[.slice none 0 0, .slice (some ⟨(W.heap.size + 1 + 1), 0, none⟩) p.length p.length, .slice (some ⟨(W.heap.size + 1), 0, none⟩) p.length p.length, .map (some W.heap.size), .slice none 0 0, .slice none 0 0, .slice none 0 0] 66)).drew) p.length (W.heap.size + 1 + 1) (W.heap.size + 1) W.heap.size (W.heap.size + 1 + 1 + 1)) := by
      obtain ⟨k0, k1, k2, k3⟩ := chainF W (.map #[] 0) (.cells (madeCells #[.bool false] p.length) 4) (.cells (madeCells #[.slice none 0 0] p.length) 26) (.cells #[.slice none 0 0, .slice (some ⟨(W.heap.size + 1 + 1), 0, none⟩) p.length p.length, .slice (some ⟨(W.heap.size + 1), 0, none⟩) p.length p.length, .map (some W.heap.size), .slice none 0 0, .slice none 0 0, .slice none 0 0] 66)
      exact ⟨(belA (belA (belA (belA (Below.refl _ _) _) _) _) _).drew, k2, k1, k0, k3, by omega⟩
    generalize ((((W.alloc (.map #[] 0)).alloc (.cells (madeCells #[.bool false] p.length) 4)).alloc (.cells (madeCells #[.slice none 0 0] p.length) 26)).alloc (.cells #[.slice none 0 0, .slice (some ⟨(W.heap.size + 1 + 1), 0, none⟩) p.length p.length, .slice (some ⟨(W.heap.size + 1), 0, none⟩) p.length p.length, .map (some W.heap.size), .slice none 0 0, .slice none 0 0, .slice none 0 0] 66)).drew = Z at HBg ⊢
    generalize (W.heap.size + 1 + 1 + 1) = nB at HBg ⊢
    generalize (W.heap.size + 1 + 1) = n2 at HBg ⊢
    generalize (W.heap.size + 1) = n1 at HBg ⊢
    obtain ⟨Z1, r, hcp, hlf, hgr⟩ := copy_left (pc := pc) HBg.out HP.out 3
    obtain ⟨hRun, e0, e1, e2⟩ := bg_run HBg.out hlf hgr
    rw [World.setCell_alloc_past _ _ _ _ e2] at hRun
    have HRun := hideIt hRun
    have c1 : Z.cell? ⟨nB, 1, none⟩ = some (.slice (some ⟨n2, 0, none⟩) p.length p.length) := by
      rw [cell_of_row _ _ _ _ 66 _ HBg.out.hB]
      rfl
    have hx1 : ¬ nB = Z1.heap.size := by omega
    have hx2 : ¬ Z1.heap.size = nB := by omega
    clear hlf hgr hRun HBg hmk1 hmk2 hmk3
    go_wp2
    go_ret
    exact ⟨_, rfl, HRun.out⟩
end Go.Proofs.YthmiocbihhbdpaaDoor

namespace Go.Proofs.YthmiocbihhbdpaaDoor
open Go.RowKit

set_option maxRecDepth 100000 in
set_option maxHeartbeats 4000000 in
theorem check_any (p : List (List Stp)) (hz : PlZ p) (pa : Option Addr) (pc : Nat) (w : World) (hp : PlQ w pa p) :
    Calls Tryd.prog 7 #[.slice pa p.length pc] w fun e w' => e = .returned (toldV (fltL p)) ∧ Below w.heap.size w w' := by
  have HP := hideIt hp
  have HZ := hideIt hz
  have hm : p.length ≤ 9223372036854775807 := by have := hz.few; omega
  clear hp hz
  go_enter Tryd.func7, Tryd.ntmps7
  go_wp2
  go_loopw [3, 12] (fun q i wr => ∃ (v : Int) (k : Nat), k ≤ p.length ∧ q = .int .i64 v ∧ i = .int .i64 k ∧ (p.length ≤ 8 → v = (totK p k : Int)) ∧ (∀ t, t < k → ∀ i, i < (plN p t).length → badT t (stZ (plN p t) i) = false) ∧ Below w.heap.size w wr) (fun _ i _ => p.length - (intOf i).toNat)
  case atStart => exact ⟨p.length, 0, Nat.zero_le _, rfl, rfl, fun _ => rfl, fun t ht => absurd ht (by omega), Below.refl _ _⟩
  case round =>
    obtain ⟨v, k, hk, rfl, rfl, hv, hg, hb⟩ := hrel
    have HV := hideIt hv
    have HG1 := hideIt hg
    have HB := hideIt hb
    clear hv hg hb
    by_cases hin : k < p.length
    · obtain ⟨b, off, ra, rc, rfl, hbl, q0, q1, q2, q3⟩ := HP.out.at hin
      have r0 := (HB.out.cell (p := ⟨b, off + k, none⟩) hbl).trans q0
      have HRw := hideIt q3
      unfold maxLen at q2
      have HV2 : Hid (p.length ≤ 8 → wrap64 (v + ((plN p k).length : Int)) = (totK p (k + 1) : Int)) := fun h8 => by
        have h1 := HV.out h8
        have h3 : sumN (fun t => (plN p t).length) k ≤ k * 140737488355328 := sum_le fun i _ => by have := HZ.out.len i; omega
        have h4 := HZ.out.len k
        have h5 := totK_succ p k
        have h6 : totK p k = p.length + sumN (fun t => (plN p t).length) k := rfl
        unfold wrap64
        omega
      clear q0 q3
      go_wp2
      clear r0
      go_loopw [19] (fun i wz => ∃ j : Nat, j ≤ (plN p k).length ∧ i = .int .i64 j ∧ (∀ i, i < j → badT k (stZ (plN p k) i) = false) ∧ Below w.heap.size w wz) (fun i _ => (plN p k).length - (intOf i).toNat)
      case atStart => exact ⟨0, Nat.zero_le _, rfl, fun i hi => absurd hi (by omega), HB.out⟩
      case round =>
        obtain ⟨j, hj, rfl, hg, hb⟩ := hrel
        have HG2 := hideIt hg
        replace HB := hideIt hb
        clear hg hb
        by_cases hjn : j < (plN p k).length
        · obtain ⟨gs, os, rfl, hgs, hst⟩ : ∃ g o, ra = some ⟨g, o, none⟩ ∧ g < w.heap.size ∧ StpsAt w g o (plN p k) := by
            rcases HRw.out with e | e
            · rw [e] at hjn; simp at hjn
            · exact e
          obtain ⟨s0, s1, s2⟩ := (hst j hjn).below hgs HB.out
          have HS : Hid (stZ (plN p k) j = (plN p k)[j]) := stZ_at hjn
          clear hst
          generalize (plN p k)[j] = s at s0 s1 s2 HS
          have HMs := hideIt (mayStand_any k s (wr.alloc (.cells #[.int .i64 s.p, .int .i64 s.k, .int .i64 s.m] 46)))
          have HBd := hideIt (belA HB.out (.cells #[.int .i64 s.p, .int .i64 s.k, .int .i64 s.m] 46))
          have hgw : gs < wr.heap.size := Nat.lt_of_lt_of_le hgs HB.out.size
          have hx1 : ¬ gs = wr.heap.size := by omega
          have hx2 : ¬ wr.heap.size = gs := by omega
          clear HB hgw
          go_wp2_with fail
          refine HMs.out.mono ?_
          rintro e w1 ⟨rfl, hb1⟩
          have HB1 := hideIt (belJ HBd.out hb1)
          clear hb1 s0 s1 s2 hx1 hx2 HMs HBd
          cases hbad : badT k s
          · have HG3 : Hid (∀ i, i < j + 1 → badT k (stZ (plN p k) i) = false) := fun i hi => by
              by_cases e : i = j
              · rw [e, HS.out]; exact hbad
              · exact HG2.out i (by omega)
            clear HG2 HS
            go_wp2
            go_roundw
            case rel => exact ⟨j + 1, by omega, by go_num, HG3.out, HB1.out⟩
            case measure => simp [intOf]; omega
          · have HE : Hid (fltL p = 1) := fltL_bad hin hjn (by rw [HS.out]; exact hbad)
            clear HG1 HG2 HS HP HRw
            go_wp2
            go_ret
            exact ⟨by rw [HE.out]; rfl, HB1.out⟩
        · obtain rfl : j = (plN p k).length := by omega
          have HG3 : Hid (∀ t, t < k + 1 → ∀ i, i < (plN p t).length → badT t (stZ (plN p t) i) = false) := fun t ht i hi => by
            by_cases e : t = k
            · subst e; exact HG2.out i hi
            · exact HG1.out t (by omega) i hi
          clear HG1 HG2
          go_wp2
          go_roundw
          case rel => exact ⟨_, k + 1, by omega, rfl, by go_num, HV2.out, HG3.out, HB.out⟩
          case measure => simp [intOf]; omega
    · obtain rfl : k = p.length := by omega
      have HF := hideIt (fltL_good HG1.out)
      by_cases h8 : 8 < p.length
      · have HE : Hid (fltL p = 4) := by
          have := HF.out
          rw [if_pos (.inl h8)] at this
          exact this
        have h8' : (8 : Int) < (p.length : Int) := by omega
        clear HF HG1
        go_wp2
        go_ret
        exact ⟨by rw [HE.out]; rfl, HB.out⟩
      · have hvv := HV.out (by omega)
        have h8' : ¬ (8 : Int) < (p.length : Int) := by omega
        by_cases h60 : 60 < totK p p.length
        · have HE : Hid (fltL p = 4) := by
            have := HF.out
            rw [if_pos (.inr h60)] at this
            exact this
          have h60' : (60 : Int) < v := by omega
          clear HF HG1 hvv
          go_wp2
          go_ret
          exact ⟨by rw [HE.out]; rfl, HB.out⟩
        · have HE : Hid (fltL p = 0) := by
            have := HF.out
            rw [if_neg (by omega)] at this
            exact this
          have h60' : ¬ (60 : Int) < v := by omega
          clear HF HG1 hvv
          go_wp2
          go_ret
          exact ⟨by rw [HE.out]; rfl, HB.out⟩
end Go.Proofs.YthmiocbihhbdpaaDoor

namespace Go.Proofs.YthmiocbihhbdpaaDoor
open Go.RowKit

set_option maxRecDepth 100000 in
set_option maxHeartbeats 2000000 in
theorem indexB_any (f : Nat → Bool) (n : Nat) (hn : n ≤ 60) (O : Nat) (W : World) (h : BitsAt W O n f) :
    Calls Tryd.prog 27 #[.slice (some ⟨O, 0, none⟩) n n, .bool false] W fun e W' => (∃ z : Int, e = .returned (.int .i64 z) ∧ decide (0 ≤ z) = (List.range n).any fun t => !f t) ∧ W' = W := by
  have HR := hideIt h
  clear h
  go_enter Tryd.func27, Tryd.ntmps27
  go_wp2
  go_loopw [8] (fun v wr => ∃ k : Nat, k ≤ n ∧ v = .int .i64 k ∧ (∀ j, j < k → f j = true) ∧ wr = W) (fun v _ => n - (intOf v).toNat)
  case atStart => exact ⟨0, Nat.zero_le _, rfl, fun j hj => absurd hj (by omega), rfl⟩
  case round =>
    obtain ⟨k, hk, rfl, ha, rfl⟩ := hrel
    have HA := hideIt ha
    clear ha
    by_cases hkn : k < n
    · have hkn' : (k : Int) < n := by omega
      have c0 := HR.out.bit k hkn
      cases hf : f k
      · rw [hf] at c0
        have HE : Hid (((List.range n).any fun t => !f t) = true) := List.any_eq_true.2 ⟨k, List.mem_range.2 hkn, by rw [hf]; rfl⟩
        go_wp2
        go_ret
        exact ⟨⟨_, rfl, by rw [HE.out]; simp⟩, rfl⟩
      · rw [hf] at c0
        have R1 : Hid (∀ j, j < k + 1 → f j = true) := fun j hj => by
          by_cases e : j = k
          · rw [e]; exact hf
          · exact HA.out j (by omega)
        go_wp2
        go_roundw
        case rel => exact ⟨k + 1, by omega, by go_num, R1.out, trivial⟩
        case measure => simp [intOf]; omega
    · obtain rfl : k = n := by omega
      have HE : Hid (((List.range k).any fun t => !f t) = false) := List.any_eq_false.2 fun t ht => by rw [HA.out t (List.mem_range.1 ht)]; simp
      go_wp2
      go_ret
      exact ⟨⟨_, rfl, by rw [HE.out]; simp⟩, rfl⟩

set_option maxRecDepth 100000 in
set_option maxHeartbeats 2000000 in
theorem containsB_any (st : LkS) (n : Nat) (hn : n ≤ 60) (O : Nat) (W : World) (h : BitsAt W O n st.ov) :
    Calls Tryd.prog 21 #[.slice (some ⟨O, 0, none⟩) n n, .bool false] W fun e W' => e = .returned (.bool (!allO n st)) ∧ W' = W := by
  have HI := hideIt (indexB_any st.ov n hn O W h)
  have HE : Hid (((List.range n).any fun t => !st.ov t) = !allO n st) := lftB_all st n
  clear h
  go_enter Tryd.func21, Tryd.ntmps21
  go_wp2_with fail
  refine HI.out.mono ?_
  rintro e W1 ⟨⟨z, rfl, hz⟩, rfl⟩
  have HZ := hideIt hz
  clear hz HI
  go_wp2
  go_ret
  refine ⟨ret_bl ?_, rfl⟩
  rw [← HE.out, ← HZ.out]

theorem results_cellT {fn : Func} {p u : Tmp} {ty : TypeId} (h : fn.results = #[.cell p ty, .tmp u]) (tmps : Array Value) (w : World) (g : Nat) (v : Value)
    (hp : tmps.getD p undef = .pointer (some ⟨g, 0, none⟩)) (hl : (loadVar ty ⟨g, 0, none⟩).run Tryd.prog w = .ok v w) : (results fn tmps).run Tryd.prog w = .ok (.tuple #[v, tmps.getD u undef]) w := by
  rw [results_cell_tmp h]
  simp only [hp, asAddr, Sem.run_pure, Result.andThen_ok, hl]
theorem tri27 {w : World} {g : Nat} {t : TypeId} {x y z : Value} (h : w.heap[g]? = some (.cells #[x, y, z] t (0, 0))) : (loadVar 39 ⟨g, 0, none⟩).run Tryd.prog w = .ok (.agg #[x, y, z]) w :=
  run_loadVar_mid w g 0 39 [x, y, z] _ (fun j v hv => by rw [Nat.zero_add, cell_of_row _ _ _ _ t _ h]; simpa using hv) Tryd.underlying39 rfl (by kernel_rfl)
/-- A block of three cells, all stored. -/
theorem set3 {W : World} {R : Nat} {a b c : Value} (h : W.heap[R]? = some (.cells #[a, b, c] 39 (0, 0))) (x y z : Value) : (((W.setCell ⟨R, 0, none⟩ x).setCell ⟨R, 1, none⟩ y).setCell ⟨R, 2, none⟩ z).heap[R]? = some (.cells #[x, y, z] 39 (0, 0)) ∧ ∀ g, g ≠ R → (((W.setCell ⟨R, 0, none⟩ x).setCell ⟨R, 1, none⟩ y).setCell ⟨R, 2, none⟩ z).heap[g]? = W.heap[g]? := by
  have one : ∀ {W : World} {cs : Array Value} (_ : W.heap[R]? = some (.cells cs 39 (0, 0))) (i : Nat) (v : Value), (W.setCell ⟨R, i, none⟩ v).heap[R]? = some (.cells (cs.setIfInBounds i v) 39 (0, 0)) := fun {W cs} h i v => by
    have hlt := lt_of_block h
    have h' : W.heap[R] = .cells cs 39 (0, 0) := by simpa [Array.getElem?_eq_getElem hlt] using h
    show (W.heap.modify R _)[R]? = _
    rw [Array.getElem?_eq_getElem (by simpa using hlt), Array.getElem_modify_self, h']
    rfl
  refine ⟨one (one (one h 0 x) 1 y) 2 z, fun g hg => ?_⟩
  exact (Below.heap_setCell _ ⟨R, 2, none⟩ _ g hg).trans ((Below.heap_setCell _ ⟨R, 1, none⟩ _ g hg).trans (Below.heap_setCell _ ⟨R, 0, none⟩ _ g hg))
/-- What lies in memory at the end. -/
theorem run_end {w w0 W : World} {n : Nat} {p : List (List Stp)} {k : RunB} {st : LkS} {q R : Nat} {va vb : Option Addr} {vc vk : Nat} {hl : List Stp} {g : Nat → Nat} {vh : Value}
    (h : RunM w0 n p k W hl st.done st.ov st.pos q g st.cnt st.vic vh (.slice va st.done.length vc) (.slice vb st.vic.length vk)) (hw : Below w.heap.size w w0) (hR : W.heap[R]? = some (.cells #[.slice none 0 0, .slice none 0 0, .slice none 0 0] 39 (0, 0))) (hlo : w.heap.size ≤ R) (hR0 : R < w0.heap.size) :
    (loadVar 39 ⟨R, 0, none⟩).run Tryd.prog (((W.setCell ⟨R, 0, none⟩ (.slice va st.done.length vc)).setCell ⟨R, 1, none⟩ (.slice (some ⟨k.C, 0, none⟩) n n)).setCell ⟨R, 2, none⟩ (.slice vb st.vic.length vk)) = .ok (.agg #[.slice va st.done.length vc, .slice (some ⟨k.C, 0, none⟩) n n, .slice vb st.vic.length vk]) (((W.setCell ⟨R, 0, none⟩ (.slice va st.done.length vc)).setCell ⟨R, 1, none⟩ (.slice (some ⟨k.C, 0, none⟩) n n)).setCell ⟨R, 2, none⟩ (.slice vb st.vic.length vk)) ∧
      StpsQ (((W.setCell ⟨R, 0, none⟩ (.slice va st.done.length vc)).setCell ⟨R, 1, none⟩ (.slice (some ⟨k.C, 0, none⟩) n n)).setCell ⟨R, 2, none⟩ (.slice vb st.vic.length vk)) va st.done ∧
      HasI (((W.setCell ⟨R, 0, none⟩ (.slice va st.done.length vc)).setCell ⟨R, 1, none⟩ (.slice (some ⟨k.C, 0, none⟩) n n)).setCell ⟨R, 2, none⟩ (.slice vb st.vic.length vk)) (.slice (some ⟨k.C, 0, none⟩) n n) ((List.range n).map fun t => (st.cnt t : Int)) ∧
      HasI (((W.setCell ⟨R, 0, none⟩ (.slice va st.done.length vc)).setCell ⟨R, 1, none⟩ (.slice (some ⟨k.C, 0, none⟩) n n)).setCell ⟨R, 2, none⟩ (.slice vb st.vic.length vk)) (.slice vb st.vic.length vk) (natI st.vic) ∧ Below w.heap.size w (((W.setCell ⟨R, 0, none⟩ (.slice va st.done.length vc)).setCell ⟨R, 1, none⟩ (.slice (some ⟨k.C, 0, none⟩) n n)).setCell ⟨R, 2, none⟩ (.slice vb st.vic.length vk)) := by
  obtain ⟨h3, hk⟩ := set3 hR (.slice va st.done.length vc) (.slice (some ⟨k.C, 0, none⟩) n n) (.slice vb st.vic.length vk)
  have hb : Below w.heap.size w W := belJ hw h.bel
  have hbl : Below w.heap.size w (((W.setCell ⟨R, 0, none⟩ (.slice va st.done.length vc)).setCell ⟨R, 1, none⟩ (.slice (some ⟨k.C, 0, none⟩) n n)).setCell ⟨R, 2, none⟩ (.slice vb st.vic.length vk)) := ((hb.setCell (p := ⟨R, 0, none⟩) hlo _).setCell (p := ⟨R, 1, none⟩) hlo _).setCell (p := ⟨R, 2, none⟩) hlo _
  refine ⟨tri27 h3, ?_, ?_, ?_, hbl⟩
  · have ho := ownsRow_same h.done fun b hb' => hk b (fun e => by have := (ownsRow_block h.done b hb').1; omega)
    obtain ⟨a', c', e', _, hq'⟩ := stpsQ_ownH ho
    injection e' with ea' _ ec'
    subst ea'
    exact hq'
  · have hn := h.cnt.block (hk k.C (fun e => by have := h.lo.2.2.2.2; omega))
    refine ⟨some ⟨k.C, 0, none⟩, n, by simp, by simp, fun i hi => ⟨k.C, 0, rfl, ?_⟩⟩
    have hi' : i < n := by simpa using hi
    rw [Nat.zero_add, hn.num i hi']
    simp
  · have ho := ownsRow_same h.vic fun b hb' => hk b (fun e => by have := (ownsRow_block h.vic b hb').1; omega)
    have hr : RowAt _ w0.heap.size (.slice vb st.vic.length vk) (natI st.vic) := rowAt_owns (by
      have e : (natI st.vic).map (Value.int .i64) = numC st.vic := by simp [natI, numC]
      rw [e, show (natI st.vic).length = st.vic.length by simp [natI]]
      exact ho)
    exact hr.hasI
end Go.Proofs.YthmiocbihhbdpaaDoor
