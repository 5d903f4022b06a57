/-
  The document's net, walked: Drop.
  The document's net, walked: Open.
-/
import Derived.Test.YtncnojgemmcplaaGreatDoorNsW
import Derived.Test.YtncnojgemmcplaaGreatDoorRgLZ
namespace Go.Proofs.YtncnojgemmcplaaGreatDoor.St.Dc
open Go.RowKit

/-- What is no more on its way. -/
def GoneTold (B o : Nat) (L : List Md) (i : Nat) (w : World) (w' : World) : Prop :=
  ∃ v' w1, w.grownBy w1 none ∧ w' = w1.setCell ⟨B, o + 2, none⟩ v' ∧ w1.ownsRow w.heap.size 140 3 v' (L.length - 1) (mdCs (L.eraseIdx i))
/-- What Drop tells. -/
def DropTold (B o : Nat) (L : List Md) (i : Int) (w : World) (e : Ending) (w' : World) : Prop :=
  ((i < 0 ∨ (L.length : Int) ≤ i) ∧ e = .returned (.int .i64 8) ∧ w' = w) ∨
  ((0 ≤ i ∧ i < L.length) ∧ e = .returned (.int .i64 0) ∧ GoneTold B o L i.toNat w w')

set_option maxRecDepth 100000 in
set_option maxHeartbeats 4000000 in
theorem drop_any (i : Int) (base B o : Nat) (cut : Bool) (lv v : Value) (L : List Md) (hL : L.length ≤ 500) (w : World) (h : NetD w base B o cut lv v L) :
    Calls Tryz.prog 72 #[.pointer (some ⟨B, o, none⟩), .int .i64 i] w fun e w' => DropTold B o L i w e w' := by
  have HN := hideIt h
  have c2 := h.c2
  by_cases h0 : i < 0
  · have h0' : decide (i < 0) = true := decide_eq_true h0
    go_enter Tryz.func72, Tryz.ntmps72
    go_wp2
    go_ret
    exact .inl ⟨.inl h0, rfl, rfl⟩
  have h0' : decide (i < 0) = false := decide_eq_false h0
  by_cases h1 : (L.length : Int) ≤ i
  · obtain ⟨va, vc, rfl⟩ := h.slice
    have h1' : decide (i ≥ (L.length : Int)) = true := decide_eq_true h1
    have H1 := hideIt h1
    clear h
    go_enter Tryz.func72, Tryz.ntmps72
    go_wp2
    go_ret
    exact .inl ⟨.inr H1.out, rfl, rfl⟩
  have h1' : decide (i ≥ (L.length : Int)) = false := decide_eq_false h1
  obtain ⟨k, rfl⟩ : ∃ k : Nat, i = k := ⟨i.toNat, by omega⟩
  have hk : k < L.length := by omega
  obtain ⟨g, cap, cur, rfl, hbg, hgc, hnc, hcm, hcs, hcx⟩ : ∃ g cap cur, v = .slice (some ⟨g, 0, none⟩) L.length cap ∧ base ≤ g ∧ w.heap[g]? = some (.cells cur 140 (0, 0)) ∧ L.length ≤ cap ∧ cap ≤ maxLen ∧ cur.size = cap * 3 ∧ cur.toList.take (L.length * 3) = mdCs L := by
    rcases h.row.2 with ⟨_, e⟩ | h
    · omega
    · exact h
  have HGw : Hid (w.grownBy w none) := ⟨rfl, rfl, rfl, Nat.le_refl _, fun _ _ _ => rfl⟩
  have hk1 : (k : Int) + 1 ≤ (L.length : Int) := by omega
  have hwk : IntKind.i64.wrap ((k : Int) + 1) = (k : Int) + 1 := IntWalk.i64_in _ (by omega)
  have hk2 : (k : Int) ≤ (cap : Int) := by omega
  have hk3 : (0 : Int) ≤ (k : Int) + 1 := by omega
  have hBl : B < w.heap.size := World.block_lt_of_cell? w _ c2
  clear h
  go_enter Tryz.func72, Tryz.ntmps72
  go_upto_region 3 with fail
  refine wp_region_L (B := [19]) (S := fun _ => True) (T := fun Z => Z.cell? ⟨B, o + 2, none⟩ = some (.slice (some ⟨g, 0, none⟩) L.length cap)) (by kernel_rfl) ⟨trivial, c2⟩ (fun hHeld => ?_)
  have HG0 : Hid (w.grownBy w.drew none) := HGw.out.trans ⟨rfl, rfl, rfl, Nat.le_refl _, fun _ _ _ => rfl⟩
  generalize w.drew = Y0 at hHeld HG0 ⊢
  refine wpAnyL_takeS (i := 0) (v := ?_) rfl (by kernel_rfl) (by kernel_rfl) (by kernel_rfl) (by kernel_rfl) (fun _ _ _ h => h) (Or.inl ⟨by rfl, ?_⟩) (by assumption) ?_
  rotate_left 1
  · intro wz _
    go_simp
    all_goals with_reducible rfl
  simp only [Act.put, List.setIfInBounds_toArray, List.set_cons_zero, List.set_cons_succ, List.getElem_toArray, List.getElem_cons_zero]
  refine wpAnyL_takeS (i := 2) (v := ?_) rfl (by kernel_rfl) (by kernel_rfl) (by kernel_rfl) (by kernel_rfl) (fun _ _ _ h => h) (Or.inl ⟨by rfl, ?_⟩) (by assumption) ?_
  rotate_left 1
  · intro wz _
    go_simp
    all_goals with_reducible rfl
  simp only [Act.put, List.setIfInBounds_toArray, List.set_cons_zero, List.set_cons_succ, List.getElem_toArray, List.getElem_cons_zero, List.getElem_cons_succ]
  refine wpAnyL_takeS (i := 3) (v := ?_) rfl (by kernel_rfl) (by kernel_rfl) (by kernel_rfl) (by kernel_rfl) (fun _ _ _ h => h) (Or.inl ⟨by rfl, ?_⟩) (by assumption) ?_
  rotate_left 1
  · intro wz _
    go_simp
    all_goals with_reducible rfl
  simp only [Act.put, List.setIfInBounds_toArray, List.set_cons_zero, List.set_cons_succ, List.getElem_toArray, List.getElem_cons_zero, List.getElem_cons_succ]
  refine wpAnyL_takeS (i := 4) (v := ?_) rfl (by kernel_rfl) (by kernel_rfl) (by kernel_rfl) (by kernel_rfl) (fun _ _ _ h => h) (Or.inl ⟨by rfl, ?_⟩) (by assumption) ?_
  rotate_left 1
  · intro wz _
    go_simp
    all_goals with_reducible rfl
  simp only [Act.put, List.setIfInBounds_toArray, List.set_cons_zero, List.set_cons_succ, List.getElem_toArray, List.getElem_cons_zero, List.getElem_cons_succ]
  refine wpAnyL_take [7, 8, 16, 19] (i := 5) (v := ?_) rfl (by kernel_rfl) (by kernel_rfl) (by kernel_rfl) (by kernel_rfl) (fun _ _ _ h => h) (Or.inl ⟨by rfl, ?_⟩) (by assumption) ?_
  rotate_left 1
  · intro wz ⟨_, y0⟩
    go_simp
    all_goals with_reducible rfl
  simp only [Act.put, List.setIfInBounds_toArray, List.set_cons_zero, List.set_cons_succ, List.getElem_toArray, List.getElem_cons_zero, List.getElem_cons_succ]
  refine wpAnyL_takeS (i := 6) (v := ?_) rfl (by kernel_rfl) (by kernel_rfl) (by kernel_rfl) (by kernel_rfl) (fun _ _ _ h => h) (Or.inl ⟨by rfl, ?_⟩) (by assumption) ?_
  rotate_left 1
  · intro wz _
    go_simp
    all_goals with_reducible rfl
  simp only [Act.put, List.setIfInBounds_toArray, List.set_cons_zero, List.set_cons_succ, List.getElem_toArray, List.getElem_cons_zero, List.getElem_cons_succ]
  refine wpAnyL_takeS (i := 7) (v := ?_) rfl (by kernel_rfl) (by kernel_rfl) (by kernel_rfl) (by kernel_rfl) (fun _ _ _ h => h) (Or.inl ⟨by rfl, ?_⟩) (by assumption) ?_
  rotate_left 1
  · intro wz _
    go_simp
    all_goals with_reducible rfl
  simp only [Act.put, List.setIfInBounds_toArray, List.set_cons_zero, List.set_cons_succ, List.getElem_toArray, List.getElem_cons_zero, List.getElem_cons_succ]
  refine wpAnyL_takeS (i := 9) (v := ?_) rfl (by kernel_rfl) (by kernel_rfl) (by kernel_rfl) (by kernel_rfl) (fun _ _ _ h => h) (Or.inl ⟨by rfl, ?_⟩) (by assumption) ?_
  rotate_left 1
  · intro wz _
    go_simp
    all_goals with_reducible rfl
  simp only [Act.put, List.setIfInBounds_toArray, List.set_cons_zero, List.set_cons_succ, List.getElem_toArray, List.getElem_cons_zero, List.getElem_cons_succ]
  refine wpAnyL_takeS (i := 10) (v := ?_) rfl (by kernel_rfl) (by kernel_rfl) (by kernel_rfl) (by kernel_rfl) (fun _ _ _ h => h) (Or.inl ⟨by rfl, ?_⟩) (by assumption) ?_
  rotate_left 1
  · intro wz _
    go_simp
    all_goals with_reducible rfl
  simp only [Act.put, List.setIfInBounds_toArray, List.set_cons_zero, List.set_cons_succ, List.getElem_toArray, List.getElem_cons_zero, List.getElem_cons_succ]
  refine wpAnyL_takeS (i := 11) (v := ?_) rfl (by kernel_rfl) (by kernel_rfl) (by kernel_rfl) (by kernel_rfl) (fun _ _ _ h => h) (Or.inl ⟨by rfl, ?_⟩) (by assumption) ?_
  rotate_left 1
  · intro wz _
    go_simp
    all_goals with_reducible rfl
  simp only [Act.put, List.setIfInBounds_toArray, List.set_cons_zero, List.set_cons_succ, List.getElem_toArray, List.getElem_cons_zero, List.getElem_cons_succ]
  refine wpAnyL_take [15, 16, 19] (i := 12) (v := ?_) rfl (by kernel_rfl) (by kernel_rfl) (by kernel_rfl) (by kernel_rfl) (fun _ _ _ h => h) (Or.inl ⟨by rfl, ?_⟩) (by assumption) ?_
  rotate_left 1
  · intro wz ⟨_, y0⟩
    go_simp
    all_goals with_reducible rfl
  simp only [Act.put, List.setIfInBounds_toArray, List.set_cons_zero, List.set_cons_succ, List.getElem_toArray, List.getElem_cons_zero, List.getElem_cons_succ]
  refine wpAnyL_takeS (i := 13) (v := ?_) rfl (by kernel_rfl) (by kernel_rfl) (by kernel_rfl) (by kernel_rfl) (fun _ _ _ h => h) (Or.inl ⟨by rfl, ?_⟩) (by assumption) ?_
  rotate_left 1
  · intro wz _
    go_simp
    all_goals with_reducible rfl
  simp only [Act.put, List.setIfInBounds_toArray, List.set_cons_zero, List.set_cons_succ, List.getElem_toArray, List.getElem_cons_zero, List.getElem_cons_succ]
  refine wpAnyL_takeS (i := 14) (v := ?_) rfl (by kernel_rfl) (by kernel_rfl) (by kernel_rfl) (by kernel_rfl) (fun _ _ _ h => h) (Or.inl ⟨by rfl, ?_⟩) (by assumption) ?_
  rotate_left 1
  · intro wz _
    go_simp
    all_goals with_reducible rfl
  simp only [Act.put, List.setIfInBounds_toArray, List.set_cons_zero, List.set_cons_succ, List.getElem_toArray, List.getElem_cons_zero, List.getElem_cons_succ]
  refine wpAnyL_takeS (i := 15) (v := ?_) rfl (by kernel_rfl) (by kernel_rfl) (by kernel_rfl) (by kernel_rfl) (fun _ _ _ h => h) (Or.inl ⟨by rfl, ?_⟩) (by assumption) ?_
  rotate_left 1
  · intro wz _
    go_simp
    all_goals with_reducible rfl
  simp only [Act.put, List.setIfInBounds_toArray, List.set_cons_zero, List.set_cons_succ, List.getElem_toArray, List.getElem_cons_zero, List.getElem_cons_succ]
  refine wpAnyL_ready (rs := [1]) (by kernel_rfl) (by simp) (AllReadyL.cons rfl (fun K hK => ?_) AllReadyL.nil)
  go_simp
  have HG1 : Hid (w.grownBy (Y0.alloc (.cells #[] 140)) none) := HG0.out.trans (World.grownBy_alloc Y0 _ none)
  have HR1 : Hid ((Y0.alloc (.cells #[] 140)).ownsRow w.heap.size 140 3 (.slice (some ⟨Y0.heap.size, 0, none⟩) 0 0) 0 []) := World.ownsRow_made Y0 #[] 0 HG0.out.size (Nat.zero_le _) rfl
  have hs0 := HG0.out.size
  have hT1 : (Y0.alloc (.cells #[] 140)).cell? ⟨B, o + 2, none⟩ = some (.slice (some ⟨g, 0, none⟩) L.length cap) := (World.cell?_alloc_lt _ _ ⟨B, o + 2, none⟩ (by show B < _; omega)).trans hHeld.2
  refine hK.out _ _ ⟨trivial, hT1⟩ (fun hHeld => ?_)
  clear hK K hT1
  generalize Y0.alloc (.cells #[] 140) = Y1 at hHeld HG1 HR1 ⊢
  obtain ⟨inf, i1, i2, i3, i4⟩ := info_parts' info49
  refine wpAnyL_ready (rs := [8]) (by kernel_rfl) (by simp) (AllReadyL.cons rfl (fun K hK => ?_) AllReadyL.nil)
  rw [if_pos (by rfl)]
  have hcel := (HN.out.row.kept HG1.out (Classical.em _)).cells (g := g) rfl
  have hs1 := HG1.out.size
  refine wp_append_own Y1 (.tmp 17) (.tmp 23) 49 rfl w.heap.size 140 inf _ 3 24 Tryz.underlying49 i1 i2 i3 i4 rfl (by decide) (.slice (some ⟨Y0.heap.size, 0, none⟩) 0 0) 0 [] rfl HR1.out ⟨g, 0, none⟩ k cap (mdCs (L.take k)) rfl (by rw [mdCs_len, List.length_take, Nat.min_eq_left (by omega)]) (fun j u hj => hcel j u (mdCs_take hj)) (fun u => mdCs_ones) (by unfold maxLen; omega) (by omega) hs1 ?_
  intro v1 w2 ho2 hg2 _
  have HG2 : Hid (w.grownBy w2 none) := grown_past HG1.out hg2 (fun b hb => by have : Y0.heap.size = b := Option.some.inj hb; omega)
  have HO2 : Hid (w2.ownsRow w.heap.size 140 3 v1 k (mdCs (L.take k))) := by
    show w2.ownsRow _ _ _ _ _ _
    simpa using ho2
  have hT2 : w2.cell? ⟨B, o + 2, none⟩ = some (.slice (some ⟨g, 0, none⟩) L.length cap) := (World.cell?_of_block (a := ⟨B, o + 2, none⟩) (HG2.out.block B hBl (by simp))).trans c2
  refine hK.out _ _ ⟨trivial, hT2⟩ (fun hHeld => ?_)
  clear hK K hT2 ho2 hg2 hcel hs1 HG1 HR1 hs0
  refine wpAnyL_ready (rs := [16]) (by kernel_rfl) (by simp) (AllReadyL.cons rfl (fun K hK => ?_) AllReadyL.nil)
  rw [if_pos (by rfl)]
  have hcel := (HN.out.row.kept HG2.out (Classical.em _)).cells (g := g) rfl
  have hif : (if cap = k + 1 then some (⟨g, 0, none⟩ : Addr) else some ⟨g, (k + 1) * 3, none⟩) = some (if cap = k + 1 then ⟨g, 0, none⟩ else ⟨g, (k + 1) * 3, none⟩) := by split <;> rfl
  have hnew2 : ∀ j u, (mdCs (L.drop (k + 1)))[j]? = some u → w2.cell? ((if cap = k + 1 then (⟨g, 0, none⟩ : Addr) else ⟨g, (k + 1) * 3, none⟩).add j) = some u := fun j u hj => by
    have hlt := (List.getElem?_eq_some_iff.1 hj).1
    rw [mdCs_len, List.length_drop] at hlt
    rw [if_neg (by omega), Addr.add_lit]
    have := hcel ((k + 1) * 3 + j) u (mdCs_drop (by omega) hj)
    rw [Addr.add_lit, Nat.zero_add] at this
    exact this
  refine wp_append_own w2 (.tmp 24) (.tmp 31) 49 rfl w.heap.size 140 inf _ 3 24 Tryz.underlying49 i1 i2 i3 i4 rfl (by decide) v1 k (mdCs (L.take k)) rfl HO2.out (if cap = k + 1 then ⟨g, 0, none⟩ else ⟨g, (k + 1) * 3, none⟩) (L.length - (k + 1)) (cap - (k + 1)) (mdCs (L.drop (k + 1))) (by rw [← hif]; rfl) (by rw [mdCs_len, List.length_drop]) hnew2 (fun u => mdCs_ones) (by unfold maxLen; omega) (by omega) HG2.out.size ?_
  intro v2 w3 ho3 hg3 _
  have HG3 : Hid (w.grownBy w3 none) := grown_past HG2.out hg3 (fun b hb => (HO2.out.lt b hb).1)
  have HO3 : Hid (w3.ownsRow w.heap.size 140 3 v2 (L.length - 1) (mdCs (L.eraseIdx k))) := by
    show w3.ownsRow _ _ _ _ _ _
    rw [List.eraseIdx_eq_take_drop_succ, mdCs_app, show L.length - 1 = k + (L.length - (k + 1)) by omega]
    exact ho3
  obtain ⟨a3, n3, cap3, rfl⟩ : ∃ a n cap, v2 = .slice a n cap := by
    rcases HO3.out.2 with ⟨e, _⟩ | ⟨g, cap, cur, e, _⟩
    · exact ⟨_, _, _, e⟩
    · exact ⟨_, _, _, e⟩
  have hT3 : w3.cell? ⟨B, o + 2, none⟩ = some (.slice (some ⟨g, 0, none⟩) L.length cap) := (World.cell?_of_block (a := ⟨B, o + 2, none⟩) (HG3.out.block B hBl (by simp))).trans c2
  have hfz : w3.frozen? ⟨B, o + 2, none⟩ = false := (World.frozen?_of_block (a := ⟨B, o + 2, none⟩) (HG3.out.block B hBl (by simp))).trans HN.out.f2
  have c6 := hT3
  refine hK.out _ _ ⟨trivial, hT3⟩ (fun hHeld => ?_)
  clear hK K hT3 ho3 hg3 hcel hif hnew2 i1 i2 i3 i4 inf HG2 HO2
  refine wpAnyL_takeS (i := 17) (v := ?_) rfl (by kernel_rfl) (by kernel_rfl) (by kernel_rfl) (by kernel_rfl) (fun _ _ _ h => h) (Or.inl ⟨by rfl, ?_⟩) (by assumption) ?_
  rotate_left 1
  · intro wz _
    go_simp
    all_goals with_reducible rfl
  simp only [Act.put, List.setIfInBounds_toArray, List.set_cons_zero, List.set_cons_succ, List.getElem_toArray, List.getElem_cons_zero, List.getElem_cons_succ]
  refine wpAnyL_takeS (i := 18) (v := ?_) rfl (by kernel_rfl) (by kernel_rfl) (by kernel_rfl) (by kernel_rfl) (fun _ _ _ h => h) (Or.inl ⟨by rfl, ?_⟩) (by assumption) ?_
  rotate_left 1
  · intro wz _
    go_simp
    all_goals with_reducible rfl
  simp only [Act.put, List.setIfInBounds_toArray, List.set_cons_zero, List.set_cons_succ, List.getElem_toArray, List.getElem_cons_zero, List.getElem_cons_succ]
  refine wpAnyL_ready (rs := [19]) (by kernel_rfl) (by simp) (AllReadyL.last rfl (by kernel_rfl) (fun K hK => ?_) AllReadyL.nil)
  go_simp
  refine hK.out _ _ trivial (fun _ => ?_)
  clear hK K hHeld
  refine wpAnyL_done (by kernel_rfl) ?_ _
  go_wp2
  all_goals (go_ret; exact .inr ⟨⟨by omega, by omega⟩, rfl, _, w3, HG3.out, rfl, HO3.out⟩)
end Go.Proofs.YtncnojgemmcplaaGreatDoor.St.Dc

namespace Go.Proofs.YtncnojgemmcplaaGreatDoor.St.Dc
open Go.RowKit

/-- Who can talk, in memory: rows of bools. -/
def LnkQ (w : World) (lv : Value) (M : List (List Bool)) : Prop :=
  ∃ a cap, lv = .slice a M.length cap ∧ (M = [] ∨ ∃ g off, a = some ⟨g, off, none⟩ ∧ ∀ i (hi : i < M.length), ∃ ra rc, w.cell? ⟨g, off + i, none⟩ = some (.slice ra M[i].length rc) ∧
    (M[i] = [] ∨ ∃ rg ro, ra = some ⟨rg, ro, none⟩ ∧ ∀ j (hj : j < M[i].length), w.cell? ⟨rg, ro + j, none⟩ = some (.bool M[i][j])))
theorem LnkQ.below {w w' : World} {lv : Value} {M : List (List Bool)} {B : Nat} (h : LnkQ w lv M) (hb : Below B w w') (hB : w.heap.size ≤ B) : LnkQ w' lv M := by
  obtain ⟨a, cap, e, h⟩ := h
  refine ⟨a, cap, e, h.imp id fun ⟨g, off, e, h⟩ => ⟨g, off, e, fun i hi => ?_⟩⟩
  obtain ⟨ra, rc, h1, h2⟩ := h i hi
  have k1 := World.block_lt_of_cell? w _ h1
  refine ⟨ra, rc, (hb.cell (p := ⟨g, off + i, none⟩) (Nat.lt_of_lt_of_le k1 hB)).trans h1, h2.imp id fun ⟨rg, ro, e, h⟩ => ⟨rg, ro, e, fun j hj => ?_⟩⟩
  have k2 := World.block_lt_of_cell? w _ (h j hj)
  exact (hb.cell (p := ⟨rg, ro + j, none⟩) (Nat.lt_of_lt_of_le k2 hB)).trans (h j hj)
def openL (cut : Bool) (M : List (List Bool)) (a b : Int) : Bool :=
  if cut = false then true else if 0 ≤ a ∧ 0 ≤ b then ((M[a.toNat]?).bind fun r => r[b.toNat]?).getD false else false

set_option maxRecDepth 100000 in
set_option maxHeartbeats 4000000 in
theorem open_any (x y : Int) (B o : Nat) (cut : Bool) (lv : Value) (M : List (List Bool)) (w : World) (c0 : w.cell? ⟨B, o, none⟩ = some (.bool cut)) (c1 : w.cell? ⟨B, o + 1, none⟩ = some lv) (hM : cut = true → LnkQ w lv M) :
    Calls Tryz.prog 103 #[.pointer (some ⟨B, o, none⟩), .int .i64 x, .int .i64 y] w fun e w' => e = .returned (.bool (openL cut M x y)) ∧ w' = w := by
  cases cut with
  | false =>
    clear hM
    go_enter Tryz.func103, Tryz.ntmps103
    go_wp2
    go_ret
    exact ⟨ret_bool rfl, rfl⟩
  | true =>
    have HM := hideIt (hM rfl)
    clear hM
    by_cases hx : 0 ≤ x
    · by_cases hy : 0 ≤ y
      · have hx' : decide (x ≥ 0) = true := decide_eq_true hx
        have hy' : decide (y ≥ 0) = true := decide_eq_true hy
        obtain ⟨la, lc, rfl, hr⟩ := HM.out
        by_cases hxl : x < M.length
        · have hxl' : decide (x < (M.length : Int)) = true := decide_eq_true hxl
          obtain ⟨g, off, rfl, hr2⟩ := hr.resolve_left (fun e => by rw [e] at hxl; simp at hxl; omega)
          obtain ⟨i, rfl⟩ : ∃ i : Nat, x = i := ⟨x.toNat, by omega⟩
          have hil : i < M.length := by omega
          obtain ⟨ra, rc, h1, h2⟩ := hr2 i hil
          have ho : openL true M i y = ((M[i])[y.toNat]?).getD false := by
            unfold openL
            rw [if_neg (by decide), if_pos ⟨hx, hy⟩, Int.toNat_natCast, List.getElem?_eq_getElem hil]; rfl
          rw [ho]
          generalize M[i] = row at h1 h2
          clear hr hr2 ho HM
          by_cases hyl : y < row.length
          · have hyl' : decide (y < (row.length : Int)) = true := decide_eq_true hyl
            obtain ⟨rg, ro, rfl, h4⟩ := h2.resolve_left (fun e => by rw [e] at hyl; simp at hyl; omega)
            obtain ⟨j, rfl⟩ : ∃ j : Nat, y = j := ⟨y.toNat, by omega⟩
            have hjl : j < row.length := by omega
            have h3 := h4 j hjl
            rw [Int.toNat_natCast, List.getElem?_eq_getElem hjl]
            generalize row[j] = bit at h3
            clear h2 h4
            go_enter Tryz.func103, Tryz.ntmps103
            go_wp2
            go_ret
            exact ⟨ret_bool rfl, rfl⟩
          · have hyl' : decide (y < (row.length : Int)) = false := decide_eq_false hyl
            have e3 : row[y.toNat]? = none := List.getElem?_eq_none (by omega)
            rw [e3]
            clear h2
            go_enter Tryz.func103, Tryz.ntmps103
            go_wp2
            go_ret
            exact ⟨ret_bool rfl, rfl⟩
        · have hxl' : decide (x < (M.length : Int)) = false := decide_eq_false hxl
          have ho : openL true M x y = false := by
            unfold openL
            rw [if_neg (by decide), if_pos ⟨hx, hy⟩, List.getElem?_eq_none (by omega)]; rfl
          rw [ho]
          clear hr
          go_enter Tryz.func103, Tryz.ntmps103
          go_wp2
          go_ret
          exact ⟨ret_bool rfl, rfl⟩
      · have hx' : decide (x ≥ 0) = true := decide_eq_true hx
        have hy' : decide (y ≥ 0) = false := decide_eq_false hy
        have ho : openL true M x y = false := by
          unfold openL
          rw [if_neg (by decide), if_neg (fun h => hy h.2)]
        rw [ho]
        go_enter Tryz.func103, Tryz.ntmps103
        go_wp2
        go_ret
        exact ⟨ret_bool rfl, rfl⟩
    · have hx' : decide (x ≥ 0) = false := decide_eq_false hx
      have ho : openL true M x y = false := by
        unfold openL
        rw [if_neg (by decide), if_neg (fun h => hx h.1)]
      rw [ho]
      go_enter Tryz.func103, Tryz.ntmps103
      go_wp2
      go_ret
      exact ⟨ret_bool rfl, rfl⟩
end Go.Proofs.YtncnojgemmcplaaGreatDoor.St.Dc
