/-
  The document's net, walked: Take.
  The document's net, walked: Double.
-/
import Derived.Test.YtncnojgemmcplaaGreatDoorNoWZ
namespace Go.Proofs.YtncnojgemmcplaaGreatDoor.St.Dc
open Go.RowKit

def mdV (m : Md) : Value := .agg #[.int .i64 m.fr, .int .i64 m.to, .int .i64 m.wh]
def md0 : Md := ⟨0, 0, 0⟩
/-- What Take tells. -/
def TakeTold (B o : Nat) (cut : Bool) (M : List (List Bool)) (L : List Md) (i : Int) (w : World) (e : Ending) (w' : World) : Prop :=
  ((i < 0 ∨ (L.length : Int) ≤ i) ∧ e = .returned (.tuple #[mdV md0, .int .i64 8]) ∧ Below w.heap.size w w') ∨
  (∃ (k : Nat) (m : Md), i = k ∧ L[k]? = some m ∧ openL cut M m.fr m.to = false ∧ e = .returned (.tuple #[mdV md0, .int .i64 6]) ∧ Below w.heap.size w w') ∨
  (∃ (k : Nat) (m : Md), i = k ∧ L[k]? = some m ∧ openL cut M m.fr m.to = true ∧ e = .returned (.tuple #[mdV m, .int .i64 0]) ∧ GoneTold B o L k w w')
theorem results_two {fn : Func} {p u : Tmp} {ty : TypeId} (h : fn.results = #[.cell p ty, .tmp u]) (tmps : Array Value) (w : World) (g : Nat) (v : Value)
    (hp : tmps.getD p undef = .pointer (some ⟨g, 0, none⟩)) (hl : (loadVar ty ⟨g, 0, none⟩).run Tryz.prog w = .ok v w) : (results fn tmps).run Tryz.prog w = .ok (.tuple #[v, tmps.getD u undef]) w := by
  rw [results_cell_tmp h]
  simp only [hp, asAddr, Sem.run_pure, Result.andThen_ok, hl]
theorem size49 : (Tryz.prog.info? 140).map (·.size) = some 3 := by kernel_rfl
theorem loadMd {w : World} {g : Nat} {v u x : Value} (h : w.cell? ⟨g, 0, none⟩ = some v) (h' : w.cell? ⟨g, 1, none⟩ = some u) (h'' : w.cell? ⟨g, 2, none⟩ = some x) : (loadVar 140 ⟨g, 0, none⟩).run Tryz.prog w = .ok (.agg #[v, u, x]) w :=
  run_loadVar_mid w g 0 140 [v, u, x] _ (fun j y hy => by
    match j with
    | 0 => simp at hy; subst hy; exact h
    | 1 => simp at hy; subst hy; exact h'
    | 2 => simp at hy; subst hy; exact h''
    | j + 3 => simp at hy) Tryz.underlying140 rfl size49

set_option maxRecDepth 100000 in
set_option maxHeartbeats 4000000 in
theorem take_any (i : Int) (base B o : Nat) (cut : Bool) (lv v : Value) (M : List (List Bool)) (L : List Md) (hL : L.length ≤ 500) (w : World) (h : NetD w base B o cut lv v L) (hM : cut = true → LnkQ w lv M) :
    Calls Tryz.prog 68 #[.pointer (some ⟨B, o, none⟩), .int .i64 i] w fun e w' => TakeTold B o cut M L i w e w' := by
  have HN := hideIt h
  have HM := hideIt hM
  have hBl : B < w.heap.size := World.block_lt_of_cell? w _ h.c2
  have c2w : (w.alloc (.cells #[.int .i64 0, .int .i64 0, .int .i64 0] 140)).cell? ⟨B, o + 2, none⟩ = some v := (World.cell?_alloc_lt _ _ ⟨B, o + 2, none⟩ hBl).trans h.c2
  have HB0 := hideIt (belA (Below.refl _ w) (.cells #[.int .i64 0, .int .i64 0, .int .i64 0] 140))
  clear hM
  by_cases h0 : i < 0
  · have h0' : decide (i < 0) = true := decide_eq_true h0
    have H1 := hideIt h0
    clear h
    go_enter Tryz.func68, Tryz.ntmps68
    go_wp2
    obtain ⟨z0, z1, z2⟩ := blk3 (heap_alloc_new w (.cells #[.int .i64 0, .int .i64 0, .int .i64 0] 140))
    exact bodyPost_ret (results_two rfl _ _ _ _ rfl (loadMd z0 z1 z2)) rfl (.inl ⟨.inl H1.out, rfl, HB0.out⟩)
  have h0' : decide (i < 0) = false := decide_eq_false h0
  by_cases h1 : (L.length : Int) ≤ i
  · obtain ⟨va, vc, rfl⟩ := h.slice
    have h1' : decide (i ≥ (L.length : Int)) = true := decide_eq_true h1
    have H1 := hideIt h1
    clear h
    go_enter Tryz.func68, Tryz.ntmps68
    go_wp2
    obtain ⟨z0, z1, z2⟩ := blk3 (heap_alloc_new w (.cells #[.int .i64 0, .int .i64 0, .int .i64 0] 140))
    exact bodyPost_ret (results_two rfl _ _ _ _ rfl (loadMd z0 z1 z2)) rfl (.inl ⟨.inr H1.out, rfl, HB0.out⟩)
  have h1' : decide (i ≥ (L.length : Int)) = false := decide_eq_false h1
  obtain ⟨k, rfl⟩ : ∃ k : Nat, i = k := ⟨i.toNat, by omega⟩
  have hk : k < L.length := by omega
  have hkL : (k : Int) < (L.length : Int) := by omega
  obtain ⟨g, cap, cur, rfl, hbg, hgc, hnc, hcm, hcs, hcx⟩ : ∃ g cap cur, v = .slice (some ⟨g, 0, none⟩) L.length cap ∧ base ≤ g ∧ w.heap[g]? = some (.cells cur 140 (0, 0)) ∧ L.length ≤ cap ∧ cap ≤ maxLen ∧ cur.size = cap * 3 ∧ cur.toList.take (L.length * 3) = mdCs L := by
    rcases h.row.2 with ⟨_, e⟩ | h
    · omega
    · exact h
  have hcelw := (HN.out.row.alloc (.cells #[.int .i64 0, .int .i64 0, .int .i64 0] 140)).cells (g := g) rfl
  have HLk : Hid (L[k]? = some L[k]) := List.getElem?_eq_getElem hk
  have hmk : ∀ j u, (mdC L[k])[j]? = some u → (mdCs L)[k * 3 + j]? = some u := fun j u hj => by
    refine mdCs_drop (Nat.le_of_lt hk) ?_
    rw [List.drop_eq_getElem_cons hk, show L[k] :: L.drop (k + 1) = [L[k]] ++ L.drop (k + 1) from rfl, mdCs_app, mdCs_one, List.getElem?_append_left (List.getElem?_eq_some_iff.1 hj).1]
    exact hj
  generalize L[k] = m at hmk HLk
  have cm0 := hcelw _ _ (hmk 0 _ rfl)
  have cm1 := hcelw _ _ (hmk 1 _ rfl)
  have cm2 := hcelw _ _ (hmk 2 _ rfl)
  rw [Addr.add_lit, Nat.zero_add] at cm0 cm1 cm2
  simp only [Nat.add_zero] at cm0
  clear h hcelw hmk
  go_enter Tryz.func68, Tryz.ntmps68
  go_wp2_with fail
  have HG2 : Hid (w.grownBy ((w.alloc (.cells #[.int .i64 0, .int .i64 0, .int .i64 0] 140)).alloc (.cells #[.int .i64 m.fr, .int .i64 m.to, .int .i64 m.wh] 140)) none) := (World.grownBy_alloc w _ none).trans (World.grownBy_alloc _ _ none)
  have HB2 := hideIt (belA HB0.out (.cells #[.int .i64 m.fr, .int .i64 m.to, .int .i64 m.wh] 140))
  have HN2 := hideIt (HN.out.new HG2.out)
  have HR0 : Hid (((w.alloc (.cells #[.int .i64 0, .int .i64 0, .int .i64 0] 140)).alloc (.cells #[.int .i64 m.fr, .int .i64 m.to, .int .i64 m.wh] 140)).heap[w.heap.size]? = some (.cells #[.int .i64 0, .int .i64 0, .int .i64 0] 140)) := blkA (heap_alloc_new w _)
  have HR1 : Hid (((w.alloc (.cells #[.int .i64 0, .int .i64 0, .int .i64 0] 140)).alloc (.cells #[.int .i64 m.fr, .int .i64 m.to, .int .i64 m.wh] 140)).heap[w.heap.size + 1]? = some (.cells #[.int .i64 m.fr, .int .i64 m.to, .int .i64 m.wh] 140)) := by
    have := heap_alloc_new (w.alloc (.cells #[.int .i64 0, .int .i64 0, .int .i64 0] 140)) (.cells #[.int .i64 m.fr, .int .i64 m.to, .int .i64 m.wh] 140)
    rw [World.size_alloc] at this
    exact this
  refine (open_any m.fr m.to B o cut lv M _ HN2.out.c0 HN2.out.c1 (fun e => (HM.out e).below HB2.out (Nat.le_refl _))).mono ?_
  rintro e w4 ⟨rfl, rfl⟩
  cases hop : openL cut M m.fr m.to with
  | false =>
    go_wp2
    obtain ⟨z0, z1, z2⟩ := blk3 HR0.out
    exact bodyPost_ret (results_two rfl _ _ _ _ rfl (loadMd z0 z1 z2)) rfl (.inr (.inl ⟨k, m, rfl, HLk.out, hop, rfl, HB2.out⟩))
  | true =>
    have Hop := hideIt hop
    clear hop cm0 cm1 cm2 c2w HB0 hcx hcs hgc
    go_upto_region 6 with fail
    have hs2 : w.heap.size + 2 ≤ ((w.alloc (.cells #[.int .i64 0, .int .i64 0, .int .i64 0] 140)).alloc (.cells #[.int .i64 m.fr, .int .i64 m.to, .int .i64 m.wh] 140)).heap.size := by simp
    generalize (w.alloc (.cells #[.int .i64 0, .int .i64 0, .int .i64 0] 140)).alloc (.cells #[.int .i64 m.fr, .int .i64 m.to, .int .i64 m.wh] 140) = W2 at HG2 HB2 HN2 HR0 HR1 hs2 ⊢
    have c2 := HN2.out.c2
    have hBl2 : B < W2.heap.size := by omega
    have HGw : Hid (W2.grownBy W2 none) := ⟨rfl, rfl, rfl, Nat.le_refl _, fun _ _ _ => rfl⟩
    have hk1 : (k : Int) + 1 ≤ (L.length : Int) := by omega
    have hwk : IntKind.i64.wrap ((k : Int) + 1) = (k : Int) + 1 := IntWalk.i64_in _ (by omega)
    have hk2 : (k : Int) ≤ (cap : Int) := by omega
    have hk3 : (0 : Int) ≤ (k : Int) + 1 := by omega
    refine wp_region_L (B := [19]) (S := fun _ => True) (T := fun Z => Z.cell? ⟨B, o + 2, none⟩ = some (.slice (some ⟨g, 0, none⟩) L.length cap)) (by kernel_rfl) ⟨trivial, c2⟩ (fun hHeld => ?_)
    have HG0 : Hid (W2.grownBy W2.drew none) := HGw.out.trans ⟨rfl, rfl, rfl, Nat.le_refl _, fun _ _ _ => rfl⟩
    generalize W2.drew = Y0 at hHeld HG0 ⊢
    refine wpAnyL_takeS (i := 0) (v := ?_) rfl (by kernel_rfl) (by kernel_rfl) (by kernel_rfl) (by kernel_rfl) (fun _ _ _ h => h) (Or.inl ⟨by rfl, ?_⟩) (by assumption) ?_
    rotate_left 1
    · intro wz _
      go_simp
      all_goals with_reducible rfl
    simp only [Act.put, List.setIfInBounds_toArray, List.set_cons_zero, List.set_cons_succ, List.getElem_toArray, List.getElem_cons_zero]
    refine wpAnyL_takeS (i := 2) (v := ?_) rfl (by kernel_rfl) (by kernel_rfl) (by kernel_rfl) (by kernel_rfl) (fun _ _ _ h => h) (Or.inl ⟨by rfl, ?_⟩) (by assumption) ?_
    rotate_left 1
    · intro wz _
      go_simp
      all_goals with_reducible rfl
    simp only [Act.put, List.setIfInBounds_toArray, List.set_cons_zero, List.set_cons_succ, List.getElem_toArray, List.getElem_cons_zero, List.getElem_cons_succ]
    refine wpAnyL_takeS (i := 3) (v := ?_) rfl (by kernel_rfl) (by kernel_rfl) (by kernel_rfl) (by kernel_rfl) (fun _ _ _ h => h) (Or.inl ⟨by rfl, ?_⟩) (by assumption) ?_
    rotate_left 1
    · intro wz _
      go_simp
      all_goals with_reducible rfl
    simp only [Act.put, List.setIfInBounds_toArray, List.set_cons_zero, List.set_cons_succ, List.getElem_toArray, List.getElem_cons_zero, List.getElem_cons_succ]
    refine wpAnyL_takeS (i := 4) (v := ?_) rfl (by kernel_rfl) (by kernel_rfl) (by kernel_rfl) (by kernel_rfl) (fun _ _ _ h => h) (Or.inl ⟨by rfl, ?_⟩) (by assumption) ?_
    rotate_left 1
    · intro wz _
      go_simp
      all_goals with_reducible rfl
    simp only [Act.put, List.setIfInBounds_toArray, List.set_cons_zero, List.set_cons_succ, List.getElem_toArray, List.getElem_cons_zero, List.getElem_cons_succ]
    refine wpAnyL_take [7, 8, 16, 19] (i := 5) (v := ?_) rfl (by kernel_rfl) (by kernel_rfl) (by kernel_rfl) (by kernel_rfl) (fun _ _ _ h => h) (Or.inl ⟨by rfl, ?_⟩) (by assumption) ?_
    rotate_left 1
    · intro wz ⟨_, y0⟩
      go_simp
      all_goals with_reducible rfl
    simp only [Act.put, List.setIfInBounds_toArray, List.set_cons_zero, List.set_cons_succ, List.getElem_toArray, List.getElem_cons_zero, List.getElem_cons_succ]
    refine wpAnyL_takeS (i := 6) (v := ?_) rfl (by kernel_rfl) (by kernel_rfl) (by kernel_rfl) (by kernel_rfl) (fun _ _ _ h => h) (Or.inl ⟨by rfl, ?_⟩) (by assumption) ?_
    rotate_left 1
    · intro wz _
      go_simp
      all_goals with_reducible rfl
    simp only [Act.put, List.setIfInBounds_toArray, List.set_cons_zero, List.set_cons_succ, List.getElem_toArray, List.getElem_cons_zero, List.getElem_cons_succ]
    refine wpAnyL_takeS (i := 7) (v := ?_) rfl (by kernel_rfl) (by kernel_rfl) (by kernel_rfl) (by kernel_rfl) (fun _ _ _ h => h) (Or.inl ⟨by rfl, ?_⟩) (by assumption) ?_
    rotate_left 1
    · intro wz _
      go_simp
      all_goals with_reducible rfl
    simp only [Act.put, List.setIfInBounds_toArray, List.set_cons_zero, List.set_cons_succ, List.getElem_toArray, List.getElem_cons_zero, List.getElem_cons_succ]
    refine wpAnyL_takeS (i := 9) (v := ?_) rfl (by kernel_rfl) (by kernel_rfl) (by kernel_rfl) (by kernel_rfl) (fun _ _ _ h => h) (Or.inl ⟨by rfl, ?_⟩) (by assumption) ?_
    rotate_left 1
    · intro wz _
      go_simp
      all_goals with_reducible rfl
    simp only [Act.put, List.setIfInBounds_toArray, List.set_cons_zero, List.set_cons_succ, List.getElem_toArray, List.getElem_cons_zero, List.getElem_cons_succ]
    refine wpAnyL_takeS (i := 10) (v := ?_) rfl (by kernel_rfl) (by kernel_rfl) (by kernel_rfl) (by kernel_rfl) (fun _ _ _ h => h) (Or.inl ⟨by rfl, ?_⟩) (by assumption) ?_
    rotate_left 1
    · intro wz _
      go_simp
      all_goals with_reducible rfl
    simp only [Act.put, List.setIfInBounds_toArray, List.set_cons_zero, List.set_cons_succ, List.getElem_toArray, List.getElem_cons_zero, List.getElem_cons_succ]
    refine wpAnyL_takeS (i := 11) (v := ?_) rfl (by kernel_rfl) (by kernel_rfl) (by kernel_rfl) (by kernel_rfl) (fun _ _ _ h => h) (Or.inl ⟨by rfl, ?_⟩) (by assumption) ?_
    rotate_left 1
    · intro wz _
      go_simp
      all_goals with_reducible rfl
    simp only [Act.put, List.setIfInBounds_toArray, List.set_cons_zero, List.set_cons_succ, List.getElem_toArray, List.getElem_cons_zero, List.getElem_cons_succ]
    refine wpAnyL_take [15, 16, 19] (i := 12) (v := ?_) rfl (by kernel_rfl) (by kernel_rfl) (by kernel_rfl) (by kernel_rfl) (fun _ _ _ h => h) (Or.inl ⟨by rfl, ?_⟩) (by assumption) ?_
    rotate_left 1
    · intro wz ⟨_, y0⟩
      go_simp
      all_goals with_reducible rfl
    simp only [Act.put, List.setIfInBounds_toArray, List.set_cons_zero, List.set_cons_succ, List.getElem_toArray, List.getElem_cons_zero, List.getElem_cons_succ]
    refine wpAnyL_takeS (i := 13) (v := ?_) rfl (by kernel_rfl) (by kernel_rfl) (by kernel_rfl) (by kernel_rfl) (fun _ _ _ h => h) (Or.inl ⟨by rfl, ?_⟩) (by assumption) ?_
    rotate_left 1
    · intro wz _
      go_simp
      all_goals with_reducible rfl
    simp only [Act.put, List.setIfInBounds_toArray, List.set_cons_zero, List.set_cons_succ, List.getElem_toArray, List.getElem_cons_zero, List.getElem_cons_succ]
    refine wpAnyL_takeS (i := 14) (v := ?_) rfl (by kernel_rfl) (by kernel_rfl) (by kernel_rfl) (by kernel_rfl) (fun _ _ _ h => h) (Or.inl ⟨by rfl, ?_⟩) (by assumption) ?_
    rotate_left 1
    · intro wz _
      go_simp
      all_goals with_reducible rfl
    simp only [Act.put, List.setIfInBounds_toArray, List.set_cons_zero, List.set_cons_succ, List.getElem_toArray, List.getElem_cons_zero, List.getElem_cons_succ]
    refine wpAnyL_takeS (i := 15) (v := ?_) rfl (by kernel_rfl) (by kernel_rfl) (by kernel_rfl) (by kernel_rfl) (fun _ _ _ h => h) (Or.inl ⟨by rfl, ?_⟩) (by assumption) ?_
    rotate_left 1
    · intro wz _
      go_simp
      all_goals with_reducible rfl
    simp only [Act.put, List.setIfInBounds_toArray, List.set_cons_zero, List.set_cons_succ, List.getElem_toArray, List.getElem_cons_zero, List.getElem_cons_succ]
    refine wpAnyL_ready (rs := [1]) (by kernel_rfl) (by simp) (AllReadyL.cons rfl (fun K hK => ?_) AllReadyL.nil)
    go_simp
    have HG1 : Hid (W2.grownBy (Y0.alloc (.cells #[] 140)) none) := HG0.out.trans (World.grownBy_alloc Y0 _ none)
    have HR1 : Hid ((Y0.alloc (.cells #[] 140)).ownsRow W2.heap.size 140 3 (.slice (some ⟨Y0.heap.size, 0, none⟩) 0 0) 0 []) := World.ownsRow_made Y0 #[] 0 HG0.out.size (Nat.zero_le _) rfl
    have hs0 := HG0.out.size
    have hT1 : (Y0.alloc (.cells #[] 140)).cell? ⟨B, o + 2, none⟩ = some (.slice (some ⟨g, 0, none⟩) L.length cap) := (World.cell?_alloc_lt _ _ ⟨B, o + 2, none⟩ (by show B < _; omega)).trans hHeld.2
    refine hK.out _ _ ⟨trivial, hT1⟩ (fun hHeld => ?_)
    clear hK K hT1
    generalize Y0.alloc (.cells #[] 140) = Y1 at hHeld HG1 HR1 ⊢
    obtain ⟨inf, i1, i2, i3, i4⟩ := info_parts' info49
    refine wpAnyL_ready (rs := [8]) (by kernel_rfl) (by simp) (AllReadyL.cons rfl (fun K hK => ?_) AllReadyL.nil)
    rw [if_pos (by rfl)]
    have hcel := (HN2.out.row.kept HG1.out (Classical.em _)).cells (g := g) rfl
    have hs1 := HG1.out.size
    refine wp_append_own Y1 (.tmp 35) (.tmp 41) 49 rfl W2.heap.size 140 inf _ 3 24 Tryz.underlying49 i1 i2 i3 i4 rfl (by decide) (.slice (some ⟨Y0.heap.size, 0, none⟩) 0 0) 0 [] rfl HR1.out ⟨g, 0, none⟩ k cap (mdCs (L.take k)) rfl (by rw [mdCs_len, List.length_take, Nat.min_eq_left (by omega)]) (fun j u hj => hcel j u (mdCs_take hj)) (fun u => mdCs_ones) (by unfold maxLen; omega) (by omega) hs1 ?_
    intro v1 w2 ho2 hg2 _
    have HG2 : Hid (W2.grownBy w2 none) := grown_past HG1.out hg2 (fun b hb => by have : Y0.heap.size = b := Option.some.inj hb; omega)
    have HO2 : Hid (w2.ownsRow W2.heap.size 140 3 v1 k (mdCs (L.take k))) := by
      show w2.ownsRow _ _ _ _ _ _
      simpa using ho2
    have hT2 : w2.cell? ⟨B, o + 2, none⟩ = some (.slice (some ⟨g, 0, none⟩) L.length cap) := (World.cell?_of_block (a := ⟨B, o + 2, none⟩) (HG2.out.block B hBl2 (by simp))).trans c2
    refine hK.out _ _ ⟨trivial, hT2⟩ (fun hHeld => ?_)
    clear hK K hT2 ho2 hg2 hcel hs1 HG1 HR1 hs0
    refine wpAnyL_ready (rs := [16]) (by kernel_rfl) (by simp) (AllReadyL.cons rfl (fun K hK => ?_) AllReadyL.nil)
    rw [if_pos (by rfl)]
    have hcel := (HN2.out.row.kept HG2.out (Classical.em _)).cells (g := g) rfl
    have hif : (if cap = k + 1 then some (⟨g, 0, none⟩ : Addr) else some ⟨g, (k + 1) * 3, none⟩) = some (if cap = k + 1 then ⟨g, 0, none⟩ else ⟨g, (k + 1) * 3, none⟩) := by split <;> rfl
    have hnew2 : ∀ j u, (mdCs (L.drop (k + 1)))[j]? = some u → w2.cell? ((if cap = k + 1 then (⟨g, 0, none⟩ : Addr) else ⟨g, (k + 1) * 3, none⟩).add j) = some u := fun j u hj => by
      have hlt := (List.getElem?_eq_some_iff.1 hj).1
      rw [mdCs_len, List.length_drop] at hlt
      rw [if_neg (by omega), Addr.add_lit]
      have := hcel ((k + 1) * 3 + j) u (mdCs_drop (by omega) hj)
      rw [Addr.add_lit, Nat.zero_add] at this
      exact this
    refine wp_append_own w2 (.tmp 42) (.tmp 49) 49 rfl W2.heap.size 140 inf _ 3 24 Tryz.underlying49 i1 i2 i3 i4 rfl (by decide) v1 k (mdCs (L.take k)) rfl HO2.out (if cap = k + 1 then ⟨g, 0, none⟩ else ⟨g, (k + 1) * 3, none⟩) (L.length - (k + 1)) (cap - (k + 1)) (mdCs (L.drop (k + 1))) (by rw [← hif]; rfl) (by rw [mdCs_len, List.length_drop]) hnew2 (fun u => mdCs_ones) (by unfold maxLen; omega) (by omega) HG2.out.size ?_
    intro v2 w3 ho3 hg3 _
    have HG3 : Hid (W2.grownBy w3 none) := grown_past HG2.out hg3 (fun b hb => (HO2.out.lt b hb).1)
    have HO3 : Hid (w3.ownsRow W2.heap.size 140 3 v2 (L.length - 1) (mdCs (L.eraseIdx k))) := by
      show w3.ownsRow _ _ _ _ _ _
      rw [List.eraseIdx_eq_take_drop_succ, mdCs_app, show L.length - 1 = k + (L.length - (k + 1)) by omega]
      exact ho3
    obtain ⟨a3, n3, cap3, rfl⟩ : ∃ a n cap, v2 = .slice a n cap := by
      rcases HO3.out.2 with ⟨e, _⟩ | ⟨g, cap, cur, e, _⟩
      · exact ⟨_, _, _, e⟩
      · exact ⟨_, _, _, e⟩
    have hT3 : w3.cell? ⟨B, o + 2, none⟩ = some (.slice (some ⟨g, 0, none⟩) L.length cap) := (World.cell?_of_block (a := ⟨B, o + 2, none⟩) (HG3.out.block B hBl2 (by simp))).trans c2
    have hfz : w3.frozen? ⟨B, o + 2, none⟩ = false := (World.frozen?_of_block (a := ⟨B, o + 2, none⟩) (HG3.out.block B hBl2 (by simp))).trans HN2.out.f2
    have c6 := hT3
    refine hK.out _ _ ⟨trivial, hT3⟩ (fun hHeld => ?_)
    clear hK K hT3 ho3 hg3 hcel hif hnew2 i1 i2 i3 i4 inf HG2 HO2
    refine wpAnyL_takeS (i := 17) (v := ?_) rfl (by kernel_rfl) (by kernel_rfl) (by kernel_rfl) (by kernel_rfl) (fun _ _ _ h => h) (Or.inl ⟨by rfl, ?_⟩) (by assumption) ?_
    rotate_left 1
    · intro wz _
      go_simp
      all_goals with_reducible rfl
    simp only [Act.put, List.setIfInBounds_toArray, List.set_cons_zero, List.set_cons_succ, List.getElem_toArray, List.getElem_cons_zero, List.getElem_cons_succ]
    refine wpAnyL_takeS (i := 18) (v := ?_) rfl (by kernel_rfl) (by kernel_rfl) (by kernel_rfl) (by kernel_rfl) (fun _ _ _ h => h) (Or.inl ⟨by rfl, ?_⟩) (by assumption) ?_
    rotate_left 1
    · intro wz _
      go_simp
      all_goals with_reducible rfl
    simp only [Act.put, List.setIfInBounds_toArray, List.set_cons_zero, List.set_cons_succ, List.getElem_toArray, List.getElem_cons_zero, List.getElem_cons_succ]
    refine wpAnyL_ready (rs := [19]) (by kernel_rfl) (by simp) (AllReadyL.last rfl (by kernel_rfl) (fun K hK => ?_) AllReadyL.nil)
    go_simp
    refine hK.out _ _ trivial (fun _ => ?_)
    clear hK K hHeld
    refine wpAnyL_done (by kernel_rfl) ?_ _
    have hr0 : w3.heap[w.heap.size]? = some (.cells #[.int .i64 0, .int .i64 0, .int .i64 0] 140) := (HG3.out.block _ (by omega) (by simp)).trans HR0.out
    have hr1 : w3.heap[w.heap.size + 1]? = some (.cells #[.int .i64 m.fr, .int .i64 m.to, .int .i64 m.wh] 140) := (HG3.out.block _ (by omega) (by simp)).trans HR1.out
    have hq0 : (w3.setCell ⟨B, o + 2, none⟩ (.slice a3 n3 cap3)).heap[w.heap.size]? = some (.cells #[.int .i64 0, .int .i64 0, .int .i64 0] 140) := (Below.heap_setCell _ _ _ _ (by simp only; omega)).trans hr0
    have hq1 : (w3.setCell ⟨B, o + 2, none⟩ (.slice a3 n3 cap3)).heap[w.heap.size + 1]? = some (.cells #[.int .i64 m.fr, .int .i64 m.to, .int .i64 m.wh] 140) := (Below.heap_setCell _ _ _ _ (by simp only; omega)).trans hr1
    obtain ⟨z0, z1, z2⟩ := blk3 hq0
    obtain ⟨n0, n1, n2⟩ := blk3 hq1
    have f0 := frozen_of_row _ _ 0 _ 140 hq0
    have f1 := frozen_of_row _ _ 1 _ 140 hq0
    have f2 := frozen_of_row _ _ 2 _ 140 hq0
    have HW := hideIt (rfl : w3.setCell ⟨B, o + 2, none⟩ (.slice a3 n3 cap3) = w3.setCell ⟨B, o + 2, none⟩ (.slice a3 n3 cap3))
    generalize hW : w3.setCell ⟨B, o + 2, none⟩ (.slice a3 n3 cap3) = W4 at z0 z1 z2 n0 n1 n2 f0 f1 f2 ⊢
    have HW4 := hideIt hW
    clear hW HW hq0 hq1 hr0 hr1
    have HLd : Hid ((loadVar 140 ⟨w.heap.size, 0, none⟩).run Tryz.prog (((W4.setCell ⟨w.heap.size, 0, none⟩ (.int .i64 m.fr)).setCell ⟨w.heap.size, 1, none⟩ (.int .i64 m.to)).setCell ⟨w.heap.size, 2, none⟩ (.int .i64 m.wh)) = .ok (.agg #[.int .i64 m.fr, .int .i64 m.to, .int .i64 m.wh]) (((W4.setCell ⟨w.heap.size, 0, none⟩ (.int .i64 m.fr)).setCell ⟨w.heap.size, 1, none⟩ (.int .i64 m.to)).setCell ⟨w.heap.size, 2, none⟩ (.int .i64 m.wh))) := by
      refine loadMd ?_ ?_ (World.cell?_setCell_same _ _ _ (u := .int .i64 0) ?_)
      · rw [World.cell?_setCell_other _ _ _ _ (offN (by omega)), World.cell?_setCell_other _ _ _ _ (offN (by omega))]
        exact World.cell?_setCell_same _ _ _ z0
      · rw [World.cell?_setCell_other _ _ _ _ (offN (by omega))]
        refine World.cell?_setCell_same _ _ _ (u := .int .i64 0) ?_
        rw [World.cell?_setCell_other _ _ _ _ (offN (by omega))]
        exact z1
      · rw [World.cell?_setCell_other _ _ _ _ (offN (by omega)), World.cell?_setCell_other _ _ _ _ (offN (by omega))]
        exact z2
    have hBr : B ≠ w.heap.size := by omega
    have HF : Hid (GoneTold B o L k w (((W4.setCell ⟨w.heap.size, 0, none⟩ (.int .i64 m.fr)).setCell ⟨w.heap.size, 1, none⟩ (.int .i64 m.to)).setCell ⟨w.heap.size, 2, none⟩ (.int .i64 m.wh))) := by
      have g1 := grown_setCell w3 ⟨w.heap.size, 0, none⟩ (.int .i64 m.fr)
      have g2 := grown_setCell (w3.setCell ⟨w.heap.size, 0, none⟩ (.int .i64 m.fr)) ⟨w.heap.size, 1, none⟩ (.int .i64 m.to)
      have g3 := grown_setCell ((w3.setCell ⟨w.heap.size, 0, none⟩ (.int .i64 m.fr)).setCell ⟨w.heap.size, 1, none⟩ (.int .i64 m.to)) ⟨w.heap.size, 2, none⟩ (.int .i64 m.wh)
      have g := (g1.trans g2).trans g3
      refine ⟨.slice a3 n3 cap3, ((w3.setCell ⟨w.heap.size, 0, none⟩ (.int .i64 m.fr)).setCell ⟨w.heap.size, 1, none⟩ (.int .i64 m.to)).setCell ⟨w.heap.size, 2, none⟩ (.int .i64 m.wh), grown_past (HG2.out.trans HG3.out) g (fun b hb => by have : w.heap.size = b := Option.some.inj hb; omega), ?_, ?_⟩
      · rw [← HW4.out, setCell_comm w3 (p := ⟨B, o + 2, none⟩) (q := ⟨w.heap.size, 0, none⟩) hBr, setCell_comm _ (p := ⟨B, o + 2, none⟩) (q := ⟨w.heap.size, 1, none⟩) hBr, setCell_comm _ (p := ⟨B, o + 2, none⟩) (q := ⟨w.heap.size, 2, none⟩) hBr]
      · refine ownsRow_base (HO3.out.kept g (.inr fun e => ?_)) (by omega)
        have : W2.heap.size ≤ w.heap.size := (HO3.out.lt w.heap.size e).1
        omega
    clear HW4 HO3 HG3
    go_wp2
    all_goals exact bodyPost_ret (results_two rfl _ _ _ _ rfl HLd.out) rfl (.inr (.inr ⟨k, m, rfl, HLk.out, Hop.out, rfl, HF.out⟩))
end Go.Proofs.YtncnojgemmcplaaGreatDoor.St.Dc

namespace Go.Proofs.YtncnojgemmcplaaGreatDoor.St.Dc
open Go.RowKit

/-- What Double tells. -/
def DoubTold (base B o : Nat) (v : Value) (L : List Md) (i : Int) (w : World) (e : Ending) (w' : World) : Prop :=
  ((i < 0 ∨ (L.length : Int) ≤ i) ∧ e = .returned (.int .i64 8) ∧ w' = w) ∨
  (∃ (k : Nat) (m : Md), i = k ∧ L[k]? = some m ∧ SendTold base B o v L m w e w')

set_option maxRecDepth 100000 in
set_option maxHeartbeats 4000000 in
theorem double_any (i : Int) (base B o : Nat) (cut : Bool) (lv v : Value) (L : List Md) (hL : L.length ≤ 500) (w : World) (h : NetD w base B o cut lv v L) :
    Calls Tryz.prog 73 #[.pointer (some ⟨B, o, none⟩), .int .i64 i] w fun e w' => DoubTold base B o v L i w e w' := by
  have HN := hideIt h
  have c2 := h.c2
  by_cases h0 : i < 0
  · have h0' : decide (i < 0) = true := decide_eq_true h0
    go_enter Tryz.func73, Tryz.ntmps73
    go_wp2
    go_ret
    exact .inl ⟨.inl h0, rfl, rfl⟩
  have h0' : decide (i < 0) = false := decide_eq_false h0
  by_cases h1 : (L.length : Int) ≤ i
  · obtain ⟨va, vc, rfl⟩ := h.slice
    have h1' : decide (i ≥ (L.length : Int)) = true := decide_eq_true h1
    have H1 := hideIt h1
    clear h
    go_enter Tryz.func73, Tryz.ntmps73
    go_wp2
    go_ret
    exact .inl ⟨.inr H1.out, rfl, rfl⟩
  have h1' : decide (i ≥ (L.length : Int)) = false := decide_eq_false h1
  obtain ⟨k, rfl⟩ : ∃ k : Nat, i = k := ⟨i.toNat, by omega⟩
  have hk : k < L.length := by omega
  have hkL : (k : Int) < (L.length : Int) := by omega
  obtain ⟨g, cap, cur, rfl, hbg, hgc, hnc, hcm, hcs, hcx⟩ : ∃ g cap cur, v = .slice (some ⟨g, 0, none⟩) L.length cap ∧ base ≤ g ∧ w.heap[g]? = some (.cells cur 140 (0, 0)) ∧ L.length ≤ cap ∧ cap ≤ maxLen ∧ cur.size = cap * 3 ∧ cur.toList.take (L.length * 3) = mdCs L := by
    rcases h.row.2 with ⟨_, e⟩ | h
    · omega
    · exact h
  have hcelw := HN.out.row.cells (g := g) rfl
  have HLk : Hid (L[k]? = some L[k]) := List.getElem?_eq_getElem hk
  have hmk : ∀ j u, (mdC L[k])[j]? = some u → (mdCs L)[k * 3 + j]? = some u := fun j u hj => by
    refine mdCs_drop (Nat.le_of_lt hk) ?_
    rw [List.drop_eq_getElem_cons hk, show L[k] :: L.drop (k + 1) = [L[k]] ++ L.drop (k + 1) from rfl, mdCs_app, mdCs_one, List.getElem?_append_left (List.getElem?_eq_some_iff.1 hj).1]
    exact hj
  generalize L[k] = m at hmk HLk
  have cm0 := hcelw _ _ (hmk 0 _ rfl)
  have cm1 := hcelw _ _ (hmk 1 _ rfl)
  have cm2 := hcelw _ _ (hmk 2 _ rfl)
  rw [Addr.add_lit, Nat.zero_add] at cm0 cm1 cm2
  simp only [Nat.add_zero] at cm0
  clear h hcelw hmk
  go_enter Tryz.func73, Tryz.ntmps73
  go_wp2_with fail
  refine (send_any m base B o cut lv _ L hL w HN.out).mono ?_
  rintro e w2 (⟨h3, rfl, h5⟩ | ⟨h3, rfl, h5⟩)
  · have HT := hideIt h5
    clear h5
    go_wp2
    go_ret
    exact .inr ⟨k, m, rfl, HLk.out, .inl ⟨h3, rfl, HT.out⟩⟩
  · have HT := hideIt h5
    clear h5
    go_wp2
    go_ret
    exact .inr ⟨k, m, rfl, HLk.out, .inr ⟨h3, rfl, HT.out⟩⟩
end Go.Proofs.YtncnojgemmcplaaGreatDoor.St.Dc
