/-
  What next gives: a read, a write.
-/
import Derived.Test.YthblokfiojccmaaGreatDoorGnT
import Derived.Test.YthblokfiojccmaaGreatDoorGnU
import Derived.Deep.RegionHeld3
import Derived.Deep.RegionWith
import Derived.Deep.DeepCutAuto
namespace Go.Proofs.YthblokfiojccmaaGreatDoor.Gn
open Go.RowKit

def clA : Option Cl → Value
  | none => .agg #[.bool false, .int .i64 0, .int .i64 0]
  | some c => .agg #[.bool c.wr, .int .i64 c.key, .int .i64 c.v]
def clV (c : Option Cl) : Value := .tuple #[clA c, .bool c.isSome]

/-- What Next leaves: the tape, the generator, and what turned. -/
structure NxTold (n base B o : Nat) (t : Tp) (w : World) (v : Value) (g : Gt) (bs : List Nat) (e : Ending) (w' : World) : Prop where
  ret : e = .returned (clV (nextF n g t).c)
  tp : TpAt w' base B o (nextF n g t).t
  gen : ∃ bs', GAt n w' base v (nextF n g t).g bs' ∧ ∀ b ∈ bs', b ∈ bs
  fr : Fr (B :: bs) w w'
  oth : ∀ p : Addr, p.block = B → p ≠ ⟨B, o + 1, none⟩ → w'.cell? p = w.cell? p ∧ w'.frozen? p = w.frozen? p

/-- How Next is called on a value. -/
structure MetOk (v : Value) (T : TypeId) (x : Value) (F : FuncId) : Prop where
  shape : v = .iface T x
  nil : ∀ w, (nilAhead 322 T x "Next").run Tryz.prog w = .ok (some false) w
  met : ∀ w, (method 322 T x "Next").run Tryz.prog w = .ok (F, x) w
  ent : ∀ args w, (callFunc F args).run Tryz.prog w = .ok (.enter F args) w

theorem tpTurn_oth (w : World) (B o : Nat) (t : Tp) (n : Int) (p : Addr) (hp : p ≠ ⟨B, o + 1, none⟩) : (tpTurn w B o t n).cell? p = w.cell? p ∧ (tpTurn w B o t n).frozen? p = w.frozen? p := by
  unfold tpTurn
  split
  · exact ⟨rfl, rfl⟩
  · exact ⟨World.cell?_setCell_other _ _ _ _ (Ne.symm hp), frozen_setCell _ _ _ _⟩

theorem results_two {fn : Func} {p u : Tmp} {ty : TypeId} (h : fn.results = #[.cell p ty, .tmp u]) (tmps : Array Value) (w : World) (g : Nat) (v : Value)
    (hp : tmps.getD p undef = .pointer (some ⟨g, 0, none⟩)) (hl : (loadVar ty ⟨g, 0, none⟩).run Tryz.prog w = .ok v w) : (results fn tmps).run Tryz.prog w = .ok (.tuple #[v, tmps.getD u undef]) w := by
  rw [results_cell_tmp h]
  simp only [hp, asAddr, Sem.run_pure, Result.andThen_ok, hl]
theorem sizeCl : (Tryz.prog.info? 51).map (·.size) = some 3 := by kernel_rfl
theorem loadCl {w : World} {g : Nat} {v u x : Value} (h : w.cell? ⟨g, 0, none⟩ = some v) (h' : w.cell? ⟨g, 1, none⟩ = some u) (h'' : w.cell? ⟨g, 2, none⟩ = some x) : (loadVar 51 ⟨g, 0, none⟩).run Tryz.prog w = .ok (.agg #[v, u, x]) w :=
  run_loadVar_mid w g 0 51 [v, u, x] _ (fun j y hy => by
    match j with
    | 0 => simp at hy; subst hy; exact h
    | 1 => simp at hy; subst hy; exact h'
    | 2 => simp at hy; subst hy; exact h''
    | j + 3 => simp at hy) Tryz.underlying51 rfl sizeCl
/-- The cells of a result's own block. -/
theorem blk3 {w : World} {b : Nat} {v u x : Value} {t : TypeId} (h : w.heap[b]? = some (.cells #[v, u, x] t)) : w.cell? ⟨b, 0, none⟩ = some v ∧ w.cell? ⟨b, 1, none⟩ = some u ∧ w.cell? ⟨b, 2, none⟩ = some x :=
  ⟨by rw [cell_of_row _ _ _ _ t _ h]; rfl, by rw [cell_of_row _ _ _ _ t _ h]; rfl, by rw [cell_of_row _ _ _ _ t _ h]; rfl⟩
/-- In another block nothing turned. -/
theorem oth_of {w w' : World} {X : List Nat} (h : Fr X w w') {B : Nat} (hB : B < w.heap.size) (hn : B ∉ X) (p : Addr) (hp : p.block = B) : w'.cell? p = w.cell? p ∧ w'.frozen? p = w.frozen? p := by
  subst hp
  exact ⟨World.cell?_of_block (h.block _ hB hn), World.frozen?_of_block (h.block _ hB hn)⟩

/-- A result's own block, written. -/
def set3 (w : World) (G : Nat) (a b c : Value) : World := ((w.setCell ⟨G, 0, none⟩ a).setCell ⟨G, 1, none⟩ b).setCell ⟨G, 2, none⟩ c
theorem offN {g a b : Nat} (h : a ≠ b) : (⟨g, a, none⟩ : Addr) ≠ ⟨g, b, none⟩ := fun e => h (by injection e)
theorem load_set3 {w : World} {G : Nat} {x y z a b c : Value} (h0 : w.cell? ⟨G, 0, none⟩ = some x) (h1 : w.cell? ⟨G, 1, none⟩ = some y) (h2 : w.cell? ⟨G, 2, none⟩ = some z) : (loadVar 51 ⟨G, 0, none⟩).run Tryz.prog (set3 w G a b c) = .ok (.agg #[a, b, c]) (set3 w G a b c) := by
  unfold set3
  refine loadCl ?_ ?_ ?_
  · rw [World.cell?_setCell_other _ _ _ _ (offN (by omega)), World.cell?_setCell_other _ _ _ _ (offN (by omega))]
    exact World.cell?_setCell_same' _ _ _ (by rw [h0]; rfl)
  · rw [World.cell?_setCell_other _ _ _ _ (offN (by omega))]
    refine World.cell?_setCell_same' _ _ _ ?_
    rw [World.cell?_setCell_other _ _ _ _ (offN (by omega)), h1]; rfl
  · refine World.cell?_setCell_same' _ _ _ ?_
    rw [World.cell?_setCell_other _ _ _ _ (offN (by omega)), World.cell?_setCell_other _ _ _ _ (offN (by omega)), h2]; rfl
theorem fr_set3 {X : List Nat} {w W : World} (h : Fr X w W) {G : Nat} (hG : w.heap.size ≤ G) (a b c : Value) : Fr X w (set3 W G a b c) := ((h.setNew _ _ hG).setNew _ _ hG).setNew _ _ hG
theorem fr_set3' (w : World) (G : Nat) (a b c : Value) : Fr [G] w (set3 w G a b c) := ((Fr.set w _ a (by simp)).trans (Fr.set _ _ b (by simp))).trans (Fr.set _ _ c (by simp))
theorem oth_set3 (w : World) (G : Nat) (a b c : Value) (p : Addr) (hp : p.block ≠ G) : (set3 w G a b c).cell? p = w.cell? p ∧ (set3 w G a b c).frozen? p = w.frozen? p := by
  have ne : ∀ j, (⟨G, j, none⟩ : Addr) ≠ p := fun j e => hp (by rw [← e])
  unfold set3
  exact ⟨((World.cell?_setCell_other _ _ _ _ (ne _)).trans (World.cell?_setCell_other _ _ _ _ (ne _))).trans (World.cell?_setCell_other _ _ _ _ (ne _)), by rw [frozen_setCell, frozen_setCell, frozen_setCell]⟩
theorem Fr.app {X Y : List Nat} {a b c : World} (h : Fr X a b) (k : Fr Y b c) (hX : ∀ x ∈ X, x ∈ Y ∨ a.heap.size ≤ x) : Fr Y a c := (h.more hX).trans k
set_option maxHeartbeats 1000000 in
theorem read_next (n base B o : Nat) (k : Int) (t : Tp) (w : World) (h : TpAt w base B o t) :
    Calls Tryz.prog 115 #[.agg #[.int .i64 k], .pointer (some ⟨B, o, none⟩)] w (NxTold (n + 1) base B o t w (.iface 85 (.agg #[.int .i64 k])) (.rd k) []) := by
  have HT := hideIt h
  clear h
  go_enter Tryz.func115, Tryz.ntmps115
  go_wp2
  have hfr : ∀ X o1 o2, Fr X w ((w.alloc o1).alloc o2) := fun X o1 o2 => (Fr.alloc X w o1).trans (Fr.alloc X _ o2)
  have hb3 := heap_new (w.alloc (.cells #[.int .i64 k] 85)) (.cells #[.bool false, .int .i64 k, .int .i64 0] 51)
  rw [World.size_alloc] at hb3
  obtain ⟨z0, z1, z2⟩ := blk3 hb3
  exact bodyPost_ret (results_two rfl _ _ _ _ rfl (loadCl z0 z1 z2)) rfl ⟨rfl, HT.out.fr (hfr [] _ _) (by simp) (by simp), ⟨[], ⟨rfl, rfl⟩, by simp⟩, hfr _ _ _, fun p hp _ => oth_of (hfr [] _ _) HT.out.lt (by simp) p hp⟩

set_option maxHeartbeats 2000000 in
set_option maxRecDepth 100000 in
theorem write_next (n base B o : Nat) (k lo hi : Int) (t : Tp) (w : World) (h : TpAt w base B o t) (hu : t.u ≤ 1000000000) (h1 : -1000000 ≤ lo) (h2 : lo ≤ hi) (h3 : hi ≤ 1000000) :
    Calls Tryz.prog 121 #[.agg #[.int .i64 k, .int .i64 lo, .int .i64 hi], .pointer (some ⟨B, o, none⟩)] w (NxTold (n + 1) base B o t w (.iface 104 (.agg #[.int .i64 k, .int .i64 lo, .int .i64 hi])) (.wr k lo hi) []) := by
  have HT := hideIt h
  have HB := hideIt (fun W (h : TpAt W base B o t) => tBelow_any base B o (hi - lo + 1) t W h hu (by omega))
  have HL := hideIt (Tp.below_lt (t := t) (n := hi - lo + 1) (by omega))
  have hlt := h.lt
  clear h
  have w1 : IntKind.i64.wrap (hi - lo) = hi - lo := by rw [IntKind.wrap_i64]; omega
  have w2 : IntKind.i64.wrap (hi - lo + 1) = hi - lo + 1 := by rw [IntKind.wrap_i64]; omega
  go_enter Tryz.func121, Tryz.ntmps121
  go_upto_region 1 with fail
  have hfr : ∀ X o1 o2, Fr X w (((w.alloc o1).alloc o2).drewN 1) := fun X o1 o2 => ((Fr.alloc X w o1).trans (Fr.alloc X _ o2)).trans (Fr.drewN X _ 1)
  have HF := hideIt hfr
  clear hfr
  have hc0 := heap_new w (.cells #[.int .i64 k, .int .i64 lo, .int .i64 hi] 104)
  obtain ⟨x0, x1, x2⟩ := blk3 hc0
  refine wp_region_held_drew (S := fun W => W.cell? ⟨w.heap.size, 0, none⟩ = some (.int .i64 k) ∧ W.cell? ⟨w.heap.size, 1, none⟩ = some (.int .i64 lo) ∧ W.cell? ⟨w.heap.size, 2, none⟩ = some (.int .i64 hi)) (by kernel_rfl) ?_ (fun hHeld => ?_)
  · exact ⟨(World.cell?_alloc_lt _ _ _ (by simp)).trans x0, (World.cell?_alloc_lt _ _ _ (by simp)).trans x1, (World.cell?_alloc_lt _ _ _ (by simp)).trans x2⟩
  refine wpAnyH_take (i := 0) (v := ?_) rfl (by kernel_rfl) (by kernel_rfl) (by kernel_rfl) (fun _ _ _ h => h) (Or.inl ⟨by rfl, ?_⟩) (by assumption) ?_
  rotate_left 1
  · intro wz hwz
    go_simp
    all_goals with_reducible rfl
  simp only [Act.put, List.setIfInBounds_toArray, List.set_cons_zero, List.set_cons_succ, List.getElem_toArray, List.getElem_cons_zero]
  refine wpAnyH_take (i := 1) (v := ?_) rfl (by kernel_rfl) (by kernel_rfl) (by kernel_rfl) (fun _ _ _ h => h) (Or.inl ⟨by rfl, ?_⟩) (by assumption) ?_
  rotate_left 1
  · intro wz hwz
    obtain ⟨y0, y1, y2⟩ := hwz
    go_simp
    all_goals with_reducible rfl
  simp only [Act.put, List.setIfInBounds_toArray, List.set_cons_zero, List.set_cons_succ, List.getElem_toArray, List.getElem_cons_zero, List.getElem_cons_succ]
  refine wpAnyH_take (i := 2) (v := ?_) rfl (by kernel_rfl) (by kernel_rfl) (by kernel_rfl) (fun _ _ _ h => h) (Or.inl ⟨by rfl, ?_⟩) (by assumption) ?_
  rotate_left 1
  · intro wz hwz
    go_simp
    all_goals with_reducible rfl
  simp only [Act.put, List.setIfInBounds_toArray, List.set_cons_zero, List.set_cons_succ, List.getElem_toArray, List.getElem_cons_zero, List.getElem_cons_succ]
  refine wpAnyH_take (i := 3) (v := ?_) rfl (by kernel_rfl) (by kernel_rfl) (by kernel_rfl) (fun _ _ _ h => h) (Or.inl ⟨by rfl, ?_⟩) (by assumption) ?_
  rotate_left 1
  · intro wz hwz
    obtain ⟨y0, y1, y2⟩ := hwz
    go_simp
    all_goals with_reducible rfl
  simp only [Act.put, List.setIfInBounds_toArray, List.set_cons_zero, List.set_cons_succ, List.getElem_toArray, List.getElem_cons_zero, List.getElem_cons_succ]
  refine wpAnyH_take (i := 4) (v := ?_) rfl (by kernel_rfl) (by kernel_rfl) (by kernel_rfl) (fun _ _ _ h => h) (Or.inl ⟨by rfl, ?_⟩) (by assumption) ?_
  rotate_left 1
  · intro wz hwz
    go_simp
    all_goals with_reducible rfl
  simp only [Act.put, List.setIfInBounds_toArray, List.set_cons_zero, List.set_cons_succ, List.getElem_toArray, List.getElem_cons_zero, List.getElem_cons_succ]
  refine wpAnyH_take (i := 5) (v := ?_) rfl (by kernel_rfl) (by kernel_rfl) (by kernel_rfl) (fun _ _ _ h => h) (Or.inl ⟨by rfl, ?_⟩) (by assumption) ?_
  rotate_left 1
  · intro wz hwz
    go_simp
    all_goals with_reducible rfl
  simp only [Act.put, List.setIfInBounds_toArray, List.set_cons_zero, List.set_cons_succ, List.getElem_toArray, List.getElem_cons_zero, List.getElem_cons_succ]
  refine wpAnyH_take (i := 6) (v := ?_) rfl (by kernel_rfl) (by kernel_rfl) (by kernel_rfl) (fun _ _ _ h => h) (Or.inl ⟨by rfl, ?_⟩) (by assumption) ?_
  rotate_left 1
  · intro wz hwz
    obtain ⟨y0, y1, y2⟩ := hwz
    go_simp
    all_goals with_reducible rfl
  simp only [Act.put, List.setIfInBounds_toArray, List.set_cons_zero, List.set_cons_succ, List.getElem_toArray, List.getElem_cons_zero, List.getElem_cons_succ]
  refine wpAnyH_take (i := 7) (v := ?_) rfl (by kernel_rfl) (by kernel_rfl) (by kernel_rfl) (fun _ _ _ h => h) (Or.inl ⟨by rfl, ?_⟩) (by assumption) ?_
  rotate_left 1
  · intro wz hwz
    go_simp
    all_goals with_reducible rfl
  simp only [Act.put, List.setIfInBounds_toArray, List.set_cons_zero, List.set_cons_succ, List.getElem_toArray, List.getElem_cons_zero, List.getElem_cons_succ]
  refine wpAnyH_take (i := 8) (v := ?_) rfl (by kernel_rfl) (by kernel_rfl) (by kernel_rfl) (fun _ _ _ h => h) (Or.inl ⟨by rfl, ?_⟩) (by assumption) ?_
  rotate_left 1
  · intro wz hwz
    obtain ⟨y0, y1, y2⟩ := hwz
    go_simp
    all_goals with_reducible rfl
  simp only [Act.put, List.setIfInBounds_toArray, List.set_cons_zero, List.set_cons_succ, List.getElem_toArray, List.getElem_cons_zero, List.getElem_cons_succ]
  refine wpAnyH_take (i := 9) (v := ?_) rfl (by kernel_rfl) (by kernel_rfl) (by kernel_rfl) (fun _ _ _ h => h) (Or.inl ⟨by rfl, ?_⟩) (by assumption) ?_
  rotate_left 1
  · intro wz hwz
    go_simp
    all_goals with_reducible rfl
  simp only [Act.put, List.setIfInBounds_toArray, List.set_cons_zero, List.set_cons_succ, List.getElem_toArray, List.getElem_cons_zero, List.getElem_cons_succ]
  refine wpAnyH_take (i := 10) (v := ?_) rfl (by kernel_rfl) (by kernel_rfl) (by kernel_rfl) (fun _ _ _ h => h) (Or.inl ⟨by rfl, ?_⟩) (by assumption) ?_
  rotate_left 1
  · intro wz hwz
    go_simp
    all_goals with_reducible rfl
  simp only [Act.put, List.setIfInBounds_toArray, List.set_cons_zero, List.set_cons_succ, List.getElem_toArray, List.getElem_cons_zero, List.getElem_cons_succ]
  have hsz : (((w.alloc (Obj.cells #[Value.int IntKind.i64 k, Value.int IntKind.i64 lo, Value.int IntKind.i64 hi] 104)).alloc (Obj.cells #[Value.bool false, Value.int IntKind.i64 0, Value.int IntKind.i64 0] 51)).drewN 1).heap.size = w.heap.size + 2 := by simp [World.drewN]
  have hc1 : (((w.alloc (Obj.cells #[Value.int IntKind.i64 k, Value.int IntKind.i64 lo, Value.int IntKind.i64 hi] 104)).alloc (Obj.cells #[Value.bool false, Value.int IntKind.i64 0, Value.int IntKind.i64 0] 51)).drewN 1).heap[w.heap.size + 1]? = some (Obj.cells #[Value.bool false, Value.int IntKind.i64 0, Value.int IntKind.i64 0] 51) := by
    have := heap_new (w.alloc (Obj.cells #[Value.int IntKind.i64 k, Value.int IntKind.i64 lo, Value.int IntKind.i64 hi] 104)) (Obj.cells #[Value.bool false, Value.int IntKind.i64 0, Value.int IntKind.i64 0] 51)
    rw [World.size_alloc] at this
    exact this
  have hF0 := HF.out [] (Obj.cells #[Value.int IntKind.i64 k, Value.int IntKind.i64 lo, Value.int IntKind.i64 hi] 104) (Obj.cells #[Value.bool false, Value.int IntKind.i64 0, Value.int IntKind.i64 0] 51)
  have HT0 := hideIt (HT.out.fr hF0 (by simp) (by simp))
  have HF0 := hideIt hF0
  clear hF0 HF x0 x1 x2 hc0
  change wpAnyH _ _ _ _ _ _ _ _ (World.drewN _ 1)
  have hHeld0 : (World.drewN _ 1).cell? _ = _ ∧ (World.drewN _ 1).cell? _ = _ ∧ (World.drewN _ 1).cell? _ = _ := hHeld
  clear hHeld
  generalize ((w.alloc (Obj.cells #[Value.int IntKind.i64 k, Value.int IntKind.i64 lo, Value.int IntKind.i64 hi] 104)).alloc (Obj.cells #[Value.bool false, Value.int IntKind.i64 0, Value.int IntKind.i64 0] 51)).drewN 1 = W0 at *
  refine wpAnyH_ready (rs := [11]) (by kernel_rfl) (by simp) (AllReadyH.cons rfl (fun K hK => ?_) AllReadyH.nil)
  go_simp
  refine (HB.out _ HT0.out).mono ?_
  rintro y w1 ⟨rfl, n1, rfl⟩
  have hg1 := grown_turn W0 B o t (hi - lo + 1) n1
  have hoth := tpTurn_oth (W0.drewN n1) B o t (hi - lo + 1)
  have hT1 := HT0.out.turn (hi - lo + 1) n1
  have hck : ∀ p : Addr, p.block ≠ B → p.block < W0.heap.size → (tpTurn (W0.drewN n1) B o t (hi - lo + 1)).cell? p = W0.cell? p := fun p hp hl => World.cell?_of_block (hg1.block _ hl (fun e => hp (by injection e)))
  have hk : (tpTurn (W0.drewN n1) B o t (hi - lo + 1)).heap[w.heap.size + 1]? = some (Obj.cells #[Value.bool false, Value.int IntKind.i64 0, Value.int IntKind.i64 0] 51) := (hg1.block _ (by omega) (fun e => by injection e with e; omega)).trans hc1
  have hHeld1 : (tpTurn (W0.drewN n1) B o t (hi - lo + 1)).cell? ⟨w.heap.size, 0, none⟩ = some (.int .i64 k) ∧ (tpTurn (W0.drewN n1) B o t (hi - lo + 1)).cell? ⟨w.heap.size, 1, none⟩ = some (.int .i64 lo) ∧ (tpTurn (W0.drewN n1) B o t (hi - lo + 1)).cell? ⟨w.heap.size, 2, none⟩ = some (.int .i64 hi) := ⟨(hck _ (by simp; omega) (by simp; omega)).trans hHeld0.1, (hck _ (by simp; omega) (by simp; omega)).trans hHeld0.2.1, (hck _ (by simp; omega) (by simp; omega)).trans hHeld0.2.2⟩
  have hvy : IntKind.i64.wrap (lo + t.below (hi - lo + 1)) = lo + t.below (hi - lo + 1) := by have := HL.out; rw [IntKind.wrap_i64]; omega
  have HFt := hideIt (Fr.of_grown (X := [B]) hg1 (fun b e => by cases e; simp))
  have HOt := hideIt hoth
  have HT1 := hideIt hT1
  have HNx : Hid (nextF (n + 1) (.wr k lo hi) t = ⟨some ⟨true, k, lo + t.below (hi - lo + 1)⟩, .wr k lo hi, t.on (hi - lo + 1)⟩) := hideIt rfl
  generalize tpTurn (W0.drewN n1) B o t (hi - lo + 1) = W1 at *
  clear hg1 hoth hT1 hck HB HL
  generalize t.below (hi - lo + 1) = y at *
  refine hK.out _ _ ?_ (fun hHeld => ?_)
  · exact hHeld1
  clear hK K
  refine wpAnyH_take (i := 12) (v := ?_) rfl (by kernel_rfl) (by kernel_rfl) (by kernel_rfl) (fun _ _ _ h => h) (Or.inl ⟨by rfl, ?_⟩) (by assumption) ?_
  rotate_left 1
  · intro wz hwz
    go_simp
    all_goals with_reducible rfl
  simp only [Act.put, List.setIfInBounds_toArray, List.set_cons_zero, List.set_cons_succ, List.getElem_toArray, List.getElem_cons_zero, List.getElem_cons_succ]
  refine wpAnyH_take (i := 13) (v := ?_) rfl (by kernel_rfl) (by kernel_rfl) (by kernel_rfl) (fun _ _ _ h => h) (Or.inl ⟨by rfl, ?_⟩) (by assumption) ?_
  rotate_left 1
  · intro wz hwz
    go_simp
    all_goals with_reducible rfl
  simp only [Act.put, List.setIfInBounds_toArray, List.set_cons_zero, List.set_cons_succ, List.getElem_toArray, List.getElem_cons_zero, List.getElem_cons_succ]
  obtain ⟨z0, z1, z2⟩ := blk3 hk
  have f0 := frozen_of_row W1 (w.heap.size + 1) 0 _ 51 hk
  have f1 := frozen_of_row W1 (w.heap.size + 1) 1 _ 51 hk
  have f2 := frozen_of_row W1 (w.heap.size + 1) 2 _ 51 hk
  refine wpAnyH_ready (rs := [14]) (by kernel_rfl) (by simp) (AllReadyH.cons rfl (fun K hK => ?_) AllReadyH.nil)
  go_simp
  change K _ (set3 W1 (w.heap.size + 1) (.bool true) (.int .i64 k) (.int .i64 (lo + y)))
  have hld := load_set3 (a := .bool true) (b := .int .i64 k) (c := .int .i64 (lo + y)) z0 z1 z2
  have hF2 : Fr [B] w (set3 W1 (w.heap.size + 1) (.bool true) (.int .i64 k) (.int .i64 (lo + y))) := fr_set3 (HF0.out.app HFt.out (by simp)) (by omega) _ _ _
  have hT2 : TpAt (set3 W1 (w.heap.size + 1) (.bool true) (.int .i64 k) (.int .i64 (lo + y))) base B o (t.on (hi - lo + 1)) := HT1.out.fr (fr_set3' _ _ _ _ _) (by simp; omega) (by have := HT1.out.lo; simp; omega)
  have hO2 : ∀ p : Addr, p.block = B → p ≠ ⟨B, o + 1, none⟩ → (set3 W1 (w.heap.size + 1) (.bool true) (.int .i64 k) (.int .i64 (lo + y))).cell? p = w.cell? p ∧ (set3 W1 (w.heap.size + 1) (.bool true) (.int .i64 k) (.int .i64 (lo + y))).frozen? p = w.frozen? p := fun p hp hq => by
    obtain ⟨a1, a2⟩ := oth_set3 W1 (w.heap.size + 1) (.bool true) (.int .i64 k) (.int .i64 (lo + y)) p (by rw [hp]; omega)
    obtain ⟨b1, b2⟩ := HOt.out p hq
    obtain ⟨c1, c2⟩ := oth_of HF0.out hlt (by simp) p hp
    exact ⟨a1.trans (b1.trans c1), a2.trans (b2.trans c2)⟩
  have hS2 : (set3 W1 (w.heap.size + 1) (.bool true) (.int .i64 k) (.int .i64 (lo + y))).cell? ⟨w.heap.size, 0, none⟩ = some (.int .i64 k) ∧ (set3 W1 (w.heap.size + 1) (.bool true) (.int .i64 k) (.int .i64 (lo + y))).cell? ⟨w.heap.size, 1, none⟩ = some (.int .i64 lo) ∧ (set3 W1 (w.heap.size + 1) (.bool true) (.int .i64 k) (.int .i64 (lo + y))).cell? ⟨w.heap.size, 2, none⟩ = some (.int .i64 hi) :=
    ⟨(oth_set3 W1 (w.heap.size + 1) _ _ _ _ (by simp)).1.trans hHeld1.1, (oth_set3 W1 (w.heap.size + 1) _ _ _ _ (by simp)).1.trans hHeld1.2.1, (oth_set3 W1 (w.heap.size + 1) _ _ _ _ (by simp)).1.trans hHeld1.2.2⟩
  generalize set3 W1 (w.heap.size + 1) (.bool true) (.int .i64 k) (.int .i64 (lo + y)) = W2 at *
  refine hK.out _ _ hS2 (fun hHeld => ?_)
  clear hK K
  refine wpAnyH_take (i := 15) (v := ?_) rfl (by kernel_rfl) (by kernel_rfl) (by kernel_rfl) (fun _ _ _ h => h) (Or.inl ⟨by rfl, ?_⟩) (by assumption) ?_
  rotate_left 1
  · intro wz hwz
    go_simp
    all_goals with_reducible rfl
  simp only [Act.put, List.setIfInBounds_toArray, List.set_cons_zero, List.set_cons_succ, List.getElem_toArray, List.getElem_cons_zero, List.getElem_cons_succ]
  refine wpAnyH_done (by kernel_rfl) ?_ _
  go_wp2
  exact bodyPost_ret (results_two rfl _ _ _ _ rfl hld) rfl ⟨by rw [HNx.out]; rfl, by rw [HNx.out]; exact hT2, by rw [HNx.out]; exact ⟨[], ⟨rfl, rfl, h1, h2, h3⟩, by simp⟩, hF2, hO2⟩
end Go.Proofs.YthblokfiojccmaaGreatDoor.Gn
