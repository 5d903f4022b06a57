/-
  MergeThings: the three rows of three in memory.
-/
import Derived.Test.YthphoiadhddggaaDoorThS
namespace Go.Proofs.YthphoiadhddggaaDoor
open Go.RowKit

/-- Block B is a row of three. -/
def Arr (wr : World) (B : Nat) (ty : TypeId) (v : Nat → Value) : Prop := wr.heap[B]? = some (.cells #[v 0, v 1, v 2] ty)
def setV (v : Nat → Value) (s : Nat) (u : Value) : Nat → Value := fun i => if i = s then u else v i
theorem setV_same (v : Nat → Value) (s : Nat) (u : Value) : setV v s u s = u := by simp [setV]
theorem setV_other (v : Nat → Value) {s i : Nat} (u : Value) (h : i ≠ s) : setV v s u i = v i := by simp [setV, h]
section
variable {wr w' : World} {B : Nat} {ty : TypeId} {v : Nat → Value}
theorem Arr.lt (h : Arr wr B ty v) : B < wr.heap.size := lt_of_heap h
theorem Arr.cell (h : Arr wr B ty v) {s : Nat} (hs : s < 3) : wr.cell? ⟨B, s, none⟩ = some (v s) := by
  rw [cell_of_row _ _ _ _ ty _ h]
  match s, hs with
  | 0, _ => rfl
  | 1, _ => rfl
  | 2, _ => rfl
theorem Arr.frozen (h : Arr wr B ty v) (s : Nat) : wr.frozen? ⟨B, s, none⟩ = false := frozen_of_row _ _ _ _ ty h
theorem Arr.block (h : Arr wr B ty v) (hb : w'.heap[B]? = wr.heap[B]?) : Arr w' B ty v := hb.trans h
theorem Arr.kept {row : Option Nat} (h : Arr wr B ty v) (hg : wr.grownBy w' row) (hne : some B ≠ row) : Arr w' B ty v := h.block (hg.block B h.lt hne)
theorem Arr.alloc (h : Arr wr B ty v) (o : Obj) : Arr (wr.alloc o) B ty v := h.block (Below.heap_alloc wr o B h.lt)
theorem Arr.drew (h : Arr wr B ty v) : Arr wr.drew B ty v := h
theorem Arr.bel (h : Arr wr B ty v) (hb : Below wr.heap.size wr w') : Arr w' B ty v := h.block (hb.block B h.lt)
theorem Arr.other (h : Arr wr B ty v) {p : Addr} (hp : p.block ≠ B) (u : Value) : Arr (wr.setCell p u) B ty v := h.block (Below.heap_setCell _ _ _ _ hp.symm)
theorem Arr.put (h : Arr wr B ty v) {s : Nat} (hs : s < 3) (u : Value) : Arr (wr.setCell ⟨B, s, none⟩ u) B ty (setV v s u) := by
  unfold Arr at h ⊢
  simp only [World.setCell, Array.getElem?_modify, h, if_true, Option.map_some]
  match s, hs with
  | 0, _ => rfl
  | 1, _ => rfl
  | 2, _ => rfl
theorem Arr.same {v' : Nat → Value} (h : Arr wr B ty v) (e : ∀ i, i < 3 → v i = v' i) : Arr wr B ty v' := by
  unfold Arr at h ⊢
  rw [h, e 0 (by decide), e 1 (by decide), e 2 (by decide)]
end
theorem arr_new (w : World) (ty : TypeId) (u : Value) : Arr (w.alloc (.cells #[u, u, u] ty)) w.heap.size ty (fun _ => u) := heap_alloc_new w _

theorem MapO.block' {P : Program} {kt : TypeId} {β : Type} {mk : β → Value} {wr w' : World} {p : Option Nat} {f : Int → Int → Option β} (h : MapO P kt mk wr p f) (hb : w'.heap = wr.heap) : MapO P kt mk w' p f := by
  rcases h with h | ⟨M, e, h⟩
  · exact .inl h
  · exact .inr ⟨M, e, h.block (by rw [hb])⟩

/-- Where the statement's own maps lie: apart from each other, behind the rows. -/
structure Apart (base : Nat) (mi mg : Nat → Nat) (n : Nat) : Prop where
  bi : ∀ s, s < n → base ≤ mi s
  bg : ∀ s, s < n → base ≤ mg s
  ii : ∀ s t, s < n → t < n → s ≠ t → mi s ≠ mi t
  gg : ∀ s t, s < n → t < n → s ≠ t → mg s ≠ mg t
  ig : ∀ s t, s < n → t < n → mi s ≠ mg t
theorem Apart.more {base N : Nat} {mi mg : Nat → Nat} {n : Nat} (h : Apart base mi mg n) (hi : ∀ s, s < n → mi s < N) (hg : ∀ s, s < n → mg s < N) (hN : base ≤ N) :
    Apart base (fun s => if s = n then N else mi s) (fun s => if s = n then N + 1 else mg s) (n + 1) := by
  refine ⟨fun s hs => ?_, fun s hs => ?_, fun s t hs ht hne => ?_, fun s t hs ht hne => ?_, fun s t hs ht => ?_⟩
  · split
    · exact hN
    · exact h.bi s (by omega)
  · split
    · omega
    · exact h.bg s (by omega)
  · have a1 := fun h' : s < n => hi s h'
    have a2 := fun h' : t < n => hi t h'
    split <;> split
    · omega
    · have := a2 (by omega); omega
    · have := a1 (by omega); omega
    · exact h.ii s t (by omega) (by omega) hne
  · have a1 := fun h' : s < n => hg s h'
    have a2 := fun h' : t < n => hg t h'
    split <;> split
    · omega
    · have := a2 (by omega); omega
    · have := a1 (by omega); omega
    · exact h.gg s t (by omega) (by omega) hne
  · have a1 := fun h' : s < n => hi s h'
    have a2 := fun h' : t < n => hg t h'
    split <;> split
    · omega
    · have := a2 (by omega); omega
    · have := a1 (by omega); omega
    · exact h.ig s t (by omega) (by omega)

/-- In the first loop: the maps of the first n places are made. -/
structure Mt0 (w wr : World) (n : Nat) (mi mg : Nat → Nat) : Prop where
  a7 : Arr wr w.heap.size 39 (fun _ => .map none)
  a8 : Arr wr (w.heap.size + 1) 41 (fun s => if s < n then .map (some (mi s)) else .map none)
  a9 : Arr wr (w.heap.size + 1 + 1) 43 (fun s => if s < n then .map (some (mg s)) else .map none)
  hi : ∀ s, s < n → InK wr (mi s) (fun _ _ => none)
  hg : ∀ s, s < n → GoK wr (mg s) (fun _ _ => none)
  ap : Apart (w.heap.size + 1 + 1 + 1) mi mg n
  bel : Below w.heap.size w wr
theorem mt0_new (w : World) : Mt0 w (((w.alloc (.cells #[.map none, .map none, .map none] 39)).alloc (.cells #[.map none, .map none, .map none] 41)).alloc (.cells #[.map none, .map none, .map none] 43)) 0 (fun _ => 0) (fun _ => 0) :=
  ⟨((arr_new w 39 _).alloc _).alloc _, by simpa using (arr_new (w.alloc (.cells #[.map none, .map none, .map none] 39)) 41 (.map none)).alloc (.cells #[.map none, .map none, .map none] 43),
    by simpa using arr_new ((w.alloc (.cells #[.map none, .map none, .map none] 39)).alloc (.cells #[.map none, .map none, .map none] 41)) 43 (.map none),
    fun s hs => absurd hs (Nat.not_lt_zero _), fun s hs => absurd hs (Nat.not_lt_zero _),
    ⟨fun s hs => absurd hs (Nat.not_lt_zero _), fun s hs => absurd hs (Nat.not_lt_zero _), fun s _ hs => absurd hs (Nat.not_lt_zero _), fun s _ hs => absurd hs (Nat.not_lt_zero _), fun s _ hs => absurd hs (Nat.not_lt_zero _)⟩,
    belA (belA (belA (Below.refl _ w) _) _) _⟩
theorem Mt0.step {w wr : World} {n : Nat} {mi mg : Nat → Nat} (h : Mt0 w wr n mi mg) (hn : n < 3) :
    Mt0 w ((((wr.alloc (.map #[] 0)).alloc (.map #[] 0)).setCell ⟨w.heap.size + 1, n, none⟩ (.map (some wr.heap.size))).setCell ⟨w.heap.size + 1 + 1, n, none⟩ (.map (some (wr.heap.size + 1)))) (n + 1)
      (fun s => if s = n then wr.heap.size else mi s) (fun s => if s = n then wr.heap.size + 1 else mg s) := by
  have l9 := h.a9.lt
  have hb : ∀ k, k ≠ w.heap.size + 1 → k ≠ w.heap.size + 1 + 1 → ((((wr.alloc (.map #[] 0)).alloc (.map #[] 0)).setCell ⟨w.heap.size + 1, n, none⟩ (.map (some wr.heap.size))).setCell ⟨w.heap.size + 1 + 1, n, none⟩ (.map (some (wr.heap.size + 1)))).heap[k]? = ((wr.alloc (.map #[] 0)).alloc (.map #[] 0)).heap[k]? := fun k h1 h2 =>
    (Below.heap_setCell _ _ _ _ (by simp only; omega)).trans (Below.heap_setCell _ _ _ _ (by simp only; omega))
  refine ⟨((h.a7.alloc _).alloc _).block (hb _ (by omega) (by omega)), ?_, ?_, fun s hs => ?_, fun s hs => ?_, h.ap.more (fun s hs => (h.hi s hs).lt) (fun s hs => (h.hg s hs).lt) (by omega),
    (belA (belA h.bel _) _ |>.setCell (by simp only; omega) _).setCell (by simp only; omega) _⟩
  · refine ((((h.a8.alloc _).alloc _).put hn _).other (by simp only; omega) _).same fun i hi => ?_
    unfold setV
    simp only
    by_cases e : i = n
    · subst e; simp
    · by_cases e' : i < n
      · simp [e, e', Nat.lt_succ_of_lt e']
      · simp [e, e', show ¬ i < n + 1 by omega]
  · refine ((((h.a9.alloc _).alloc _).other (by simp only; omega) _).put hn _).same fun i hi => ?_
    unfold setV
    simp only
    by_cases e : i = n
    · subst e; simp
    · by_cases e' : i < n
      · simp [e, e', Nat.lt_succ_of_lt e']
      · simp [e, e', show ¬ i < n + 1 by omega]
  · split
    · exact ((mapK_made wr Tryd.prog 49 mkI).alloc (.map #[] 0)).block (hb _ (by omega) (by omega))
    · have b := h.ap.bi s (by omega)
      exact (((h.hi s (by omega)).alloc _).alloc _).block (hb _ (by omega) (by omega))
  · split
    · have m := mapK_made (wr.alloc (.map #[] 0)) Tryd.prog 49 mkB
      rw [World.size_alloc] at m
      exact m.block (hb _ (by omega) (by omega))
    · have b := h.ap.bg s (by omega)
      exact (((h.hg s (by omega)).alloc _).alloc _).block (hb _ (by omega) (by omega))

theorem mod3 (z : Int) : ∃ s : Nat, s < 3 ∧ (IntKind.u64.wrap z).tmod 3 = (s : Int) := by
  have h64 : 0 ≤ IntKind.u64.wrap z := by rw [IntKind.wrap_u64]; omega
  obtain ⟨m, hm⟩ : ∃ m : Nat, IntKind.u64.wrap z = m := ⟨(IntKind.u64.wrap z).toNat, by omega⟩
  refine ⟨m % 3, Nat.mod_lt _ (by decide), ?_⟩
  rw [hm]
  rfl
theorem wrap3 {s : Nat} (h : s < 3) : wrap64 (s : Int) = (s : Int) := by
  unfold wrap64
  omega

/-- In the second loop, n steps done. -/
structure MtI (w wr : World) (n : Nat) (mi mg : Nat → Nat) (p : Nat → Option Nat) (f : Nat → Th) (i : Nat → In1) (g : Nat → Go1) : Prop where
  a7 : Arr wr w.heap.size 39 (fun s => .map (p s))
  a8 : Arr wr (w.heap.size + 1) 41 (fun s => .map (some (mi s)))
  a9 : Arr wr (w.heap.size + 1 + 1) 43 (fun s => .map (some (mg s)))
  hf : ∀ s, s < 3 → ThO wr (p s) (f s)
  hi : ∀ s, s < 3 → InK wr (mi s) (i s)
  hg : ∀ s, s < 3 → GoK wr (mg s) (g s)
  rel : ∀ s, s < 3 → Rel (f s) (i s) (g s)
  grid : ∀ s, s < 3 → Grid n (f s)
  ap : Apart (w.heap.size + 1 + 1 + 1) mi mg 3
  pb : ∀ s M, s < 3 → p s = some M → w.heap.size + 1 + 1 + 1 ≤ M ∧ ∀ t, t < 3 → M ≠ mi t ∧ M ≠ mg t
  bel : Below w.heap.size w wr
theorem MtI.drew {w wr : World} {n : Nat} {mi mg : Nat → Nat} {p : Nat → Option Nat} {f : Nat → Th} {i : Nat → In1} {g : Nat → Go1} (h : MtI w wr n mi mg p f i g) : MtI w wr.drew n mi mg p f i g :=
  ⟨h.a7.drew, h.a8.drew, h.a9.drew, fun s hs => (h.hf s hs).block' rfl, fun s hs => (h.hi s hs).drew, fun s hs => (h.hg s hs).drew, h.rel, h.grid, h.ap, h.pb, h.bel.drew⟩
theorem Mt0.done {w wr : World} {mi mg : Nat → Nat} (h : Mt0 w wr 3 mi mg) : MtI w wr 0 mi mg (fun _ => none) (fun _ _ _ => none) (fun _ _ _ => none) (fun _ _ _ => none) :=
  ⟨h.a7, h.a8.same fun i hi => (by rw [if_pos hi]), h.a9.same fun i hi => (by rw [if_pos hi]), fun _ _ => .inl ⟨rfl, rfl⟩, h.hi, h.hg, fun _ _ => Rel.none, fun _ _ => grid_none, h.ap, fun _ _ _ h => (by cases h), h.bel⟩
end Go.Proofs.YthphoiadhddggaaDoor
