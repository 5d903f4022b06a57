/-
  A table of rows of one's own, each appended to.
-/
import Derived.Test.YtmonbkoelehdlaaDoorCcW
import Derived.Deep.RegionLaw
import Derived.Deep.DeepCutAuto
import Derived.Maps.AppendAt
namespace Go.Proofs.YtmonbkoelehdlaaDoor
open Go.RowKit

theorem ownsRow_same {w w' : World} {base : Nat} {e : TypeId} {size : Nat} {v : Value} {n : Nat} {xs : List Value} (h : w.ownsRow base e size v n xs) (hs : ∀ b, v.ownBlock = some b → w'.heap[b]? = w.heap[b]?) : w'.ownsRow base e size v n xs := by
  obtain ⟨hl, h | ⟨g, cap, cur, rfl, hb, hh, h1⟩⟩ := h
  · exact ⟨hl, .inl h⟩
  · exact ⟨hl, .inr ⟨g, cap, cur, rfl, hb, (hs g rfl).trans hh, h1⟩⟩
theorem ownsRow_block {w : World} {base : Nat} {e : TypeId} {size : Nat} {v : Value} {n : Nat} {xs : List Value} (h : w.ownsRow base e size v n xs) : ∀ b, v.ownBlock = some b → base ≤ b ∧ b < w.heap.size ∧ ∃ cur, w.heap[b]? = some (.cells cur e (0, 0)) := by
  intro b hb
  have hl := h.lt b hb
  obtain ⟨_, ⟨rfl, _⟩ | ⟨g, cap, cur, rfl, _, hh, _⟩⟩ := h
  · cases hb
  · obtain rfl : g = b := by simpa [Value.ownBlock] using hb
    exact ⟨hl.1, hl.2, cur, hh⟩
theorem ownsRow_slice {w : World} {base : Nat} {e : TypeId} {size : Nat} {v : Value} {n : Nat} {xs : List Value} (h : w.ownsRow base e size v n xs) : ∃ a c, v = .slice a n c := by
  obtain ⟨_, ⟨rfl, rfl⟩ | ⟨g, cap, cur, rfl, _⟩⟩ := h
  · exact ⟨_, _, rfl⟩
  · exact ⟨_, _, rfl⟩

def setT (vs : Nat → Value) (q : Nat) (x : Value) : Nat → Value := fun r => if r = q then x else vs r
/-- The table's own cells. -/
def TabC (w : World) (T : Nat) (ty : TypeId) (N : Nat) (vs : Nat → Value) : Prop := ∃ cur, w.heap[T]? = some (.cells cur ty (0, 0)) ∧ cur.size = N ∧ ∀ i, i < N → cur[i]? = some (vs i)
theorem TabC.lt {w : World} {T : Nat} {ty : TypeId} {N : Nat} {vs : Nat → Value} (h : TabC w T ty N vs) : T < w.heap.size := by
  obtain ⟨cur, hc, _⟩ := h
  exact lt_of_heap hc
theorem TabC.block {w w' : World} {T : Nat} {ty : TypeId} {N : Nat} {vs : Nat → Value} (h : TabC w T ty N vs) (e : w'.heap[T]? = w.heap[T]?) : TabC w' T ty N vs := by
  obtain ⟨cur, hc, h1⟩ := h
  exact ⟨cur, e.trans hc, h1⟩
theorem TabC.cell {w : World} {T : Nat} {ty : TypeId} {N : Nat} {vs : Nat → Value} (h : TabC w T ty N vs) {i : Nat} (hi : i < N) : w.cell? ⟨T, i, none⟩ = some (vs i) := by
  obtain ⟨cur, hc, _, h1⟩ := h
  rw [cell_of_row w T i cur ty (0, 0) hc]
  exact h1 i hi
theorem TabC.fz {w : World} {T : Nat} {ty : TypeId} {N : Nat} {vs : Nat → Value} (h : TabC w T ty N vs) (i : Nat) : w.frozen? ⟨T, i, none⟩ = false := by
  obtain ⟨cur, hc, _⟩ := h
  exact frozen_of_row w T i cur ty hc
theorem TabC.put {w : World} {T : Nat} {ty : TypeId} {N : Nat} {vs : Nat → Value} (h : TabC w T ty N vs) {q : Nat} (hq : q < N) (x : Value) : TabC (w.setCell ⟨T, q, none⟩ x) T ty N (setT vs q x) := by
  obtain ⟨cur, hc, hs, h1⟩ := h
  refine ⟨cur.setIfInBounds q x, by simp [World.setCell, Array.getElem?_modify, hc], by simp [hs], fun i hi => ?_⟩
  unfold setT
  by_cases e : i = q
  · subst e
    rw [if_pos rfl]
    simp [hs, hi]
  · rw [if_neg e, Array.getElem?_setIfInBounds_ne (Ne.symm e)]
    exact h1 i hi

/-- Rows of one's own, each in a block of its own, and the table of them. -/
structure TabN (w : World) (base T : Nat) (ty e : TypeId) (size N : Nat) (vs : Nat → Value) (ls : Nat → List Value) (ns : Nat → Nat) : Prop where
  tab : TabC w T ty N vs
  lo : base ≤ T
  rows : ∀ q, q < N → w.ownsRow base e size (vs q) (ns q) (ls q)
  sep : ∀ q r, q < N → r < N → q ≠ r → ∀ b, (vs q).ownBlock = some b → (vs r).ownBlock ≠ some b
  off : ∀ q, q < N → (vs q).ownBlock ≠ some T

section
variable {w w' : World} {base T : Nat} {ty e : TypeId} {size N : Nat} {vs : Nat → Value} {ls : Nat → List Value} {ns : Nat → Nat}
theorem TabN.below (h : TabN w base T ty e size N vs ls ns) (hb : Below w.heap.size w w') : TabN w' base T ty e size N vs ls ns :=
  ⟨h.tab.block (hb.block T h.tab.lt), h.lo, fun q hq => ownsRow_same (h.rows q hq) (fun b hbk => hb.block b (ownsRow_block (h.rows q hq) b hbk).2.1), h.sep, h.off⟩
theorem TabN.alloc (h : TabN w base T ty e size N vs ls ns) (o : Obj) : TabN (w.alloc o) base T ty e size N vs ls ns := h.below ((Below.refl _ _).alloc (Nat.le_refl _) o)
theorem TabN.drew (h : TabN w base T ty e size N vs ls ns) : TabN w.drew base T ty e size N vs ls ns := h.below (Below.refl _ _).drew
theorem TabN.same {ls' : Nat → List Value} {ns' : Nat → Nat} (h : TabN w base T ty e size N vs ls ns) (e1 : ∀ q, q < N → ls q = ls' q ∧ ns q = ns' q) : TabN w base T ty e size N vs ls' ns' :=
  ⟨h.tab, h.lo, fun q hq => by rw [← (e1 q hq).1, ← (e1 q hq).2]; exact h.rows q hq, h.sep, h.off⟩
/-- What another block's change leaves. -/
theorem TabN.apart {row : Option Nat} (h : TabN w base T ty e size N vs ls ns) (hg : w.grownBy w' row) (h1 : some T ≠ row) (h2 : ∀ q, q < N → ∀ b, (vs q).ownBlock = some b → some b ≠ row) : TabN w' base T ty e size N vs ls ns :=
  ⟨h.tab.block (hg.block T h.tab.lt h1), h.lo, fun q hq => ownsRow_same (h.rows q hq) (fun b hbk => hg.block b (ownsRow_block (h.rows q hq) b hbk).2.1 (h2 q hq b hbk)), h.sep, h.off⟩

/-- One row grown, the table's cell not written yet. -/
structure TabMid (w : World) (base T : Nat) (ty e : TypeId) (size N : Nat) (vs : Nat → Value) (q : Nat) (x : Value) (n : Nat) (l : List Value) (ls : Nat → List Value) (ns : Nat → Nat) : Prop where
  tab : TabC w T ty N vs
  lo : base ≤ T
  row : w.ownsRow base e size x n l
  rows : ∀ r, r < N → r ≠ q → w.ownsRow base e size (vs r) (ns r) (ls r)
  sep : ∀ q r, q < N → r < N → q ≠ r → ∀ b, (vs q).ownBlock = some b → (vs r).ownBlock ≠ some b
  off : ∀ q, q < N → (vs q).ownBlock ≠ some T
  own : ∀ r, r < N → r ≠ q → ∀ b, (vs r).ownBlock = some b → x.ownBlock ≠ some b
  xoff : x.ownBlock ≠ some T

theorem TabN.grow (h : TabN w base T ty e size N vs ls ns) {q : Nat} (hq : q < N) {x : Value} {n : Nat} {l : List Value}
    (ho : w'.ownsRow base e size x n l) (hg : w.grownBy w' (vs q).ownBlock) (hob : x.ownBlock = (vs q).ownBlock ∨ x.ownBlock = some w.heap.size) : TabMid w' base T ty e size N vs q x n l ls ns := by
  refine ⟨h.tab.block (hg.block T h.tab.lt (Ne.symm (h.off q hq))), h.lo, ho, fun r hr hrq => ?_, h.sep, h.off, fun r hr hrq b hb he => ?_, fun he => ?_⟩
  · refine (h.rows r hr).kept hg ?_
    rcases Classical.em ((vs r).ownBlock = none) with h0 | h0
    · exact .inl h0
    · obtain ⟨b, hb⟩ := Option.ne_none_iff_exists'.1 h0
      exact .inr (fun e => h.sep r q hr hq hrq b hb (by rw [← e]; exact hb))
  · rcases hob with e | e
    · rw [e] at he
      exact h.sep r q hr hq hrq b hb he
    · rw [e] at he
      have := (ownsRow_block (h.rows r hr) b hb).2.1
      have := Option.some.inj he
      omega
  · rcases hob with e | e
    · rw [e] at he
      exact h.off q hq he
    · rw [e] at he
      have := h.tab.lt
      have := Option.some.inj he
      omega
theorem TabMid.put {q : Nat} {x : Value} {n : Nat} {l : List Value} (h : TabMid w base T ty e size N vs q x n l ls ns) (hq : q < N) :
    TabN (w.setCell ⟨T, q, none⟩ x) base T ty e size N (setT vs q x) (fun r => if r = q then l else ls r) (fun r => if r = q then n else ns r) := by
  have hblk : ∀ (v : Value) (m : Nat) (xs : List Value), v.ownBlock ≠ some T → w.ownsRow base e size v m xs → (w.setCell ⟨T, q, none⟩ x).ownsRow base e size v m xs := fun v m xs hv hr => ownsRow_same hr (fun b hb => by
    have hTb : T ≠ b := fun k => hv (by rw [hb, k])
    simp [World.setCell, Array.getElem?_modify, hTb])
  refine ⟨h.tab.put hq x, h.lo, fun r hr => ?_, fun a r ha hr har b hb he => ?_, fun r hr => ?_⟩
  · by_cases hrq : r = q
    · subst hrq
      simp only [setT, if_true]
      exact hblk _ _ _ h.xoff h.row
    · simp only [setT, if_neg hrq]
      exact hblk _ _ _ (h.off r hr) (h.rows r hr hrq)
  · by_cases h1 : a = q
    · subst h1
      have h2 : r ≠ a := fun k => har k.symm
      simp only [setT, if_true, if_neg h2] at hb he
      exact h.own r hr h2 b he hb
    · by_cases h2 : r = q
      · subst h2
        simp only [setT, if_true, if_neg h1] at hb he
        exact h.own a ha h1 b hb he
      · simp only [setT, if_neg h1, if_neg h2] at hb he
        exact h.sep a r ha hr har b hb he
  · by_cases hrq : r = q
    · subst hrq
      simp only [setT, if_true]
      exact h.xoff
    · simp only [setT, if_neg hrq]
      exact h.off r hr
end

theorem info_parts' {t : TypeId} {z : Value} {s b : Nat} (h : (Tryd.prog.info? t).map (fun i => (i.zero, i.size, i.bytes)) = some (some z, s, b)) : ∃ i, Tryd.prog.info? t = some i ∧ i.zero = some z ∧ i.size = s ∧ i.bytes = b := by
  cases hi : Tryd.prog.info? t with
  | none => simp [hi] at h
  | some i => simp [hi] at h; exact ⟨i, rfl, h.1, h.2.1, h.2.2⟩
theorem info3 : (Tryd.prog.info? 3).map (fun i => (i.zero, i.size, i.bytes)) = some (some (Value.int .i64 0), 1, 8) := by kernel_rfl
theorem info29 : (Tryd.prog.info? 29).map (fun i => (i.zero, i.size, i.bytes)) = some (some (.slice none 0 0), 1, 24) := by kernel_rfl
theorem made_one (v : Value) (n i : Nat) (h : i < n) : (madeCells #[v] n)[i]? = some v := by simp [madeCells, h, Nat.mod_one]
theorem cell_made (w : World) (v : Value) (n t i : Nat) (h : i < n) : (w.alloc (.cells (madeCells #[v] n) t)).cell? ⟨w.heap.size, i, none⟩ = some v := by
  rw [cell_of_row _ w.heap.size i _ t _ (heap_alloc_new w _)]
  exact made_one v n i h
theorem size_made1 (v : Value) (n : Nat) : (madeCells #[v] n).size = n := by rw [size_madeCells]
theorem made65 (w : World) (n : Nat) (hn : n ≤ 60) : (Instr.makeSlice 65 (.int .i64 (n : Int)) (.int .i64 (n : Int))).run Tryd.prog w = .ok (.slice (some ⟨w.heap.size, 0, none⟩) n n) (w.alloc (.cells (madeCells #[.slice none 0 0] n) 29)) := by
  obtain ⟨i, hi, hz, hs, hb⟩ := info_parts' info29
  have := run_make (P := Tryd.prog) w 65 29 i (.slice none 0 0) Tryd.underlying65 hi hz .i64 .i64 (n : Int) (n : Int) (by omega) (Int.le_refl _) (by rw [hb]; omega) (by omega)
  have e : (Value.slice none 0 0).cells = #[.slice none 0 0] := rfl
  rw [e] at this
  simpa [hs] using this
theorem tab65 (w : World) (n : Nat) : TabN (w.alloc (.cells (madeCells #[.slice none 0 0] n) 29)) w.heap.size w.heap.size 29 3 1 n (fun _ => .slice none 0 0) (fun _ => []) (fun _ => 0) :=
  ⟨⟨_, heap_alloc_new w _, size_made1 _ n, fun i hi => made_one _ n i hi⟩, Nat.le_refl _, fun q _ => World.ownsRow_nil _ _ _ _, fun q r _ _ _ b hb => (by cases hb), fun q _ h => (by cases h)⟩

def intV (l : List Nat) : List Value := l.map fun x : Nat => .int .i64 (x : Int)
/-- A number appended, and where. -/
theorem run_appI {w : World} {base B : Nat} {v : Value} {n : Nat} {L : List Nat} {x : Nat} (hown : w.ownsRow base 3 1 v n (intV L)) (hB : w.cell? ⟨B, 0, none⟩ = some (.int .i64 (x : Int))) (hb : base ≤ w.heap.size) (hlen : n ≤ 1000) (ty : TypeId) :
    ∃ v' w', (Builtin.append_ #[29, 29] ty #[v, .slice (some ⟨B, 0, none⟩) 1 1]).run Tryd.prog w = .ok v' w' ∧ w'.ownsRow base 3 1 v' (n + 1) (intV (L ++ [x])) ∧ w.grownBy w' v.ownBlock ∧ (v'.ownBlock = v.ownBlock ∨ v'.ownBlock = some w.heap.size) := by
  obtain ⟨i, hi, hz, hsz, hby⟩ := info_parts' info3
  have hnews : ∀ j u, [Value.int .i64 (x : Int)][j]? = some u → w.cell? ((⟨B, 0, none⟩ : Addr).add j) = some u := by
    intro j u hj
    match j, hj with
    | 0, hj => simp at hj; subst hj; simpa [Addr.add] using hB
  obtain ⟨v', w', hr, ho, hg, _, hob⟩ := run_append_own_at (P := Tryd.prog) (w := w) base 29 ty 3 i _ 1 8 Tryd.underlying29 hi hz hsz hby rfl (by decide) v _ _ hown ⟨B, 0, none⟩ 1 1 [.int .i64 (x : Int)] rfl hnews (by simp [Value.oneCell']) (by unfold maxLen; omega) (by omega) hb
  refine ⟨v', w', hr, ?_, hg, hob⟩
  have e : intV (L ++ [x]) = intV L ++ [.int .i64 (x : Int)] := by simp [intV]
  rw [e]; exact ho
/-- A row of numbers, read. -/
theorem int_read {w : World} {base : Nat} {v : Value} {L : List Nat} (h : w.ownsRow base 3 1 v L.length (intV L)) : ∃ a cap, v = .slice a L.length cap ∧ L.length ≤ cap ∧ ∀ j (hj : j < L.length), ∃ g, a = some ⟨g, 0, none⟩ ∧ w.cell? ⟨g, j, none⟩ = some (.int .i64 (L[j] : Int)) := by
  obtain ⟨hl, ⟨rfl, h0⟩ | ⟨g, cap, cur, rfl, hb, hh, h1, h2, h3, h4⟩⟩ := h
  · have : L = [] := List.eq_nil_of_length_eq_zero h0
    subst this
    exact ⟨none, 0, rfl, Nat.le_refl _, fun j hj => absurd hj (by simp)⟩
  · refine ⟨_, cap, rfl, h1, fun j hj => ⟨g, rfl, ?_⟩⟩
    rw [cell_of_row _ _ _ _ 3 _ hh]
    have e : (cur.toList.take (L.length * 1))[j]? = (intV L)[j]? := by rw [h4]
    rw [List.getElem?_take_of_lt (by omega), Array.getElem?_toList] at e
    rw [e]
    simp [intV, List.getElem?_eq_getElem hj]
end Go.Proofs.YtmonbkoelehdlaaDoor
