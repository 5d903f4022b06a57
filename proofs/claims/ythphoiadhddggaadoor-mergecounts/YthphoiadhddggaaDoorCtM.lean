/-
  Chapter 15.1: rows of numbers as values and in memory; a Count (seven numbers up, seven down); two of them held against each other.
-/
import Derived.Test.YthphoiadhddggaaDoorThX
import Derived.DeepKeys
namespace Go.Proofs.YthphoiadhddggaaDoor
open Go.RowKit

theorem grown_setCell (w : World) (a : Addr) (u : Value) : w.grownBy (w.setCell a u) (some a.block) :=
  ⟨rfl, rfl, rfl, by simp [World.setCell], fun k _ hne => by
    have : a.block ≠ k := fun e => hne (by rw [e])
    simp [World.setCell, Array.getElem?_modify, this]⟩
theorem grown_refl (w : World) (row : Option Nat) : w.grownBy w row := ⟨rfl, rfl, rfl, Nat.le_refl _, fun _ _ _ => rfl⟩
theorem grown_drew (w : World) (row : Option Nat) : w.grownBy w.drew row := ⟨rfl, rfl, rfl, Nat.le_refl _, fun _ _ _ => rfl⟩
theorem grown_drewN (w : World) (n : Nat) (row : Option Nat) : w.grownBy (w.drewN n) row := ⟨rfl, rfl, rfl, Nat.le_refl _, fun _ _ _ => rfl⟩
theorem grown_setCells (b : Nat) : ∀ (vs : List Value) (o : Nat) (w : World), w.grownBy (w.setCells b o vs) (some b)
  | [], _, w => grown_refl w _
  | v :: r, o, w => (grown_setCell w ⟨b, o, none⟩ v).trans (grown_setCells b r (o + 1) _)

theorem heap_setCell {w : World} {g : Nat} {cur : Array Value} {t : TypeId} {fr : Nat × Nat} (h : w.heap[g]? = some (.cells cur t fr)) (o : Nat) (u : Value) : ∃ cur', (w.setCell ⟨g, o, none⟩ u).heap[g]? = some (.cells cur' t fr) ∧ cur'.size = cur.size := by
  refine ⟨cur.setIfInBounds o u, ?_, by simp⟩
  simp [World.setCell, Array.getElem?_modify, h]
theorem heap_setCells {g : Nat} {t : TypeId} {fr : Nat × Nat} : ∀ (vs : List Value) (o : Nat) (w : World) (cur : Array Value), w.heap[g]? = some (.cells cur t fr) → ∃ cur', (w.setCells g o vs).heap[g]? = some (.cells cur' t fr) ∧ cur'.size = cur.size
  | [], _, _, cur, h => ⟨cur, h, rfl⟩
  | v :: r, o, w, cur, h => by
    obtain ⟨c1, h1, e1⟩ := heap_setCell h o v
    obtain ⟨c2, h2, e2⟩ := heap_setCells r (o + 1) _ c1 h1
    exact ⟨c2, h2, e2.trans e1⟩
/-- n numbers as cells. -/
def nL (n : Nat) (c : Nat → Int) : List Value := (List.range n).map fun q => .int .i64 (c q)
theorem nL_len (n : Nat) (c : Nat → Int) : (nL n c).length = n := by simp [nL]
theorem nL_at {n : Nat} (c : Nat → Int) {i : Nat} (hi : i < n) : (nL n c)[i]? = some (.int .i64 (c i)) := by
  unfold nL
  rw [List.getElem?_map, List.getElem?_range hi]
  rfl
theorem nL_one (n : Nat) (c : Nat → Int) : ∀ v ∈ nL n c, v.oneCell' = true := by
  intro v hv
  obtain ⟨q, _, rfl⟩ := List.mem_map.1 hv
  rfl
theorem nL_same {n : Nat} {c d : Nat → Int} (h : ∀ i, i < n → c i = d i) : nL n c = nL n d := by
  unfold nL
  refine List.map_congr_left fun q hq => ?_
  rw [h q (by simpa using hq)]
def setN (c : Nat → Int) (i : Nat) (x : Int) : Nat → Int := fun k => if k = i then x else c k
theorem nL_set {n : Nat} (c : Nat → Int) {i : Nat} (x : Int) : (nL n c).set i (.int .i64 x) = nL n (setN c i x) := by
  refine List.ext_getElem? fun q => ?_
  rw [List.getElem?_set, nL_len]
  by_cases e : i = q
  · subst e
    rw [if_pos rfl]
    split
    · rename_i hi
      rw [nL_at _ hi]; simp [setN]
    · rw [List.getElem?_eq_none (by rw [nL_len]; omega)]
  · rw [if_neg e]
    by_cases hq : q < n
    · rw [nL_at _ hq, nL_at _ hq]; simp [setN, Ne.symm e]
    · rw [List.getElem?_eq_none (by rw [nL_len]; omega), List.getElem?_eq_none (by rw [nL_len]; omega)]
theorem nS (n : Nat) (c : Nat → Int) : (nL n c).toArray.size = n := by simp [nL]
/-- A row of n numbers as a value. -/
def nA (n : Nat) (c : Nat → Int) : Value := .agg (nL n c).toArray
/-- A block of them. -/
def NumB (w : World) (g n : Nat) (c : Nat → Int) : Prop := ∃ t, w.heap[g]? = some (.cells (nL n c).toArray t (0, 0))
section
variable {w : World} {g n : Nat} {c : Nat → Int}
theorem NumB.lt (h : NumB w g n c) : g < w.heap.size := by
  obtain ⟨t, h⟩ := h
  exact (Array.getElem?_eq_some_iff.1 h).1
theorem NumB.block {w' : World} (h : NumB w g n c) (hb : w'.heap[g]? = w.heap[g]?) : NumB w' g n c := by
  obtain ⟨t, h⟩ := h
  exact ⟨t, hb.trans h⟩
theorem NumB.below {B : Nat} {w' : World} (h : NumB w g n c) (hb : Below B w w') (hg : g < B) : NumB w' g n c := h.block (hb.block g hg)
theorem NumB.alloc (h : NumB w g n c) (o : Obj) : NumB (w.alloc o) g n c := h.below ((Below.refl _ _).alloc (Nat.le_refl _) o) h.lt
theorem NumB.other (h : NumB w g n c) {p : Addr} (hp : g ≠ p.block) (x : Value) : NumB (w.setCell p x) g n c := h.block (Below.heap_setCell w p x g hp)
theorem NumB.drew (h : NumB w g n c) : NumB w.drew g n c := h.block rfl
theorem NumB.at (h : NumB w g n c) {i : Nat} (hi : i < n) : w.cell? ⟨g, i, none⟩ = some (.int .i64 (c i)) := by
  obtain ⟨t, h⟩ := h
  rw [cell_of_row _ _ _ _ t _ h, List.getElem?_toArray]
  exact nL_at c hi
theorem NumB.fz (h : NumB w g n c) (i : Nat) : w.frozen? ⟨g, i, none⟩ = false := by
  obtain ⟨t, h⟩ := h
  exact frozen_of_row w g i _ t h
theorem NumB.same {d : Nat → Int} (h : NumB w g n c) (e : ∀ i, i < n → c i = d i) : NumB w g n d := by
  obtain ⟨t, h⟩ := h
  exact ⟨t, by rw [← nL_same e]; exact h⟩
theorem NumB.range (h : NumB w g n c) : w.rangeAt g 0 (nL n c) := fun j v hv => by
  obtain ⟨t, h⟩ := h
  rw [Nat.zero_add, cell_of_row _ _ _ _ t _ h, List.getElem?_toArray]
  exact hv
theorem NumB.there (h : NumB w g n c) : w.there g 0 n := fun j hj => by
  refine ⟨?_, h.fz _⟩
  rw [Nat.zero_add, h.at hj]
  rfl
theorem NumB.put (h : NumB w g n c) (i : Nat) (x : Int) : NumB (w.setCell ⟨g, i, none⟩ (.int .i64 x)) g n (setN c i x) := by
  obtain ⟨t, h⟩ := h
  refine ⟨t, ?_⟩
  rw [heap_setCell_same w g i _ t _ h, List.setIfInBounds_toArray, nL_set c]
theorem numB_new (w : World) (n : Nat) (c : Nat → Int) (t : TypeId) : NumB (w.alloc (.cells (nL n c).toArray t)) w.heap.size n c := ⟨t, heap_alloc_new w _⟩
theorem NumB.store (h : NumB w g n c) (d : Nat → Int) : NumB (w.setCells g 0 (nL n d)) g n d := by
  have ht := h.there
  obtain ⟨t, hh⟩ := h
  obtain ⟨cur', hc', hs⟩ := heap_setCells (nL n d) 0 w _ hh
  have hr := World.rangeAt_setCells_same w g 0 (nL n d) (by rw [nL_len]; exact ht)
  refine ⟨t, ?_⟩
  have e : cur' = (nL n d).toArray := by
    refine Array.ext_getElem? fun j => ?_
    rw [nS] at hs
    by_cases hj : j < n
    · have hj' : j < (nL n d).length := by rw [nL_len]; exact hj
      have := hr j _ (List.getElem?_eq_getElem hj')
      rw [Nat.zero_add, cell_of_row _ _ _ _ t _ hc'] at this
      rw [this, List.getElem?_toArray, List.getElem?_eq_getElem hj']
    · rw [Array.getElem?_eq_none (by omega), List.getElem?_toArray, List.getElem?_eq_none (by rw [nL_len]; omega)]
  rw [hc', e]
theorem NumB.load (h : NumB w g n c) {ty : TypeId} {d : TypeDesc} (hu : Tryd.prog.underlying ty = some d) (hd : d.isRow = true) (hi : (Tryd.prog.info? ty).map (·.size) = some n) : (loadVar ty ⟨g, 0, none⟩).run Tryd.prog w = .ok (nA n c) w :=
  run_loadVar_mid w g 0 ty (nL n c) d h.range hu hd (by rw [nL_len]; exact hi)
theorem grown_setC (w : World) (g n : Nat) (c : Nat → Int) : w.grownBy (w.setCells g 0 (nL n c)) (some g) := grown_setCells g _ 0 w
end
theorem size33 : (Tryd.prog.info? 25).map (·.size) = some 14 := by kernel_rfl
theorem zero33 : (#[.int .i64 0, .int .i64 0, .int .i64 0, .int .i64 0, .int .i64 0, .int .i64 0, .int .i64 0, .int .i64 0, .int .i64 0, .int .i64 0, .int .i64 0, .int .i64 0, .int .i64 0, .int .i64 0] : Array Value) = (nL 14 fun _ => 0).toArray := rfl

/-! ### held against each other -/
def eqN (n : Nat) (c d : Nat → Int) : Bool := (List.range n).all fun q => c q == d q
theorem eqN_iff {n : Nat} {c d : Nat → Int} : eqN n c d = true ↔ ∀ q, q < n → c q = d q := by simp [eqN]
theorem eqInt (w : World) (d : Nat) (x y : Int) : (Op.equalIn (d + 1) 3 (.int .i64 x) (.int .i64 y)).run Tryd.prog w = .ok (x == y) w := run_equalIn_int w d 3 .i64 .i64 x y Tryd.underlying3
theorem eqItemsN (d n : Nat) (u v : Nat → Int) (w : World) : ∀ L : List Nat, (∀ q ∈ L, q < n) → (Op.eqItems (d + 1) 3 1 (nL n u).toArray (nL n v).toArray L).run Tryd.prog w = .ok (L.all fun q => u q == v q) w
  | [], _ => by simp [Op.eqItems]
  | q :: L, h => by
    have he : Tryd.prog.plainKey 3 = true := by kernel_rfl
    have hq := h q (by simp)
    have hu : (part 3 (nL n u).toArray (q * 1)).run Tryd.prog w = .ok (.int .i64 (u q)) w := run_part_plain w he (by rw [Nat.mul_one, List.getElem?_toArray]; exact nL_at u hq)
    have hv : (part 3 (nL n v).toArray (q * 1)).run Tryd.prog w = .ok (.int .i64 (v q)) w := run_part_plain w he (by rw [Nat.mul_one, List.getElem?_toArray]; exact nL_at v hq)
    have ih := eqItemsN d n u v w L (fun q hq => h q (by simp [hq]))
    simp only [Op.eqItems, Sem.run_bind, hv, hu, eqInt, Result.andThen_ok]
    cases e : (u q == v q)
    · simp [e]
    · simp [e, ih]
theorem eqArr (d n : Nat) (u v : Nat → Int) (w : World) (t : TypeId) (ht : Tryd.prog.underlying t = some (.array n 3)) : (Op.equalIn (d + 1 + 1) t (nA n u) (nA n v)).run Tryd.prog w = .ok (eqN n u v) w := by
  obtain ⟨i, hi⟩ : ∃ i, Tryd.prog.info? 3 = some i := by
    have h3 : (Tryd.prog.info? 3).map (fun i => (i.zero, i.size, i.bytes)) = some (some (Value.int .i64 0), 1, 8) := by kernel_rfl
    cases hq : Tryd.prog.info? 3 with
    | none => simp [hq] at h3
    | some i => exact ⟨i, rfl⟩
  have hc : Tryd.prog.cellsOf 3 = 1 := by kernel_rfl
  unfold nA
  rw [run_equalIn_array (P := Tryd.prog) w (d + 1) (t := t) (e := 3) (n := n) _ _ ht hi, hc]
  exact eqItemsN d n u v w (List.range n) (fun q hq => by simpa using hq)
theorem partUp (c : Nat → Int) (w : World) : (part 23 (nL 14 c).toArray 0).run Tryd.prog w = .ok (nA 7 c) w := by kernel_rfl
theorem partDown (c : Nat → Int) (w : World) : (part 23 (nL 14 c).toArray 7).run Tryd.prog w = .ok (nA 7 fun i => c (7 + i)) w := by kernel_rfl
theorem fields33 : Tryd.prog.underlying 25 = some (.struct (Tryd.prog.fieldsOf 25)) := by kernel_rfl
theorem fl33 : (Tryd.prog.fieldsOf 25).toList.map (fun f => (f.name, f.type, f.offset)) = [("Up", 23, 0), ("Down", 23, 7)] := by kernel_rfl
theorem eqCount (c d : Nat → Int) (w : World) : (Op.equalIn 10000 25 (nA 14 c) (nA 14 d)).run Tryd.prog w = .ok (eqN 14 c d) w := by
  have hst : Tryd.prog.stoodInHeld 25 = false := by kernel_rfl
  have h7 := eqArr 9997 7 c d w 23 Tryd.underlying23
  have h8 := eqArr 9997 7 (fun i => c (7 + i)) (fun i => d (7 + i)) w 23 Tryd.underlying23
  have e : eqN 14 c d = (eqN 7 c d && eqN 7 (fun i => c (7 + i)) (fun i => d (7 + i))) := by
    rw [Bool.eq_iff_iff, Bool.and_eq_true, eqN_iff, eqN_iff, eqN_iff]
    refine ⟨fun h => ⟨fun q hq => h q (by omega), fun q hq => h (7 + q) (by omega)⟩, fun ⟨h1, h2⟩ q hq => ?_⟩
    by_cases hq7 : q < 7
    · exact h1 q hq7
    · have := h2 (q - 7) (by omega)
      rw [show 7 + (q - 7) = q by omega] at this
      exact this
  have hfl := fl33
  unfold nA
  rw [show (10000 : Nat) = 9999 + 1 from rfl, run_equalIn_struct w 9999 25 _ _ fields33 hst]
  match hL : (Tryd.prog.fieldsOf 25).toList with
  | [f1, f2] =>
    rw [hL] at hfl
    simp only [List.map_cons, List.map_nil, List.cons.injEq, Prod.mk.injEq, and_true] at hfl
    obtain ⟨⟨n1, t1, o1⟩, n2, t2, o2⟩ := hfl
    simp only [Op.eqFields, n1, n2, t1, t2, o1, o2, ne_eq, Sem.run_bind, partUp, partDown, Result.andThen_ok, h7, h8, Sem.run_ite]
    rw [e]
    cases eqN 7 c d <;> cases eqN 7 (fun i => c (7 + i)) (fun i => d (7 + i)) <;> simp
  | [] => rw [hL] at hfl; simp at hfl
  | [_] => rw [hL] at hfl; simp at hfl
  | _ :: _ :: _ :: _ => rw [hL] at hfl; simp at hfl

/-! ### at the operation, for the walk -/
section
variable {ops : Array Oper} {rest : List Oper} {op : Oper} {a : Act} {w : World} {Q : Exit → Act → World → Prop}
theorem wpList_loadN (hgd : op.guard = none) (ty : TypeId) (x : Operand) (ho : op.op = .load ty x) (b n : Nat) (c : Nat → Int) (hx : a.eval x = .pointer (some ⟨b, 0, none⟩)) (h : NumB w b n c) (d : TypeDesc)
    (hu : Tryd.prog.underlying ty = some d) (hd : d.isRow = true) (hi : (Tryd.prog.info? ty).map (·.size) = some n)
    (hK : wpList Tryd.prog ops Q rest (a.put op.dst (.agg (nL n c).toArray)) w) : wpList Tryd.prog ops Q (op :: rest) a w :=
  wpList_load_mid hgd ty x ho b 0 hx (nL n c) d h.range hu hd (by rw [nL_len]; exact hi) hK
theorem wpList_loadG (hw : Region.wanted op (yielded ops a.tmps) = true) (ty : TypeId) (x : Operand) (ho : op.op = .load ty x) (b n : Nat) (c : Nat → Int) (hx : a.eval x = .pointer (some ⟨b, 0, none⟩)) (h : NumB w b n c) (d : TypeDesc)
    (hu : Tryd.prog.underlying ty = some d) (hd : d.isRow = true) (hi : (Tryd.prog.info? ty).map (·.size) = some n)
    (hK : wpList Tryd.prog ops Q rest (a.put op.dst (.agg (nL n c).toArray)) w) : wpList Tryd.prog ops Q (op :: rest) a w :=
  wpList_step fun K hK' => by
    rw [if_pos hw]
    exact wp_load_mid ty x ho b 0 hx (nL n c) d h.range hu hd (by rw [nL_len]; exact hi) (hK' _ _ hK)
theorem wpList_storeN (hgd : op.guard = none) (ty : TypeId) (x y : Operand) (ho : op.op = .store ty x y) (b n : Nat) (c d : Nat → Int) (hx : a.eval x = .pointer (some ⟨b, 0, none⟩)) (hy : a.eval y = .agg (nL n d).toArray) (h : NumB w b n c)
    (hi : (Tryd.prog.info? ty).map (·.size) = some n)
    (hK : ∀ w', NumB w' b n d → w.grownBy w' (some b) → wpList Tryd.prog ops Q rest (a.put op.dst undef) w') : wpList Tryd.prog ops Q (op :: rest) a w :=
  wpList_store_mid hgd ty x y ho b 0 (nL n d).toArray hx hy (by rw [nS]; exact h.there) (by rw [nS]; exact hi) (all_oneCell_toArray (nL_one n d)) (hK _ (h.store d) (grown_setC w b n d))
end
end Go.Proofs.YthphoiadhddggaaDoor
