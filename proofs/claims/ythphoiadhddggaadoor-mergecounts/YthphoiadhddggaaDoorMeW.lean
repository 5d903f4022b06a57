/-
  The statement MergeCounts, walked: its first loop.
-/
import Derived.Test.YthphoiadhddggaaDoorCtV
import Derived.Test.YthphoiadhddggaaDoorGrT
namespace Go.Proofs.YthphoiadhddggaaDoor
open Go.RowKit

theorem size7 : (Tryd.prog.info? 23).map (·.size) = some 7 := by kernel_rfl
theorem zero7 : (#[.int .i64 0, .int .i64 0, .int .i64 0, .int .i64 0, .int .i64 0, .int .i64 0, .int .i64 0] : Array Value) = (nL 7 fun _ => 0).toArray := rfl
section
variable {ops : Array Oper} {rest : List Oper} {op : Oper} {a : Act} {w : World} {Q : Exit → Act → World → Prop}
theorem wpList_loadR (hw : Region.wanted op (yielded ops a.tmps) = true) (ty : TypeId) (x : Operand) (ho : op.op = .load ty x) (b o : Nat) (cs : List Value) (hx : a.eval x = .pointer (some ⟨b, o, none⟩)) (h : w.rangeAt b o cs) (d : TypeDesc)
    (hu : Tryd.prog.underlying ty = some d) (hd : d.isRow = true) (hi : (Tryd.prog.info? ty).map (·.size) = some cs.length)
    (hK : wpList Tryd.prog ops Q rest (a.put op.dst (.agg cs.toArray)) w) : wpList Tryd.prog ops Q (op :: rest) a w :=
  wpList_step fun K hK' => by
    rw [if_pos hw]
    exact wp_load_mid ty x ho b o hx cs d h hu hd hi (hK' _ _ hK)
end
theorem NumB.up {w : World} {g : Nat} {c : Nat → Int} (h : NumB w g 14 c) : w.rangeAt g 0 (nL 7 c) := fun j v hv => by
  have hj : j < 7 := by have := (List.getElem?_eq_some_iff.1 hv).1; rw [nL_len] at this; exact this
  rw [nL_at c hj] at hv
  rw [← hv, Nat.zero_add]
  exact h.at (by omega)
theorem NumB.down {w : World} {g : Nat} {c : Nat → Int} (h : NumB w g 14 c) : w.rangeAt g 7 (nL 7 fun i => c (7 + i)) := fun j v hv => by
  have hj : j < 7 := by have := (List.getElem?_eq_some_iff.1 hv).1; rw [nL_len] at this; exact this
  rw [nL_at _ hj] at hv
  rw [← hv]
  exact h.at (by omega)
theorem hi7 (c : Nat → Int) : (Tryd.prog.info? 23).map (·.size) = some (nL 7 c).length := by rw [nL_len]; exact size7

/-- What lies in memory: two counters, and the same numbers in four rows. -/
structure MeI (w wr : World) (c d : Nat → Int) : Prop where
  cb : NumB wr w.heap.size 14 c
  db : NumB wr (w.heap.size + 1) 14 d
  ub : NumB wr (w.heap.size + 1 + 1) 7 c
  vb : NumB wr (w.heap.size + 1 + 1 + 1) 7 (fun i => c (7 + i))
  xb : NumB wr (w.heap.size + 1 + 1 + 1 + 1) 7 d
  yb : NumB wr (w.heap.size + 1 + 1 + 1 + 1 + 1) 7 (fun i => d (7 + i))
  bel : Below w.heap.size w wr
theorem MeI.drew {w wr : World} {c d : Nat → Int} (h : MeI w wr c d) : MeI w wr.drew c d := ⟨h.cb.drew, h.db.drew, h.ub.drew, h.vb.drew, h.xb.drew, h.yb.drew, h.bel.drew⟩
theorem MeI.below {w wr w' : World} {c d : Nat → Int} (h : MeI w wr c d) (hb : Below wr.heap.size wr w') : MeI w w' c d := ⟨h.cb.below hb h.cb.lt, h.db.below hb h.db.lt, h.ub.below hb h.ub.lt, h.vb.below hb h.vb.lt, h.xb.below hb h.xb.lt, h.yb.below hb h.yb.lt, belJ h.bel hb⟩
theorem addC_up (c : Nat → Int) (p : Nat) (n : Int) (hn : n < 0) (i : Nat) (hi : i < 7) : addC c p n i = c i := by
  unfold addC
  rw [if_pos hn]
  unfold setN
  rw [if_neg (by omega)]
theorem addC_down (c : Nat → Int) (p : Nat) (n : Int) (hn : n < 0) (i : Nat) : setN (fun i => c (7 + i)) p (wrap64 (c (7 + p) - n)) i = addC c p n (7 + i) := by
  unfold addC
  rw [if_pos hn]
  unfold setN
  by_cases e : i = p
  · rw [if_pos e, if_pos (by omega)]
  · rw [if_neg e, if_neg (by omega)]
theorem addC_up' (c : Nat → Int) (p : Nat) (n : Int) (hn : ¬ n < 0) (i : Nat) : setN c p (wrap64 (c p + n)) i = addC c p n i := by
  unfold addC
  rw [if_neg hn]
theorem addC_down' (c : Nat → Int) (p : Nat) (hp : p < 7) (n : Int) (hn : ¬ n < 0) (i : Nat) : addC c p n (7 + i) = c (7 + i) := by
  unfold addC
  rw [if_neg hn]
  unfold setN
  rw [if_neg (by omega)]
end Go.Proofs.YthphoiadhddggaaDoor
