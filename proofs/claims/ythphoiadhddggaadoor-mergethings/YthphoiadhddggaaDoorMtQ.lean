/-
  MergeThings: a number goes into want.
-/
import Derived.Test.YthphoiadhddggaaDoorMtP
import Derived.Deep.RegionLaw
namespace Go.Proofs.YthphoiadhddggaaDoor
open Go.RowKit

section
variable {w wr w' : World} {mi mg : Nat → Nat} {p : Nat → Option Nat} {f : Nat → Th} {i : Nat → In1} {g : Nat → Go1}
theorem MtJ.rows (h : MtJ w wr mi mg p f i g) {r : Nat} (hr : ∀ t, t < 3 → mi t < r ∧ mg t < r ∧ ∀ N, p t = some N → N < r) {row : Option Nat} (hg : wr.grownBy w' row) (hrow : ∀ b, row = some b → r ≤ b) : MtJ w w' mi mg p f i g := by
  cases row with
  | none => exact h.iter hr (hg.but (some r))
  | some b =>
    have hb := hrow b rfl
    exact h.iter (fun t ht => ⟨Nat.lt_of_lt_of_le (hr t ht).1 hb, Nat.lt_of_lt_of_le (hr t ht).2.1 hb, fun N hN => Nat.lt_of_lt_of_le ((hr t ht).2.2 N hN) hb⟩) hg
end

theorem MaxU.max {i : In1} {p n b : Int} {left : Int → Int → Bool} (h : MaxU i p left (if n < b then b else n)) : MaxU i p left (Max.max n b) := by
  have e : (if n < b then b else n) = Max.max n b := by
    rw [Int.max_def]
    split <;> split <;> omega
  rwa [e] at h
theorem size3 : (Tryd.prog.info? 3).map (·.size) = some 1 := by kernel_rfl
/-- All from place k on go one place on. -/
theorem step_copy_ins {ops : Array Oper} {o : Oper} {a : Act} {w : World} {K : Act → World → Prop} {Q : Exit → Act → World → Prop} {E : Prop} (hgd : o.guard = none) (d s : Operand)
    (ho : o.op = .call { callee := .builtin .copy, args := #[d, s], argTypes := #[22, 22] })
    (dp sp : Option Addr) (dLen dCap sLen sCap : Nat) (hd : a.eval d = .slice dp dLen dCap) (hs : a.eval s = .slice sp sLen sCap)
    (g off cap : Nat) (cur : Array Value) (L : List Int) (k : Nat) (hg : w.heap[g]? = some (.cells cur 3 (0, 0))) (h1 : L.length + 1 ≤ cap) (h2 : off + cap ≤ cur.size)
    (h4 : ∀ j (hj : j < L.length), w.cell? ⟨g, off + j, none⟩ = some (.int .i64 L[j])) (hdl : dLen = L.length - k) (hsl : sLen = L.length + 1 - k)
    (hpos : k < L.length → dp = some ⟨g, off + (k + 1), none⟩ ∧ sp = some ⟨g, off + k, none⟩)
    (h : ∀ w', w' = w.setCells g (off + (k + 1)) ((L.drop k).map (Value.int .i64)) → K (a.put o.dst (goInt (L.length - k : Nat))) w') :
    if Region.wanted o (yielded ops a.tmps) = true then Oper.wp Tryd.prog o a w K Q else E := by
  have hw : Region.wanted o (yielded ops a.tmps) = true := by simp [Region.wanted, hgd]
  rw [if_pos hw]
  subst hdl hsl
  by_cases h0 : k < L.length
  · obtain ⟨rfl, rfl⟩ := hpos h0
    have hlen : ((L.drop k).map (Value.int .i64)).length = L.length - k := by simp
    have hrun := run_copy_cells (P := Tryd.prog) w 22 22 o.type 3 g (off + (k + 1)) (L.length - k) dCap ⟨g, off + k, none⟩ (L.length + 1 - k) sCap ((L.drop k).map (Value.int .i64)) Tryd.underlying22 size3
      (by rw [hlen]; exact (Nat.min_eq_right (by omega)).symm) (row_src h4 k) (fun j hj => some_of_heap hg (by rw [hlen] at hj; omega)) (fun j _ => unfrozen_of_heap hg _) (fun v hv => by obtain ⟨x, _, rfl⟩ := List.mem_map.1 hv; rfl)
    rw [hlen] at hrun
    unfold Oper.wp
    simp [execOp, ho, resolve, invoke, builtin, hd, hs, hrun, Result.andThen]
    exact h _ (by rw [List.map_drop])
  · have hz : L.length - k = 0 := by omega
    have hrun := run_copy_none (P := Tryd.prog) w 22 22 o.type 3 dp sp (L.length - k) dCap (L.length + 1 - k) sCap Tryd.underlying22 size3 (by rw [hz]; exact Nat.min_zero _)
    have hnil : L.drop k = [] := List.drop_eq_nil_of_le (by omega)
    unfold Oper.wp
    simp [execOp, ho, resolve, invoke, builtin, hd, hs, hrun, Result.andThen]
    have := h w (by rw [hnil]; rfl)
    rw [hz] at this
    exact this
end Go.Proofs.YthphoiadhddggaaDoor
