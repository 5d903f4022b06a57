/-
  slices.Sort and slices.Compact at a row of one's own.
-/
import Derived.Test.YthphoiadhddggaaDoorCpP
namespace Go.Proofs.YthphoiadhddggaaDoor
open Go.RowKit Go.Sort

theorem heap_putRow {w : World} {g off n : Nat} {cur : Array Value} {t : TypeId} (d : Array Int) (os : Array Obj) (h : w.heap[g]? = some (.cells cur t (0, 0))) :
    ∃ cur', (grow (putRow (Value.int .i64) (Sort.ahead w n) g off d) os).heap[g]? = some (.cells cur' t (0, 0)) ∧ cur'.size = cur.size := by
  have hlt := lt_of_heap h
  refine ⟨putCells (Value.int .i64) off d cur, ?_, by simp [putCells]⟩
  unfold grow putRow mapBlock Sort.ahead
  simp only
  rw [Array.getElem?_append_left (by simpa using hlt), Array.getElem?_modify]
  simp [h, onCells]
theorem grown_putRow (w : World) (n g off : Nat) (d : Array Int) (os : Array Obj) : w.grownBy (grow (putRow (Value.int .i64) (Sort.ahead w n) g off d) os) (some g) :=
  ⟨rfl, rfl, rfl, by simp [grow, Sort.ahead], fun k hk hne => by
    have : g ≠ k := fun e => hne (by rw [e])
    unfold grow putRow mapBlock Sort.ahead
    simp only
    rw [Array.getElem?_append_left (by simpa using hk), Array.getElem?_modify, if_neg this]⟩
theorem cell_grow {w : World} {os : Array Obj} {a : Addr} (h : a.block < w.heap.size) : (grow w os).cell? a = w.cell? a :=
  World.cell?_of_block (by unfold grow; simp only; rw [Array.getElem?_append_left h])
theorem holds_row {w : World} {g off : Nat} {cur : Array Value} {st : List Int} (hg : w.heap[g]? = some (.cells cur 3 (0, 0))) (h : ∀ j, (hj : j < st.length) → w.cell? ⟨g, off + j, none⟩ = some (.int .i64 st[j])) : Holds (Value.int .i64) w g off st.toArray := fun j hj => by
  have hj' : j < st.length := by simpa using hj
  refine ⟨?_, unfrozen_of_heap hg _⟩
  rw [h j hj', getElem!_pos st.toArray j hj]
  simp

theorem sort_row {w : World} {base : Nat} {v : Value} {st : List Int} (h : RowAt w base v st) (hl : st.length ≤ 100000) :
    Calls Tryd.prog 24 #[v] w fun e w' => e = .returned (.tuple #[]) ∧ RowAt w' base v (st.mergeSort fun x y => decide (x ≤ y)) ∧ w.grownBy w' v.ownBlock := by
  rcases h with ⟨rfl, rfl⟩ | ⟨g, off, cap, cur, rfl, hb, hg, h1, h2, h3, h4⟩
  · refine (sort_nil none 0 w).mono ?_
    rintro e w' ⟨rfl, rfl⟩
    exact ⟨rfl, by simpa using rowAt_nil w' base, grown_refl _ _⟩
  · refine (sort_lit g off cap st w (holds_row hg h4) (lt_of_heap hg) (by omega)).mono ?_
    rintro e w' ⟨rfl, n, os, rfl⟩
    refine ⟨rfl, ?_, grown_putRow w n g off _ os⟩
    have hlen : (st.mergeSort fun x y => decide (x ≤ y)).length = st.length := List.length_mergeSort _
    have key : ∀ (d : List Int), d.length = st.length → RowAt (grow (putRow (Value.int .i64) (Sort.ahead w n) g off d.toArray) os) base (.slice (some ⟨g, off, none⟩) st.length cap) d := by
      intro d hd
      refine rowAt_put hb (heap_putRow _ _ hg) (by omega) h2 h3 (fun j hj => ?_) hd.symm
      rw [cell_grow (by simpa [Sort.ahead] using lt_of_heap hg), cell?_putRow (Value.int .i64) (Sort.ahead w n) g off st.toArray d.toArray (holds_row (by simpa [Sort.ahead] using hg) h4) (by simpa using hd) j (by simpa using hj), getElem!_pos d.toArray j (by simpa using hj)]
      simp
    exact key _ hlen

theorem comp_row {w : World} {base : Nat} {v : Value} {st : List Int} (h : RowAt w base v st) (hl : st.length ≤ 100000) :
    Calls Tryd.prog 25 #[v] w fun e w' => ∃ v', e = .returned v' ∧ RowAt w' base v' (Lib.compact st) ∧ w.grownBy w' v.ownBlock := by
  rcases h with ⟨rfl, rfl⟩ | ⟨g, off, cap, cur, rfl, hb, hg, h1, h2, h3, h4⟩
  · refine (comp_nil none 0 w).mono ?_
    rintro e w' ⟨rfl, rfl⟩
    exact ⟨_, rfl, rowAt_nil w' base, grown_refl _ _⟩
  · refine (comp_lit g off cap st w (holds_row hg h4) (by omega) h1).mono ?_
    rintro e w' ⟨rfl, n, rfl⟩
    have hcl := compact_le st
    generalize hd : Lib.compact st ++ List.replicate (st.length - (Lib.compact st).length) 0 = d
    have hdl : d.length = st.length := by rw [← hd]; simp; omega
    have e0 : putRow (Value.int .i64) (Sort.ahead w n) g off d.toArray = grow (putRow (Value.int .i64) (Sort.ahead w n) g off d.toArray) #[] := by simp
    rw [e0]
    refine ⟨_, rfl, ?_, grown_putRow w n g off _ #[]⟩
    refine rowAt_put hb (heap_putRow _ _ hg) (by omega) h2 h3 (fun j hj => ?_) rfl
    rw [cell_grow (by simpa [Sort.ahead] using lt_of_heap hg), cell?_putRow (Value.int .i64) (Sort.ahead w n) g off st.toArray d.toArray (holds_row (by simpa [Sort.ahead] using hg) h4) (by simpa using hdl) j (by simp; omega), getElem!_pos d.toArray j (by simp; omega)]
    subst hd
    simp [List.getElem_append_left hj]
end Go.Proofs.YthphoiadhddggaaDoor
