/-
  Events that came in, opened: each its seven numbers; and what the second listed variable holds.
-/
import Derived.Test.YtkedbcfejcakaaaDoorOpenEv
import Derived.Test.YtkedbcfejcakaaaDoorOpenOps
import Derived.Test.YtkedbcfejcakaaaDoorOpsWalk
namespace Go.Proofs.YtkedbcfejcakaaaDoor
open Go.ChangeShapes Go.WideShapes Go.ChangeAt Go.RowKit

theorem cells28 : Tryd.prog.cellsOf 28 = 1 := by kernel_rfl
theorem gFine : Tryd.prog.globalNamed "testimony/testimonyref.Fine" = some 0 := by kernel_rfl
theorem tFine : (Tryd.prog.globals[0]?).map (·.type) = some 37 := by kernel_rfl

theorem fine_of {W : World} (h : laidMetH Tryd.prog [("errors.errorType", Rows.laid_errors_errorType), ("testimony/testimonyref.Fine", Rows.laid_testimony_testimonyref_Fine)] W) : W.cell? ⟨0, 0, none⟩ = some (.int .i64 0) ∧ W.cell? ⟨0, 1, none⟩ = some (.int .i64 (-1)) := by
  have h' : laidMet Tryd.prog [("testimony/testimonyref.Fine", Rows.laid_testimony_testimonyref_Fine)] W := (laidMetH_iff.1 h).1
  obtain ⟨ps, ⟨g, t, cs, fuel, p, q, hg, ht, hv, htr, _, _⟩, _⟩ := h'
  obtain rfl := Option.some.inj (gFine.symm.trans hg)
  obtain rfl := Option.some.inj (tFine.symm.trans ht)
  obtain ⟨xs, n, _, hx, hl, hlen, hf⟩ := DataW.trod_struct Tryd.underlying37 htr
  have hx1 : xs.map (·.1) = [.lit (.int .i64 0), .lit (.int .i64 (-1))] := by
    have := congrArg Prod.fst hx
    simpa [Rows.laid_testimony_testimonyref_Fine] using this.symm
  have f0 : DataW.trod (fun _ => ()) Tryd.prog W 0 (fun _ => true) false n 28 ((cs.toList.drop 0).take (Tryd.prog.cellsOf 28)) = xs[0]? := hf 0 _ rfl
  have f1 : DataW.trod (fun _ => ()) Tryd.prog W 0 (fun _ => true) false n 3 ((cs.toList.drop 1).take (Tryd.prog.cellsOf 3)) = xs[1]? := hf 1 _ rfl
  rw [cells28] at f0
  rw [cells3] at f1
  have g0 : (xs.map (·.1))[0]? = some (.lit (.int .i64 0)) := by rw [hx1]; rfl
  have g1 : (xs.map (·.1))[1]? = some (.lit (.int .i64 (-1))) := by rw [hx1]; rfl
  rw [List.getElem?_map] at g0 g1
  obtain ⟨y0, hy0, e0⟩ := Option.map_eq_some_iff.1 g0
  obtain ⟨y1, hy1, e1⟩ := Option.map_eq_some_iff.1 g1
  rw [hy0] at f0
  rw [hy1] at f1
  obtain ⟨n0, c0, z0, _⟩ := DataW.trod_int Tryd.underlying28 f0
  obtain ⟨n1, c1, z1, _⟩ := DataW.trod_int Tryd.underlying3 f1
  have hn0 : n0 = 0 := by rw [z0] at e0; simpa using e0
  have hn1 : n1 = -1 := by rw [z1] at e1; simpa using e1
  subst hn0 hn1
  have k0 : ((cs.toList.drop 0).take 1)[0]? = some (.int .i64 0) := by rw [c0]; rfl
  have k1 : ((cs.toList.drop 1).take 1)[0]? = some (.int .i64 (-1)) := by rw [c1]; rfl
  rw [List.getElem?_take_of_lt (by decide), List.getElem?_drop] at k0 k1
  refine ⟨(World.var?_cell gFine hv 0).trans (by simpa using k0), (World.var?_cell gFine hv 1).trans (by simpa using k1)⟩

section
variable {H : Type} {enc : TypeId × Value → H} {w : World} {base : Nat} {spare : Nat → Bool} {held : Bool}

theorem evs_of_trod {fuel : Nat} {a : Option Addr} {len cap : Nat} {x : DataW H × List MemPlace} (h : DataW.trod enc Tryd.prog w base spare held fuel 33 [.slice a len cap] = some x) :
    len ≤ maxLen ∧ (len = 0 ∨ (∃ b off, ∃ l : List Ev, a = some ⟨b, off, none⟩ ∧ l.length = len ∧ b < w.heap.size ∧ EvsAt w b off l)) := by
  rcases DataW.trod_slice Tryd.underlying33 h with ⟨hcs, _⟩ | ⟨a', len', cap', elems, rest, n, _, hcs, _, hb, hl, hm, hlen, hel, _, _⟩
  · simp at hcs
    obtain ⟨_, rfl, _⟩ := hcs
    exact ⟨Nat.zero_le _, .inl rfl⟩
  · simp at hcs
    obtain ⟨rfl, rfl, rfl⟩ := hcs
    refine ⟨Nat.le_trans hl hm, ?_⟩
    by_cases h0 : len = 0
    · exact .inl h0
    · refine .inr ?_
      rw [cells23] at hel
      have hc : ∀ i, i < len → ∃ e : Ev, ∀ j, j < 7 → w.cell? ((a'.add (i * 7)).add j) = e.cells[j]? := fun i hi => by
        have he := hel i hi
        rw [List.getElem?_eq_getElem (by omega)] at he
        obtain ⟨cs, h1, h2⟩ := Option.bind_eq_some_iff.1 he
        obtain ⟨o, rfl⟩ := ev_of_trod h2
        obtain ⟨_, _, h3⟩ := World.cells?_some h1
        exact ⟨o, fun j hj => h3 j hj⟩
      obtain ⟨b, off, spot⟩ := a'
      have hspot : spot = none := by
        obtain ⟨o, ho⟩ := hc 0 (by omega)
        have := ho 0 (by decide)
        simpa [Addr.add] using World.cell?_spot this
      subst hspot
      obtain ⟨l, hll, hlp⟩ := list_of len hc
      refine ⟨b, off, l, rfl, hll, ?_, fun i hi => ?_⟩
      · have := hlp 0 (by omega) 0 (by decide)
        exact World.block_lt_of_cell? w _ this
      · have g : ∀ j, j < 7 → w.cell? ⟨b, off + i * 7 + j, none⟩ = l[i].cells[j]? := fun j hj => by
          have := hlp i hi j hj
          rwa [add_eq, add_eq] at this
        exact ⟨g 0 (by decide), g 1 (by decide), g 2 (by decide), g 3 (by decide), g 4 (by decide), g 5 (by decide), g 6 (by decide)⟩

theorem evs_of_Trod {a : Option Addr} {len cap : Nat} {d : DataW H} {ps : List MemPlace} (h : DataW.Trod enc Tryd.prog w base spare held 33 (.slice a len cap) d ps) :
    len ≤ maxLen ∧ (len = 0 ∨ (∃ b off, ∃ l : List Ev, a = some ⟨b, off, none⟩ ∧ l.length = len ∧ b < w.heap.size ∧ EvsAt w b off l)) := by
  obtain ⟨fuel, hf⟩ := h
  exact evs_of_trod (x := (d, ps)) (by simpa [Value.cells] using hf)
end
end Go.Proofs.YtkedbcfejcakaaaDoor
