/-
  Moves, setups and stamps that came in, opened.
-/
import Derived.Test.YtggdjongbmdefaaDoorOpenG
import Derived.Test.YtggdjongbmdefaaDoorMvM
namespace Go.Proofs.YtggdjongbmdefaaDoor
open Go.ChangeShapes Go.WideShapes Go.ChangeAt Go.RowKit

section
variable {H : Type} {enc : TypeId × Value → H} {w : World} {base : Nat} {spare : Nat → Bool} {held : Bool}
theorem cellsMv : Tryd.prog.cellsOf 44 = 4 := by kernel_rfl
theorem mv_of_trod {fuel : Nat} {cs : List Value} {d : DataW H} {ps : List MemPlace} (h : DataW.trod enc Tryd.prog w base spare held fuel 44 cs = some (d, ps)) :
    ∃ s : Mvs, cs[0]? = some (.int .i64 s.what) ∧ cs[1]? = some (.int .i64 s.a) ∧ cs[2]? = some (.int .i64 s.b) ∧ cs[3]? = some (.int .i64 s.c) := by
  obtain ⟨xs, n, _, _, _, hlen, hf⟩ := DataW.trod_struct Tryd.underlying44 h
  have hl : xs.length = 4 := hlen
  have f0 : DataW.trod enc Tryd.prog w base spare held n 3 ((cs.drop 0).take (Tryd.prog.cellsOf 3)) = xs[0]? := hf 0 _ rfl
  have f1 : DataW.trod enc Tryd.prog w base spare held n 3 ((cs.drop 1).take (Tryd.prog.cellsOf 3)) = xs[1]? := hf 1 _ rfl
  have f2 : DataW.trod enc Tryd.prog w base spare held n 3 ((cs.drop 2).take (Tryd.prog.cellsOf 3)) = xs[2]? := hf 2 _ rfl
  have f3 : DataW.trod enc Tryd.prog w base spare held n 3 ((cs.drop 3).take (Tryd.prog.cellsOf 3)) = xs[3]? := hf 3 _ rfl
  rw [cells3] at f0 f1 f2 f3
  obtain ⟨a, e0⟩ := one_int f0 (by rw [List.getElem?_eq_getElem (by omega)]; rfl)
  obtain ⟨b, e1⟩ := one_int f1 (by rw [List.getElem?_eq_getElem (by omega)]; rfl)
  obtain ⟨c, e2⟩ := one_int f2 (by rw [List.getElem?_eq_getElem (by omega)]; rfl)
  obtain ⟨d, e3⟩ := one_int f3 (by rw [List.getElem?_eq_getElem (by omega)]; rfl)
  exact ⟨⟨a, b, c, d⟩, e0, e1, e2, e3⟩
theorem mvs_of_Trod {a : Option Addr} {len cap : Nat} {d : DataW H} {ps : List MemPlace} (h : DataW.Trod enc Tryd.prog w base spare held 35 (.slice a len cap) d ps) :
    ∃ l : List Mvs, l.length = len ∧ l.length ≤ maxLen ∧ MvsQ w a l := by
  obtain ⟨fuel, hf⟩ := h
  have h : DataW.trod enc Tryd.prog w base spare held fuel 35 [.slice a len cap] = some (d, ps) := by simpa [Value.cells] using hf
  obtain ⟨l, a', cap', h1, h2, h3, _, h5⟩ := row_of_trod (R := fun _ cs (s : Mvs) => cs[0]? = some (.int .i64 s.what) ∧ cs[1]? = some (.int .i64 s.a) ∧ cs[2]? = some (.int .i64 s.b) ∧ cs[3]? = some (.int .i64 s.c)) Tryd.underlying35 cellsMv (by omega) (fun _ _ _ _ h => mv_of_trod h) h
  simp at h1
  obtain ⟨rfl, rfl, rfl⟩ := h1
  refine ⟨l, rfl, h3, ?_⟩
  rcases h5 with h5 | ⟨b, off, e, hb, h5⟩
  · exact .inl h5
  · refine .inr ⟨b, off, e, hb, fun k hk => ?_⟩
    obtain ⟨_, vs, ⟨q0, q1, q2, q3⟩, _, hq, _⟩ := h5 k hk
    exact ⟨hq 0 _ q0, hq 1 _ q1, hq 2 _ q2, hq 3 _ q3⟩
theorem cellsSu : Tryd.prog.cellsOf 63 = 5 := by kernel_rfl
theorem setup_of_Trod {v : Value} {d : DataW H} {ps : List MemPlace} (hv : ∃ cs, v = .agg cs ∧ cs.size = Tryd.prog.cellsOf 63) (h : DataW.Trod enc Tryd.prog w base spare held 63 v d ps) : ∃ (n k a t : Int) (b : Bool), v = .agg #[.int .i64 n, .int .i64 k, .int .i64 a, .int .i64 t, .bool b] := by
  obtain ⟨cs, rfl, _⟩ := hv
  obtain ⟨fuel, hf0⟩ := h
  have h : DataW.trod enc Tryd.prog w base spare held fuel 63 cs.toList = some (d, ps) := by simpa [Value.cells] using hf0
  obtain ⟨xs, n, _, _, hl, hlen, hf⟩ := DataW.trod_struct Tryd.underlying63 h
  rw [cellsSu] at hl
  have hsome : ∀ i, i < 5 → xs[i]?.isSome = true := fun i hi => by
    rw [List.getElem?_eq_getElem (by rw [hlen]; exact hi)]; rfl
  have f0 : DataW.trod enc Tryd.prog w base spare held n 3 ((cs.toList.drop 0).take (Tryd.prog.cellsOf 3)) = xs[0]? := hf 0 _ rfl
  have f1 : DataW.trod enc Tryd.prog w base spare held n 3 ((cs.toList.drop 1).take (Tryd.prog.cellsOf 3)) = xs[1]? := hf 1 _ rfl
  have f2 : DataW.trod enc Tryd.prog w base spare held n 3 ((cs.toList.drop 2).take (Tryd.prog.cellsOf 3)) = xs[2]? := hf 2 _ rfl
  have f3 : DataW.trod enc Tryd.prog w base spare held n 3 ((cs.toList.drop 3).take (Tryd.prog.cellsOf 3)) = xs[3]? := hf 3 _ rfl
  have f4 : DataW.trod enc Tryd.prog w base spare held n 4 ((cs.toList.drop 4).take (Tryd.prog.cellsOf 4)) = xs[4]? := hf 4 _ rfl
  rw [cells3] at f0 f1 f2 f3
  rw [cells4] at f4
  obtain ⟨i0, e0⟩ := one_int f0 (hsome 0 (by decide))
  obtain ⟨i1, e1⟩ := one_int f1 (hsome 1 (by decide))
  obtain ⟨i2, e2⟩ := one_int f2 (hsome 2 (by decide))
  obtain ⟨i3, e3⟩ := one_int f3 (hsome 3 (by decide))
  obtain ⟨i4, e4⟩ := one_bool f4 (hsome 4 (by decide))
  obtain ⟨c0, c1, c2, c3, c4, hcs⟩ : ∃ c0 c1 c2 c3 c4, cs.toList = [c0, c1, c2, c3, c4] := by
    match cs.toList, hl with
    | [c0, c1, c2, c3, c4], _ => exact ⟨c0, c1, c2, c3, c4, rfl⟩
  rw [hcs] at e0 e1 e2 e3 e4
  simp at e0 e1 e2 e3 e4
  have : cs = #[c0, c1, c2, c3, c4] := by rw [← Array.toArray_toList (xs := cs), hcs]
  exact ⟨i0, i1, i2, i3, i4, by rw [this, e0, e1, e2, e3, e4]⟩
theorem cellsSp : Tryd.prog.cellsOf 65 = 2 := by kernel_rfl
theorem stamp_of_Trod {v : Value} {d : DataW H} {ps : List MemPlace} (hv : ∃ cs, v = .agg cs ∧ cs.size = Tryd.prog.cellsOf 65) (h : DataW.Trod enc Tryd.prog w base spare held 65 v d ps) : ∃ t c : Int, v = .agg #[.int .i64 t, .int .i64 c] := by
  obtain ⟨cs, rfl, _⟩ := hv
  obtain ⟨fuel, hf0⟩ := h
  have h : DataW.trod enc Tryd.prog w base spare held fuel 65 cs.toList = some (d, ps) := by simpa [Value.cells] using hf0
  obtain ⟨xs, n, _, _, hl, hlen, hf⟩ := DataW.trod_struct Tryd.underlying65 h
  rw [cellsSp] at hl
  have hsome : ∀ i, i < 2 → xs[i]?.isSome = true := fun i hi => by
    rw [List.getElem?_eq_getElem (by rw [hlen]; exact hi)]; rfl
  have f0 : DataW.trod enc Tryd.prog w base spare held n 3 ((cs.toList.drop 0).take (Tryd.prog.cellsOf 3)) = xs[0]? := hf 0 _ rfl
  have f1 : DataW.trod enc Tryd.prog w base spare held n 3 ((cs.toList.drop 1).take (Tryd.prog.cellsOf 3)) = xs[1]? := hf 1 _ rfl
  rw [cells3] at f0 f1
  obtain ⟨i0, e0⟩ := one_int f0 (hsome 0 (by decide))
  obtain ⟨i1, e1⟩ := one_int f1 (hsome 1 (by decide))
  obtain ⟨c0, c1, hcs⟩ : ∃ c0 c1, cs.toList = [c0, c1] := by
    match cs.toList, hl with
    | [c0, c1], _ => exact ⟨c0, c1, rfl⟩
  rw [hcs] at e0 e1
  simp at e0 e1
  have : cs = #[c0, c1] := by rw [← Array.toArray_toList (xs := cs), hcs]
  exact ⟨i0, i1, by rw [this, e0, e1]⟩
end
end Go.Proofs.YtggdjongbmdefaaDoor
