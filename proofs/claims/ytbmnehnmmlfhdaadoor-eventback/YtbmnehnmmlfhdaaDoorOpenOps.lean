/-
  Ops that came in, opened: each its eight numbers.
-/
import Derived.Test.YtbmnehnmmlfhdaaDoorOpenEv
import Derived.Test.YtbmnehnmmlfhdaaDoorWalkCZ
import Derived.Deep.Slices
namespace Go.Proofs.YtbmnehnmmlfhdaaDoor
open Go.ChangeShapes Go.WideShapes Go.ChangeAt Go.RowKit

theorem add_eq (b off n : Nat) : (⟨b, off, none⟩ : Addr).add n = ⟨b, off + n, none⟩ := by
  unfold Addr.add; split <;> simp_all
theorem cells47 : Tryd.prog.cellsOf 51 = 8 := by kernel_rfl

section
variable {H : Type} {enc : TypeId × Value → H} {w : World} {base : Nat} {spare : Nat → Bool} {held : Bool}

theorem list8 {α : Type} {cs : List α} (h : cs.length = 8) : ∃ c0 c1 c2 c3 c4 c5 c6 c7, cs = [c0, c1, c2, c3, c4, c5, c6, c7] := by
  match cs, h with
  | [c0, c1, c2, c3, c4, c5, c6, c7], _ => exact ⟨c0, c1, c2, c3, c4, c5, c6, c7, rfl⟩

theorem op_of_trod {fuel : Nat} {cs : List Value} {x : DataW H × List MemPlace} (h : DataW.trod enc Tryd.prog w base spare held fuel 51 cs = some x) : ∃ o : Opn, cs = [.int .i64 o.p, .int .i64 o.k, .int .i64 o.d, .int .i64 o.a, .int .i64 o.b, .int .i64 o.r, .int .i64 o.c, .int .i64 o.e] := by
  obtain ⟨xs, n, _, _, hl, hlen, hf⟩ := DataW.trod_struct Tryd.underlying51 h
  rw [cells47] at hl
  have hsome : ∀ i, i < 8 → xs[i]?.isSome = true := fun i hi => by
    rw [List.getElem?_eq_getElem (by rw [hlen]; exact hi)]; rfl
  have f0 : DataW.trod enc Tryd.prog w base spare held n 3 ((cs.drop 0).take (Tryd.prog.cellsOf 3)) = xs[0]? := hf 0 _ rfl
  have f1 : DataW.trod enc Tryd.prog w base spare held n 3 ((cs.drop 1).take (Tryd.prog.cellsOf 3)) = xs[1]? := hf 1 _ rfl
  have f2 : DataW.trod enc Tryd.prog w base spare held n 3 ((cs.drop 2).take (Tryd.prog.cellsOf 3)) = xs[2]? := hf 2 _ rfl
  have f3 : DataW.trod enc Tryd.prog w base spare held n 3 ((cs.drop 3).take (Tryd.prog.cellsOf 3)) = xs[3]? := hf 3 _ rfl
  have f4 : DataW.trod enc Tryd.prog w base spare held n 3 ((cs.drop 4).take (Tryd.prog.cellsOf 3)) = xs[4]? := hf 4 _ rfl
  have f5 : DataW.trod enc Tryd.prog w base spare held n 3 ((cs.drop 5).take (Tryd.prog.cellsOf 3)) = xs[5]? := hf 5 _ rfl
  have f6 : DataW.trod enc Tryd.prog w base spare held n 3 ((cs.drop 6).take (Tryd.prog.cellsOf 3)) = xs[6]? := hf 6 _ rfl
  have f7 : DataW.trod enc Tryd.prog w base spare held n 3 ((cs.drop 7).take (Tryd.prog.cellsOf 3)) = xs[7]? := hf 7 _ rfl
  rw [cells3] at f0 f1 f2 f3 f4 f5 f6 f7
  obtain ⟨i0, e0⟩ := one_int f0 (hsome 0 (by decide))
  obtain ⟨i1, e1⟩ := one_int f1 (hsome 1 (by decide))
  obtain ⟨i2, e2⟩ := one_int f2 (hsome 2 (by decide))
  obtain ⟨i3, e3⟩ := one_int f3 (hsome 3 (by decide))
  obtain ⟨i4, e4⟩ := one_int f4 (hsome 4 (by decide))
  obtain ⟨i5, e5⟩ := one_int f5 (hsome 5 (by decide))
  obtain ⟨i6, e6⟩ := one_int f6 (hsome 6 (by decide))
  obtain ⟨i7, e7⟩ := one_int f7 (hsome 7 (by decide))
  obtain ⟨c0, c1, c2, c3, c4, c5, c6, c7, rfl⟩ := list8 hl
  simp at e0 e1 e2 e3 e4 e5 e6 e7
  exact ⟨⟨i0, i1, i2, i3, i4, i5, i6, i7⟩, by simp [e0, e1, e2, e3, e4, e5, e6, e7]⟩

/-- A list made of what there is at each number. -/
theorem list_of {α : Type} {p : Nat → α → Prop} (n : Nat) (h : ∀ i, i < n → ∃ x, p i x) : ∃ l : List α, l.length = n ∧ ∀ i, (hi : i < l.length) → p i l[i] := by
  induction n with
  | zero => exact ⟨[], rfl, fun i hi => absurd hi (Nat.not_lt_zero _)⟩
  | succ n ih =>
    obtain ⟨l, hl, hp⟩ := ih fun i hi => h i (by omega)
    obtain ⟨x, hx⟩ := h n (by omega)
    refine ⟨l ++ [x], by simp [hl], fun i hi => ?_⟩
    by_cases e : i < l.length
    · rw [List.getElem_append_left e]; exact hp i e
    · have : i = n := by simp at hi; omega
      subst this
      rw [List.getElem_append_right (by omega)]
      simp [hl]; exact hx

theorem ops_of_trod {fuel : Nat} {a : Option Addr} {len cap : Nat} {x : DataW H × List MemPlace} (h : DataW.trod enc Tryd.prog w base spare held fuel 47 [.slice a len cap] = some x) :
    len ≤ maxLen ∧ (len = 0 ∨ (0 < len ∧ len ≤ cap ∧ ∃ b off, ∃ l : List Opn, a = some ⟨b, off, none⟩ ∧ l.length = len ∧ b < w.heap.size ∧ OpsAt w b off l)) := by
  rcases DataW.trod_slice Tryd.underlying47 h with ⟨hcs, _⟩ | ⟨a', len', cap', elems, rest, n, _, hcs, _, hb, hl, hm, hlen, hel, _, _⟩
  · simp at hcs
    obtain ⟨_, rfl, _⟩ := hcs
    exact ⟨Nat.zero_le _, .inl rfl⟩
  · simp at hcs
    obtain ⟨rfl, rfl, rfl⟩ := hcs
    refine ⟨Nat.le_trans hl hm, ?_⟩
    by_cases h0 : len = 0
    · exact .inl h0
    · refine .inr ⟨by omega, hl, ?_⟩
      rw [cells47] at hel
      have hc : ∀ i, i < len → ∃ o : Opn, ∀ j, j < 8 → w.cell? ((a'.add (i * 8)).add j) = [Value.int .i64 o.p, .int .i64 o.k, .int .i64 o.d, .int .i64 o.a, .int .i64 o.b, .int .i64 o.r, .int .i64 o.c, .int .i64 o.e][j]? := fun i hi => by
        have he := hel i hi
        rw [List.getElem?_eq_getElem (by omega)] at he
        obtain ⟨cs, h1, h2⟩ := Option.bind_eq_some_iff.1 he
        obtain ⟨o, rfl⟩ := op_of_trod h2
        obtain ⟨_, _, h3⟩ := World.cells?_some h1
        exact ⟨o, fun j hj => h3 j hj⟩
      obtain ⟨b, off, spot⟩ := a'
      have hspot : spot = none := by
        obtain ⟨o, ho⟩ := hc 0 (by omega)
        have := ho 0 (by decide)
        simpa [Addr.add] using World.cell?_spot this
      subst hspot
      obtain ⟨l, hll, hlp⟩ := list_of len hc
      refine ⟨b, off, l, rfl, hll, ?_, fun i hi => ?_⟩
      · have := hlp 0 (by omega) 0 (by decide)
        exact World.block_lt_of_cell? w _ this
      · have g : ∀ j, j < 8 → w.cell? ⟨b, off + i * 8 + j, none⟩ = [Value.int .i64 l[i].p, .int .i64 l[i].k, .int .i64 l[i].d, .int .i64 l[i].a, .int .i64 l[i].b, .int .i64 l[i].r, .int .i64 l[i].c, .int .i64 l[i].e][j]? := fun j hj => by
          have := hlp i hi j hj
          rwa [add_eq, add_eq] at this
        exact ⟨g 0 (by decide), g 1 (by decide), g 2 (by decide), g 3 (by decide), g 4 (by decide), g 5 (by decide), g 6 (by decide), g 7 (by decide)⟩

theorem ops_of_Trod {a : Option Addr} {len cap : Nat} {d : DataW H} {ps : List MemPlace} (h : DataW.Trod enc Tryd.prog w base spare held 47 (.slice a len cap) d ps) :
    len ≤ maxLen ∧ (len = 0 ∨ (0 < len ∧ len ≤ cap ∧ ∃ b off, ∃ l : List Opn, a = some ⟨b, off, none⟩ ∧ l.length = len ∧ b < w.heap.size ∧ OpsAt w b off l)) := by
  obtain ⟨fuel, hf⟩ := h
  exact ops_of_trod (x := (d, ps)) (by simpa [Value.cells] using hf)
end
end Go.Proofs.YtbmnehnmmlfhdaaDoor
