/-
  Lists of numbers that came in, opened.
-/
import Derived.Test.YtlkddeaceagonaaRows
import Derived.Test.YtlkddeaceagonaaIqM
import Derived.WalkKit
import Derived.ChangeOld
import Derived.Below
import Derived.ProofKit
import Derived.LaidMore
import Derived.LaidSub
import Derived.OpenShut
import Derived.Stop.Joined
import Derived.Deep.Slices
namespace Go.Proofs.Ytlkddeaceagonaa
open Go.ChangeShapes Go.WideShapes Go.ChangeAt Go.RowKit

theorem own : ownKnob Try.prog.godebug = none := by kernel_rfl
theorem laidOut : laidOutB Try.prog = true := by kernel_rfl
theorem cells3 : Try.prog.cellsOf 3 = 1 := by kernel_rfl

section
variable {H : Type} {enc : TypeId × Value → H} {w : World} {base : Nat} {spare : Nat → Bool} {held : Bool}
theorem trodAll_lt {W : World} : ∀ {ts : List TypeId} {vs : List Value} {ds : List (DataW H)} {p : List MemPlace}, DataW.TrodAll enc Try.prog W 0 (fun _ => true) true ts vs ds p → ∀ x ∈ p, x.block < W.heap.size
  | [], vs, ds, p, h => by obtain ⟨_, _, rfl⟩ := trodAll_nil h; simp
  | t :: ts, vs, ds, p, h => by
    obtain ⟨v, vs', d, ds', p1, p2, rfl, rfl, rfl, ⟨m, h1⟩, h2⟩ := trodAll_cons h
    intro x hx
    rcases List.mem_append.1 hx with hx | hx
    · exact DataW.trod_lt m _ _ _ h1 x hx
    · exact trodAll_lt h2 x hx

/-- What came in reads behind the call as before, where nothing of it was written. -/
theorem trodAll_belowP {P : Program} (hl : laidOutB P = true) {W W' : World} (hb : Below W.heap.size W W') : ∀ {ts : List TypeId} {vs : List Value} {ds : List (DataW H)} {p : List MemPlace}, (∀ t ∈ ts, P.readableRec t = true ∧ t < P.types.size) → DataW.TrodAll enc P W 0 (fun _ => true) true ts vs ds p →
    DataW.TrodAll enc P W' 0 (fun b => decide (b < W.heap.size)) true ts vs ds p
  | [], vs, ds, p, _, h => by obtain ⟨rfl, rfl, rfl⟩ := trodAll_nil h; exact trodAll_mk0
  | t :: ts, vs, ds, p, hr, h => by
    obtain ⟨v, vs', d, ds', p1, p2, rfl, rfl, rfl, h1, h2⟩ := trodAll_cons h
    refine trodAll_cons_mk (Below.trod hl (hr t (List.mem_cons_self ..)).1 (hr t (List.mem_cons_self ..)).2 h1 hb ?_) (trodAll_belowP hl hb (fun u hu => hr u (List.mem_cons_of_mem _ hu)) h2)
    obtain ⟨m, h1⟩ := h1
    exact DataW.trod_lt m _ _ _ h1
end
/-- A list made of what there is at each number. -/
theorem list_of {α : Type} {p : Nat → α → Prop} (n : Nat) (h : ∀ i, i < n → ∃ x, p i x) : ∃ l : List α, l.length = n ∧ ∀ i, (hi : i < l.length) → p i l[i] := by
  induction n with
  | zero => exact ⟨[], rfl, fun i hi => absurd hi (Nat.not_lt_zero _)⟩
  | succ n ih =>
    obtain ⟨l, hl, hp⟩ := ih fun i hi => h i (by omega)
    obtain ⟨x, hx⟩ := h n (by omega)
    refine ⟨l ++ [x], by simp [hl], fun i hi => ?_⟩
    by_cases e : i < l.length
    · rw [List.getElem_append_left e]; exact hp i e
    · have : i = n := by simp at hi; omega
      subst this
      rw [List.getElem_append_right (by omega)]
      simp [hl]; exact hx

section
variable {H : Type} {enc : TypeId × Value → H} {w : World} {base : Nat} {spare : Nat → Bool} {held : Bool}
theorem one_int {fuel n : Nat} {cs : List Value} {x : Option (DataW H × List MemPlace)} (h : DataW.trod enc Try.prog w base spare held fuel 3 ((cs.drop n).take 1) = x) (hx : x.isSome = true) : ∃ i, cs[n]? = some (.int .i64 i) := by
  obtain ⟨y, rfl⟩ := Option.isSome_iff_exists.1 hx
  obtain ⟨i, e, _⟩ := DataW.trod_int Try.underlying3 h
  refine ⟨i, ?_⟩
  have h0 : ((cs.drop n).take 1)[0]? = some (.int .i64 i) := by rw [e]; rfl
  simpa using h0

theorem list3 {α : Type} {cs : List α} (h : cs.length = 3) : ∃ c0 c1 c2, cs = [c0, c1, c2] := by
  match cs, h with
  | [c0, c1, c2], _ => exact ⟨c0, c1, c2, rfl⟩
theorem ints_of_Trod {a : Option Addr} {len cap : Nat} {d : DataW H} {ps : List MemPlace} (h : DataW.Trod enc Try.prog w base spare held 32 (.slice a len cap) d ps) :
    ∃ l : List Int, l.length = len ∧ IntsQ w a l := by
  obtain ⟨fuel, hf⟩ := h
  have h : DataW.trod enc Try.prog w base spare held fuel 32 [.slice a len cap] = some (d, ps) := by simpa [Value.cells] using hf
  rcases DataW.trod_slice Try.underlying32 h with ⟨hcs, _⟩ | ⟨a', len', cap', elems, rest, n, _, hcs, _, hb, hl, hm, hlen, hel, _, _⟩
  · simp at hcs
    obtain ⟨rfl, rfl, rfl⟩ := hcs
    exact ⟨[], rfl, .inl rfl⟩
  · simp at hcs
    obtain ⟨rfl, rfl, rfl⟩ := hcs
    rw [cells3] at hel
    have hc : ∀ i, i < len → ∃ x : Int, w.cell? (a'.add i) = some (.int .i64 x) := fun i hi => by
      have he := hel i hi
      rw [List.getElem?_eq_getElem (by omega)] at he
      obtain ⟨cs, h1, h2⟩ := Option.bind_eq_some_iff.1 he
      obtain ⟨x, rfl, _⟩ := DataW.trod_int Try.underlying3 h2
      obtain ⟨_, _, h3⟩ := World.cells?_some h1
      have := h3 0 (by decide)
      refine ⟨x, ?_⟩
      rw [Nat.mul_one] at this
      simpa [Addr.add] using this
    obtain ⟨st, hst, hp⟩ := list_of len hc
    refine ⟨st, hst, ?_⟩
    by_cases h0 : st = []
    · exact .inl h0
    · have hpos : 0 < st.length := List.length_pos_iff.2 h0
      obtain ⟨b, off, spot⟩ := a'
      have hspot : spot = none := by
        have := hp 0 hpos
        simpa [Addr.add] using World.cell?_spot this
      subst hspot
      have hall : ∀ j (hj : j < st.length), w.cell? ⟨b, off + j, none⟩ = some (.int .i64 st[j]) := fun j hj => by
        have := hp j hj
        rwa [Addr.add_lit] at this
      exact .inr ⟨b, off, rfl, World.block_lt_of_cell? w _ (hall 0 hpos), hall⟩
end
end Go.Proofs.Ytlkddeaceagonaa
