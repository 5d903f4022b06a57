/-
  What the listed table holds; a number that came in, opened.
  A list of numbers that came in, opened.
-/
import Derived.Test.YtfojmbbhcmeejaaDoorRows
import Derived.Test.YtfojmbbhcmeejaaDoorWalkK
import Derived.ProofKit
import Derived.LaidMore
import Derived.LaidSub
import Derived.OpenShut
import Derived.Stop.Joined
import Derived.Deep.Slices
namespace Go.Proofs.YtfojmbbhcmeejaaDoor
open Go.ChangeShapes Go.WideShapes Go.ChangeAt Go.RowKit

theorem own : ownKnob Tryd.prog.godebug = none := by kernel_rfl
theorem laidOut : laidOutB Tryd.prog = true := by kernel_rfl
theorem cells3 : Tryd.prog.cellsOf 3 = 1 := by kernel_rfl
theorem cells4 : Tryd.prog.cellsOf 4 = 1 := by kernel_rfl
theorem cells88 : Tryd.prog.cellsOf 129 = 13 := by kernel_rfl

theorem gKnown : Tryd.prog.globalNamed "testimony/model.known" = some 0 := by kernel_rfl
theorem tKnown : (Tryd.prog.globals[0]?).map (·.type) = some 130 := by kernel_rfl

theorem laid_known : (Rows.laid_testimony_model_known : DataW Unit) = .agg ((List.range 7).map fun (o : Nat) => .agg ((List.range 13).map fun (k : Nat) => .lit (.bool (knowsB o k)))) := by kernel_rfl

theorem known_of {W : World} (h : laidMetH Tryd.prog [("testimony/model.known", Rows.laid_testimony_model_known)] W) : KnownAt W := by
  have h' : laidMet Tryd.prog [("testimony/model.known", Rows.laid_testimony_model_known)] W := h
  obtain ⟨ps, ⟨g, t, cs, fuel, p, q, hg, ht, hv, htr, _, _⟩, _⟩ := h'
  obtain rfl := Option.some.inj (gKnown.symm.trans hg)
  obtain rfl := Option.some.inj (tKnown.symm.trans ht)
  rw [laid_known] at htr
  obtain ⟨xs, m, _, hx, _, hlen, hrow⟩ := DataW.trod_array Tryd.underlying130 htr
  have hx1 : (xs.map (·.1)) = ((List.range 7).map fun (o : Nat) => DataW.agg ((List.range 13).map fun (k : Nat) => .lit (.bool (knowsB o k)))) := by
    have := congrArg Prod.fst hx
    simpa using this.symm
  intro o k ho hk
  have hr := hrow o ho
  have hxo : (xs.map (·.1))[o]? = some (DataW.agg ((List.range 13).map fun (k : Nat) => .lit (.bool (knowsB o k)))) := by
    rw [hx1, List.getElem?_map, List.getElem?_range ho]; rfl
  rw [List.getElem?_map] at hxo
  obtain ⟨y, hy, hy1⟩ := Option.map_eq_some_iff.1 hxo
  rw [hy, cells88] at hr
  obtain ⟨zs, m', _, hz, _, hzlen, hz2⟩ := DataW.trod_array Tryd.underlying129 hr
  have hz1 : (zs.map (·.1)) = (List.range 13).map fun (k : Nat) => DataW.lit (.bool (knowsB o k)) := by
    have := congrArg Prod.fst hz
    rw [hy1] at this
    simpa using this.symm
  have hq := hz2 k hk
  have hzk : (zs.map (·.1))[k]? = some (DataW.lit (.bool (knowsB o k))) := by
    rw [hz1, List.getElem?_map, List.getElem?_range hk]; rfl
  rw [List.getElem?_map] at hzk
  obtain ⟨z, hz3, hz4⟩ := Option.map_eq_some_iff.1 hzk
  rw [hz3, cells4] at hq
  obtain ⟨b, hb, hzb⟩ := DataW.trod_bool Tryd.underlying4 hq
  have hbk : b = knowsB o k := by
    rw [hzb] at hz4
    simpa using hz4
  have hc := World.var?_cell gKnown hv (o * 13 + k)
  rw [hc]
  have h0 : (((((cs.toList.drop (o * 13)).take 13)).drop (k * 1)).take 1)[0]? = some (.bool b) := by rw [hb]; rfl
  rw [List.getElem?_take_of_lt (by decide), List.getElem?_drop, List.getElem?_take_of_lt (by omega), List.getElem?_drop] at h0
  rw [← hbk]
  simpa using h0

theorem known_pos {W : World} (h : KnownAt W) : 0 < W.heap.size := World.block_lt_of_cell? W ⟨0, 0 * 13 + 0, none⟩ (h 0 0 (by decide) (by decide))

section
variable {H : Type} {enc : TypeId × Value → H} {w : World} {base : Nat} {spare : Nat → Bool} {held : Bool}
theorem wf_of_Trod {n : Int} {d : DataW H} {ps : List MemPlace} (h : DataW.Trod enc Tryd.prog w base spare held 3 (.int .i64 n) d ps) : (Lit.int .i64 n).wf = true := by
  obtain ⟨fuel, hf⟩ := h
  obtain ⟨m, e1, e2, e3⟩ := DataW.trod_int Tryd.underlying3 hf
  simp [Value.cells] at e1
  subst e1
  exact e3

theorem trodAll_lt {W : World} : ∀ {ts : List TypeId} {vs : List Value} {ds : List (DataW H)} {p : List MemPlace}, DataW.TrodAll enc Tryd.prog W 0 (fun _ => true) true ts vs ds p → ∀ x ∈ p, x.block < W.heap.size
  | [], vs, ds, p, h => by obtain ⟨_, _, rfl⟩ := trodAll_nil h; simp
  | t :: ts, vs, ds, p, h => by
    obtain ⟨v, vs', d, ds', p1, p2, rfl, rfl, rfl, ⟨m, h1⟩, h2⟩ := trodAll_cons h
    intro x hx
    rcases List.mem_append.1 hx with hx | hx
    · exact DataW.trod_lt m _ _ _ h1 x hx
    · exact trodAll_lt h2 x hx

/-- What came in reads behind the call as before, where nothing of it was written. -/
theorem trodAll_belowP {P : Program} (hl : laidOutB P = true) {W W' : World} (hb : Below W.heap.size W W') : ∀ {ts : List TypeId} {vs : List Value} {ds : List (DataW H)} {p : List MemPlace}, (∀ t ∈ ts, P.readableRec t = true ∧ t < P.types.size) → DataW.TrodAll enc P W 0 (fun _ => true) true ts vs ds p →
    DataW.TrodAll enc P W' 0 (fun b => decide (b < W.heap.size)) true ts vs ds p
  | [], vs, ds, p, _, h => by obtain ⟨rfl, rfl, rfl⟩ := trodAll_nil h; exact trodAll_mk0
  | t :: ts, vs, ds, p, hr, h => by
    obtain ⟨v, vs', d, ds', p1, p2, rfl, rfl, rfl, h1, h2⟩ := trodAll_cons h
    refine trodAll_cons_mk (Below.trod hl (hr t (List.mem_cons_self ..)).1 (hr t (List.mem_cons_self ..)).2 h1 hb ?_) (trodAll_belowP hl hb (fun u hu => hr u (List.mem_cons_of_mem _ hu)) h2)
    obtain ⟨m, h1⟩ := h1
    exact DataW.trod_lt m _ _ _ h1
end
end Go.Proofs.YtfojmbbhcmeejaaDoor

namespace Go.Proofs.YtfojmbbhcmeejaaDoor
open Go.ChangeShapes Go.WideShapes Go.ChangeAt Go.RowKit

/-- A list made of what there is at each number. -/
theorem list_of {α : Type} {p : Nat → α → Prop} (n : Nat) (h : ∀ i, i < n → ∃ x, p i x) : ∃ l : List α, l.length = n ∧ ∀ i, (hi : i < l.length) → p i l[i] := by
  induction n with
  | zero => exact ⟨[], rfl, fun i hi => absurd hi (Nat.not_lt_zero _)⟩
  | succ n ih =>
    obtain ⟨l, hl, hp⟩ := ih fun i hi => h i (by omega)
    obtain ⟨x, hx⟩ := h n (by omega)
    refine ⟨l ++ [x], by simp [hl], fun i hi => ?_⟩
    by_cases e : i < l.length
    · rw [List.getElem_append_left e]; exact hp i e
    · have : i = n := by simp at hi; omega
      subst this
      rw [List.getElem_append_right (by omega)]
      simp [hl]; exact hx

section
variable {H : Type} {enc : TypeId × Value → H} {w : World} {base : Nat} {spare : Nat → Bool} {held : Bool}
theorem ints_of_Trod {a : Option Addr} {len cap : Nat} {d : DataW H} {ps : List MemPlace} (h : DataW.Trod enc Tryd.prog w base spare held 41 (.slice a len cap) d ps) :
    ∃ st : List Int, HasInts w (.slice a len cap) st ∧ st.length = len := by
  obtain ⟨fuel, hf⟩ := h
  have h : DataW.trod enc Tryd.prog w base spare held fuel 41 [.slice a len cap] = some (d, ps) := by simpa [Value.cells] using hf
  rcases DataW.trod_slice Tryd.underlying41 h with ⟨hcs, _⟩ | ⟨a', len', cap', elems, rest, n, _, hcs, _, hb, hl, hm, hlen, hel, _, _⟩
  · simp at hcs
    obtain ⟨rfl, rfl, rfl⟩ := hcs
    exact ⟨[], ⟨none, 0, rfl, by decide, by decide, fun _ => rfl, .inl rfl⟩, rfl⟩
  · simp at hcs
    obtain ⟨rfl, rfl, rfl⟩ := hcs
    rw [cells3] at hel
    have hc : ∀ i, i < len → ∃ x : Int, w.cell? (a'.add i) = some (.int .i64 x) := fun i hi => by
      have he := hel i hi
      rw [List.getElem?_eq_getElem (by omega)] at he
      obtain ⟨cs, h1, h2⟩ := Option.bind_eq_some_iff.1 he
      obtain ⟨x, rfl, _⟩ := DataW.trod_int Tryd.underlying3 h2
      obtain ⟨_, _, h3⟩ := World.cells?_some h1
      have := h3 0 (by decide)
      refine ⟨x, ?_⟩
      rw [Nat.mul_one] at this
      simpa [Addr.add] using this
    obtain ⟨st, hst, hp⟩ := list_of len hc
    refine ⟨st, ⟨some a', cap, by rw [hst], by omega, hm, fun e => (by cases e), ?_⟩, hst⟩
    by_cases h0 : st = []
    · exact .inl h0
    · have hpos : 0 < st.length := List.length_pos_iff.2 h0
      obtain ⟨b, off, spot⟩ := a'
      have hspot : spot = none := by
        have := hp 0 hpos
        simpa [Addr.add] using World.cell?_spot this
      subst hspot
      refine .inr ⟨b, off, rfl, fun j hj => ?_⟩
      have := hp j hj
      rwa [Addr.add_lit] at this
end
end Go.Proofs.YtfojmbbhcmeejaaDoor
