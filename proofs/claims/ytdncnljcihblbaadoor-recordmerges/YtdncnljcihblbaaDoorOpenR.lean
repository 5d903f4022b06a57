/-
  What came in, opened.
-/
import Derived.Test.YtdncnljcihblbaaDoorRows
import Derived.Test.YtdncnljcihblbaaDoorEvM
import Derived.ProofKit
import Derived.WalkKit
import Derived.ChangeOld
import Derived.Below
import Derived.LaidMore
import Derived.LaidSub
import Derived.OpenShut
import Derived.Stop.Joined
import Derived.Deep.Slices
import Derived.SizedLaws
import Derived.Lib.SmallJoins
namespace Go.Proofs.YtdncnljcihblbaaDoor
open Go.ChangeShapes Go.WideShapes Go.ChangeAt Go.RowKit

/-- A list made of what there is at each number. -/
theorem list_of {α : Type} {p : Nat → α → Prop} (n : Nat) (h : ∀ i, i < n → ∃ x, p i x) : ∃ l : List α, l.length = n ∧ ∀ i, (hi : i < l.length) → p i l[i] := by
  induction n with
  | zero => exact ⟨[], rfl, fun i hi => absurd hi (Nat.not_lt_zero _)⟩
  | succ n ih =>
    obtain ⟨l, hl, hp⟩ := ih fun i hi => h i (by omega)
    obtain ⟨x, hx⟩ := h n (by omega)
    refine ⟨l ++ [x], by simp [hl], fun i hi => ?_⟩
    by_cases e : i < l.length
    · rw [List.getElem_append_left e]; exact hp i e
    · have : i = n := by simp at hi; omega
      subst this
      rw [List.getElem_append_right (by omega)]
      simp [hl]; exact hx

theorem own : ownKnob Tryd.prog.godebug = none := by kernel_rfl
theorem laidOut : laidOutB Tryd.prog = true := by kernel_rfl

section
variable {H : Type} {enc : TypeId × Value → H} {w : World} {base : Nat} {spare : Nat → Bool} {held : Bool}
theorem trodAll_lt {W : World} : ∀ {ts : List TypeId} {vs : List Value} {ds : List (DataW H)} {p : List MemPlace}, DataW.TrodAll enc Tryd.prog W 0 (fun _ => true) true ts vs ds p → ∀ x ∈ p, x.block < W.heap.size
  | [], vs, ds, p, h => by obtain ⟨_, _, rfl⟩ := trodAll_nil h; simp
  | t :: ts, vs, ds, p, h => by
    obtain ⟨v, vs', d, ds', p1, p2, rfl, rfl, rfl, ⟨m, h1⟩, h2⟩ := trodAll_cons h
    intro x hx
    rcases List.mem_append.1 hx with hx | hx
    · exact DataW.trod_lt m _ _ _ h1 x hx
    · exact trodAll_lt h2 x hx

/-- What came in reads behind the call as before, where nothing of it was written. -/
theorem trodAll_belowP {P : Program} (hl : laidOutB P = true) {W W' : World} (hb : Below W.heap.size W W') : ∀ {ts : List TypeId} {vs : List Value} {ds : List (DataW H)} {p : List MemPlace}, (∀ t ∈ ts, P.readableRec t = true ∧ t < P.types.size) → DataW.TrodAll enc P W 0 (fun _ => true) true ts vs ds p →
    DataW.TrodAll enc P W' 0 (fun b => decide (b < W.heap.size)) true ts vs ds p
  | [], vs, ds, p, _, h => by obtain ⟨rfl, rfl, rfl⟩ := trodAll_nil h; exact trodAll_mk0
  | t :: ts, vs, ds, p, hr, h => by
    obtain ⟨v, vs', d, ds', p1, p2, rfl, rfl, rfl, h1, h2⟩ := trodAll_cons h
    refine trodAll_cons_mk (Below.trod hl (hr t (List.mem_cons_self ..)).1 (hr t (List.mem_cons_self ..)).2 h1 hb ?_) (trodAll_belowP hl hb (fun u hu => hr u (List.mem_cons_of_mem _ hu)) h2)
    obtain ⟨m, h1⟩ := h1
    exact DataW.trod_lt m _ _ _ h1

theorem wgtAll_mem {P : Program} {e : TypeId} : ∀ {l : List (DataW H)} {d : DataW H}, d ∈ l → ∀ n ∈ d.weights P e, n ∈ DataW.weightsAll P e l
  | x :: l, d, hd, n, hn => by
    simp only [DataW.weightsAll, List.mem_append]
    rcases List.mem_cons.1 hd with rfl | hd
    · exact .inl hn
    · exact .inr (wgtAll_mem hd n hn)

/-- A list that came in: each element by its own reading. -/
theorem row_of_trod {P : Program} {t e : TypeId} {c : Nat} {α : Type} {R : DataW H → List Value → α → Prop} (hu : P.underlying t = some (.slice e)) (hc : P.cellsOf e = c) (hc1 : 1 ≤ c)
    (he : ∀ fuel vs d ps, DataW.trod enc P w base spare held fuel e vs = some (d, ps) → ∃ y, R d vs y) {fuel : Nat} {cs : List Value} {d : DataW H} {ps : List MemPlace} (h : DataW.trod enc P w base spare held fuel t cs = some (d, ps)) :
    ∃ (l : List α) (a : Option Addr) (cap : Nat), cs = [.slice a l.length cap] ∧ l.length ≤ cap ∧ l.length ≤ maxLen ∧ ((∀ n ∈ d.weights P t, n ≤ reachBytes) → l.length * P.bytesOf e ≤ reachBytes) ∧
      (l = [] ∨ ∃ b off, a = some ⟨b, off, none⟩ ∧ b < w.heap.size ∧ ∀ k (hk : k < l.length), ∃ d' vs, R d' vs l[k] ∧ vs.length = c ∧ (∀ j v, vs[j]? = some v → w.cell? ⟨b, off + k * c + j, none⟩ = some v) ∧ ∀ n ∈ d'.weights P e, n ∈ d.weights P t) := by
  rcases DataW.trod_slice hu h with ⟨hcs, _⟩ | ⟨a', len, cap, elems, rest, n, _, hcs, hx, hb, hl, hm, hlen, hel, _, _⟩
  · exact ⟨[], none, 0, hcs, Nat.le_refl _, Nat.zero_le _, fun _ => by simp, .inl rfl⟩
  · injection hx with hd _
    subst hd
    rw [hc] at hel
    have hW : ∀ n, n ∈ (elems.map (·.1)).flatMap (fun d => d.weights P e) → n ∈ DataW.weights P t (.slice (elems.map (·.1)) (rest.map (·.1))) := fun n hn => by
      obtain ⟨d, hd, hn⟩ := List.mem_flatMap.1 hn
      simp only [DataW.weights, hu, List.mem_cons, List.mem_append]
      exact .inr (.inl (wgtAll_mem hd n hn))
    have hq : ∀ i, i < len → ∃ y : α, ∃ d' vs, R d' vs y ∧ vs.length = c ∧ (∀ j v, vs[j]? = some v → w.cell? ((a'.add (i * c)).add j) = some v) ∧ ∀ n ∈ d'.weights P e, n ∈ DataW.weights P t (.slice (elems.map (·.1)) (rest.map (·.1))) := fun i hi => by
      have h0 := hel i hi
      rw [List.getElem?_eq_getElem (by omega)] at h0
      obtain ⟨vs, h1, h2⟩ := Option.bind_eq_some_iff.1 h0
      obtain ⟨_, hcl, h3⟩ := World.cells?_some h1
      obtain ⟨y, hy⟩ := he n vs _ _ (by rw [h2])
      refine ⟨y, _, vs, hy, hcl, fun j v hv => ?_, fun n hn => hW n (List.mem_flatMap.2 ⟨_, List.mem_map.2 ⟨_, List.getElem_mem _, rfl⟩, hn⟩)⟩
      have hj : j < vs.length := (List.getElem?_eq_some_iff.1 hv).1
      rw [h3 j (by omega), hv]
    obtain ⟨l, hV, hp⟩ := list_of len hq
    refine ⟨l, some a', cap, by rw [hV]; exact hcs, by omega, by omega, fun hw => ?_, ?_⟩
    · have := hw ((elems.length + rest.length) * P.bytesOf e) (by simp [DataW.weights, hu])
      refine Nat.le_trans (Nat.mul_le_mul_right _ ?_) this
      omega
    · by_cases h0 : l = []
      · exact .inl h0
      · have hpos : 0 < l.length := List.length_pos_iff.2 h0
        obtain ⟨b, off, spot⟩ := a'
        obtain ⟨_, vs, _, hvl, hs0, _⟩ := hp 0 hpos
        have hs0 := hs0 0 vs[0] (List.getElem?_eq_getElem (by omega))
        have hspot : spot = none := by
          have := World.cell?_spot hs0
          cases spot with
          | none => rfl
          | some s => simp [Addr.add] at this
        subst hspot
        refine .inr ⟨b, off, rfl, ?_, fun j hj => ?_⟩
        · have := World.block_lt_of_cell? w _ hs0
          simpa [Addr.add] using this
        · obtain ⟨d', vs, h1, h2, h3, h4⟩ := hp j hj
          refine ⟨d', vs, h1, h2, fun i v hv => ?_, h4⟩
          have := h3 i v hv
          rwa [Addr.add_lit, Addr.add_lit] at this

theorem one_int {fuel n : Nat} {cs : List Value} {x : Option (DataW H × List MemPlace)} (h : DataW.trod enc Tryd.prog w base spare held fuel 3 ((cs.drop n).take 1) = x) (hx : x.isSome = true) : ∃ i, cs[n]? = some (.int .i64 i) := by
  obtain ⟨y, rfl⟩ := Option.isSome_iff_exists.1 hx
  obtain ⟨i, e, _⟩ := DataW.trod_int Tryd.underlying3 h
  refine ⟨i, ?_⟩
  have h0 : ((cs.drop n).take 1)[0]? = some (.int .i64 i) := by rw [e]; rfl
  simpa using h0
theorem one_bool {fuel n : Nat} {cs : List Value} {x : Option (DataW H × List MemPlace)} (h : DataW.trod enc Tryd.prog w base spare held fuel 4 ((cs.drop n).take 1) = x) (hx : x.isSome = true) : ∃ i, cs[n]? = some (.bool i) := by
  obtain ⟨y, rfl⟩ := Option.isSome_iff_exists.1 hx
  obtain ⟨i, e, _⟩ := DataW.trod_bool Tryd.underlying4 h
  refine ⟨i, ?_⟩
  have h0 : ((cs.drop n).take 1)[0]? = some (.bool i) := by rw [e]; rfl
  simpa using h0
theorem cellsI : Tryd.prog.cellsOf 3 = 1 := by kernel_rfl
theorem cellsB : Tryd.prog.cellsOf 4 = 1 := by kernel_rfl
theorem cellsY : Tryd.prog.cellsOf 5 = 1 := by kernel_rfl
theorem cellsE : Tryd.prog.cellsOf 23 = 7 := by kernel_rfl
theorem list7 {l : List Value} (h : l.length = 7) : ∃ c0 c1 c2 c3 c4 c5 c6, l = [c0, c1, c2, c3, c4, c5, c6] := by
  match l, h with
  | [c0, c1, c2, c3, c4, c5, c6], _ => exact ⟨c0, c1, c2, c3, c4, c5, c6, rfl⟩
theorem ev_of_trod {fuel : Nat} {cs : List Value} {x : DataW H × List MemPlace} (h : DataW.trod enc Tryd.prog w base spare held fuel 23 cs = some x) : ∃ e : Ev, cs = e.cells := by
  obtain ⟨xs, n, _, _, hl, hlen, hf⟩ := DataW.trod_struct Tryd.underlying23 h
  rw [cellsE] at hl
  have hsome : ∀ i, i < 7 → xs[i]?.isSome = true := fun i hi => by
    rw [List.getElem?_eq_getElem (by rw [hlen]; exact hi)]; rfl
  have f0 : DataW.trod enc Tryd.prog w base spare held n 3 ((cs.drop 0).take (Tryd.prog.cellsOf 3)) = xs[0]? := hf 0 _ rfl
  have f1 : DataW.trod enc Tryd.prog w base spare held n 3 ((cs.drop 1).take (Tryd.prog.cellsOf 3)) = xs[1]? := hf 1 _ rfl
  have f2 : DataW.trod enc Tryd.prog w base spare held n 3 ((cs.drop 2).take (Tryd.prog.cellsOf 3)) = xs[2]? := hf 2 _ rfl
  have f3 : DataW.trod enc Tryd.prog w base spare held n 3 ((cs.drop 3).take (Tryd.prog.cellsOf 3)) = xs[3]? := hf 3 _ rfl
  have f4 : DataW.trod enc Tryd.prog w base spare held n 3 ((cs.drop 4).take (Tryd.prog.cellsOf 3)) = xs[4]? := hf 4 _ rfl
  have f5 : DataW.trod enc Tryd.prog w base spare held n 3 ((cs.drop 5).take (Tryd.prog.cellsOf 3)) = xs[5]? := hf 5 _ rfl
  have f6 : DataW.trod enc Tryd.prog w base spare held n 3 ((cs.drop 6).take (Tryd.prog.cellsOf 3)) = xs[6]? := hf 6 _ rfl
  rw [cellsI] at f0 f1 f2 f3 f4 f5 f6
  obtain ⟨i0, e0⟩ := one_int f0 (hsome 0 (by decide))
  obtain ⟨i1, e1⟩ := one_int f1 (hsome 1 (by decide))
  obtain ⟨i2, e2⟩ := one_int f2 (hsome 2 (by decide))
  obtain ⟨i3, e3⟩ := one_int f3 (hsome 3 (by decide))
  obtain ⟨i4, e4⟩ := one_int f4 (hsome 4 (by decide))
  obtain ⟨i5, e5⟩ := one_int f5 (hsome 5 (by decide))
  obtain ⟨i6, e6⟩ := one_int f6 (hsome 6 (by decide))
  obtain ⟨c0, c1, c2, c3, c4, c5, c6, rfl⟩ := list7 hl
  simp at e0 e1 e2 e3 e4 e5 e6
  exact ⟨⟨i0, i1, i2, i3, i4, i5, i6⟩, by simp [Ev.cells, e0, e1, e2, e3, e4, e5, e6]⟩
theorem byte_wf {n : Int} (h : (Lit.int .u8 n).wf = true) : ∃ m : Nat, n = (m : Int) ∧ m < 256 := by
  have h2 : 0 ≤ n ∧ n ≤ 255 := by simpa [Lit.wf, IntKind.min, IntKind.max, IntKind.signed, IntKind.bits] using h
  obtain ⟨m, rfl⟩ := Int.eq_ofNat_of_zero_le h2.1
  exact ⟨m, rfl, by omega⟩
theorem ev_of_Trod {cs : Array Value} {d : DataW H} {ps : List MemPlace} (h : DataW.Trod enc Tryd.prog w base spare held 23 (.agg cs) d ps) : ∃ e : Ev, cs = #[.int .i64 e.p, .int .i64 e.t, .int .i64 e.k, .int .i64 e.d, .int .i64 e.a, .int .i64 e.b, .int .i64 e.r] := by
  obtain ⟨fuel, hf⟩ := h
  obtain ⟨ev, he⟩ := ev_of_trod (cs := cs.toList) (by simpa [Value.cells] using hf)
  exact ⟨ev, by cases cs; simp [Ev.cells] at he; simp [he]⟩
theorem evs_of_Trod {a : Option Addr} {len cap : Nat} {d : DataW H} {ps : List MemPlace} (h : DataW.Trod enc Tryd.prog w base spare held 27 (.slice a len cap) d ps) : ∃ l : List Ev, EvQ w (.slice a len cap) l := by
  obtain ⟨fuel, hf⟩ := h
  obtain ⟨l, a', cap', hcs, h1, h2, _, h3⟩ := row_of_trod (R := fun _ vs (e : Ev) => vs = e.cells) Tryd.underlying27 cellsE (by decide) (fun fuel vs d ps h => ev_of_trod h) hf
  simp [Value.cells] at hcs
  obtain ⟨rfl, rfl, rfl⟩ := hcs
  refine ⟨l, a, cap, rfl, h1, ?_⟩
  rcases h3 with h3 | ⟨b, off, rfl, hb, hk⟩
  · exact Or.inl h3
  · refine Or.inr ⟨b, off, rfl, hb, fun i hi => ?_⟩
    obtain ⟨_, vs, rfl, _, hv, _⟩ := hk i hi
    exact ⟨hv 0 _ rfl, hv 1 _ rfl, hv 2 _ rfl, hv 3 _ rfl, hv 4 _ rfl, hv 5 _ rfl, hv 6 _ rfl⟩
theorem bools_of_Trod {a : Option Addr} {len cap : Nat} {d : DataW H} {ps : List MemPlace} (h : DataW.Trod enc Tryd.prog w base spare held 44 (.slice a len cap) d ps) : ∃ l : List Bool, BoQ w (.slice a len cap) l := by
  obtain ⟨fuel, hf⟩ := h
  obtain ⟨l, a', cap', hcs, h1, h2, _, h3⟩ := row_of_trod (R := fun _ vs (x : Bool) => vs = [.bool x]) Tryd.underlying44 cellsB (by decide) (fun fuel vs d ps h => by obtain ⟨i, e, _⟩ := DataW.trod_bool Tryd.underlying4 h; exact ⟨i, e⟩) hf
  simp [Value.cells] at hcs
  obtain ⟨rfl, rfl, rfl⟩ := hcs
  refine ⟨l, a, cap, rfl, h1, ?_⟩
  rcases h3 with h3 | ⟨b, off, rfl, hb, hk⟩
  · exact Or.inl h3
  · refine Or.inr ⟨b, off, rfl, hb, fun i hi => ?_⟩
    obtain ⟨_, vs, rfl, _, hv, _⟩ := hk i hi
    simpa using hv 0 _ rfl
theorem bytes_of_Trod {a : Option Addr} {len cap : Nat} {d : DataW H} {ps : List MemPlace} (h : DataW.Trod enc Tryd.prog w base spare held 30 (.slice a len cap) d ps) : ∃ l : List Nat, len = l.length ∧ ByQ w (.slice a len cap) l := by
  obtain ⟨fuel, hf⟩ := h
  obtain ⟨l, a', cap', hcs, h1, h2, _, h3⟩ := row_of_trod (R := fun _ vs (x : Nat) => vs = [.int .u8 (x : Nat)] ∧ x < 256) Tryd.underlying30 cellsY (by decide) (fun fuel vs d ps h => by
    obtain ⟨i, e, _, hw⟩ := DataW.trod_int Tryd.underlying5 h
    obtain ⟨m, rfl, hm⟩ := byte_wf hw
    exact ⟨m, e, hm⟩) hf
  have hnil : a = none → cap = 0 := by
    rintro rfl
    rcases DataW.trod_slice Tryd.underlying30 hf with ⟨hc, _⟩ | ⟨a', len', cap', elems, rest, n, _, hc, _⟩
    · simp [Value.cells] at hc; exact hc.2
    · simp [Value.cells] at hc
  simp [Value.cells] at hcs
  obtain ⟨rfl, rfl, rfl⟩ := hcs
  refine ⟨l, rfl, ?_⟩
  rcases h3 with rfl | ⟨b, off, rfl, hb, hk⟩
  · exact ⟨fun _ h => (List.not_mem_nil h).elim, Or.inl ⟨rfl, a, cap, rfl, hnil⟩⟩
  · refine ⟨fun x hx => ?_, Or.inr ⟨b, off, cap, rfl, h1, hb, fun i hi => ?_⟩⟩
    · obtain ⟨i, hi, rfl⟩ := List.mem_iff_getElem.1 hx
      obtain ⟨_, vs, ⟨rfl, hlt⟩, _⟩ := hk i hi
      exact hlt
    · obtain ⟨_, vs, ⟨rfl, _⟩, _, hv, _⟩ := hk i hi
      simpa using hv 0 _ rfl
end

end Go.Proofs.YtdncnljcihblbaaDoor
