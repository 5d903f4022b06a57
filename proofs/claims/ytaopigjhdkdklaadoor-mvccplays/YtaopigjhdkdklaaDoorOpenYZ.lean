/-
  A story that came in, opened, with how many bytes its lists take.
  Asks that came in, opened.
  What the listed variable holds.
-/
import Derived.Test.YtaopigjhdkdklaaDoorRows
import Derived.Test.YtaopigjhdkdklaaDoorIsM
import Derived.ProofKit
import Derived.OpenShut
import Derived.Stop.Joined
import Derived.Deep.Slices
import Derived.SizedLaws
import Derived.Lib.SmallJoins
import Derived.Test.YtaopigjhdkdklaaDoorMvB
import Derived.Test.YtaopigjhdkdklaaDoorJaW
import Derived.LaidMore
import Derived.LaidSub
namespace Go.Proofs.YtaopigjhdkdklaaDoor
open Go.ChangeShapes Go.WideShapes Go.ChangeAt Go.RowKit

/-- A list made of what there is at each number. -/
theorem list_of {α : Type} {p : Nat → α → Prop} (n : Nat) (h : ∀ i, i < n → ∃ x, p i x) : ∃ l : List α, l.length = n ∧ ∀ i, (hi : i < l.length) → p i l[i] := by
  induction n with
  | zero => exact ⟨[], rfl, fun i hi => absurd hi (Nat.not_lt_zero _)⟩
  | succ n ih =>
    obtain ⟨l, hl, hp⟩ := ih fun i hi => h i (by omega)
    obtain ⟨x, hx⟩ := h n (by omega)
    refine ⟨l ++ [x], by simp [hl], fun i hi => ?_⟩
    by_cases e : i < l.length
    · rw [List.getElem_append_left e]; exact hp i e
    · have : i = n := by simp at hi; omega
      subst this
      rw [List.getElem_append_right (by omega)]
      simp [hl]; exact hx

theorem own : ownKnob Tryd.prog.godebug = none := by kernel_rfl
theorem laidOut : laidOutB Tryd.prog = true := by kernel_rfl

section
variable {H : Type} {enc : TypeId × Value → H} {w : World} {base : Nat} {spare : Nat → Bool} {held : Bool}

/-- What came in reads behind the call as before, where nothing of it was written. -/
theorem trodAll_belowP {P : Program} (hl : laidOutB P = true) {W W' : World} (hb : Below W.heap.size W W') : ∀ {ts : List TypeId} {vs : List Value} {ds : List (DataW H)} {p : List MemPlace}, (∀ t ∈ ts, P.readableRec t = true ∧ t < P.types.size) → DataW.TrodAll enc P W 0 (fun _ => true) true ts vs ds p →
    DataW.TrodAll enc P W' 0 (fun b => decide (b < W.heap.size)) true ts vs ds p
  | [], vs, ds, p, _, h => by obtain ⟨rfl, rfl, rfl⟩ := trodAll_nil h; exact trodAll_mk0
  | t :: ts, vs, ds, p, hr, h => by
    obtain ⟨v, vs', d, ds', p1, p2, rfl, rfl, rfl, h1, h2⟩ := trodAll_cons h
    refine trodAll_cons_mk (Below.trod hl (hr t (List.mem_cons_self ..)).1 (hr t (List.mem_cons_self ..)).2 h1 hb ?_) (trodAll_belowP hl hb (fun u hu => hr u (List.mem_cons_of_mem _ hu)) h2)
    obtain ⟨m, h1⟩ := h1
    exact DataW.trod_lt m _ _ _ h1

theorem wgtAll_mem {P : Program} {e : TypeId} : ∀ {l : List (DataW H)} {d : DataW H}, d ∈ l → ∀ n ∈ d.weights P e, n ∈ DataW.weightsAll P e l
  | x :: l, d, hd, n, hn => by
    simp only [DataW.weightsAll, List.mem_append]
    rcases List.mem_cons.1 hd with rfl | hd
    · exact .inl hn
    · exact .inr (wgtAll_mem hd n hn)

/-- A list that came in: each element by its own reading. -/
theorem row_of_trod {P : Program} {t e : TypeId} {c : Nat} {α : Type} {R : DataW H → List Value → α → Prop} (hu : P.underlying t = some (.slice e)) (hc : P.cellsOf e = c) (hc1 : 1 ≤ c)
    (he : ∀ fuel vs d ps, DataW.trod enc P w base spare held fuel e vs = some (d, ps) → ∃ y, R d vs y) {fuel : Nat} {cs : List Value} {d : DataW H} {ps : List MemPlace} (h : DataW.trod enc P w base spare held fuel t cs = some (d, ps)) :
    ∃ (l : List α) (a : Option Addr) (cap : Nat), cs = [.slice a l.length cap] ∧ l.length ≤ cap ∧ l.length ≤ maxLen ∧ ((∀ n ∈ d.weights P t, n ≤ reachBytes) → l.length * P.bytesOf e ≤ reachBytes) ∧
      (l = [] ∨ ∃ b off, a = some ⟨b, off, none⟩ ∧ b < w.heap.size ∧ ∀ k (hk : k < l.length), ∃ d' vs, R d' vs l[k] ∧ vs.length = c ∧ (∀ j v, vs[j]? = some v → w.cell? ⟨b, off + k * c + j, none⟩ = some v) ∧ ∀ n ∈ d'.weights P e, n ∈ d.weights P t) := by
  rcases DataW.trod_slice hu h with ⟨hcs, _⟩ | ⟨a', len, cap, elems, rest, n, _, hcs, hx, hb, hl, hm, hlen, hel, _, _⟩
  · exact ⟨[], none, 0, hcs, Nat.le_refl _, Nat.zero_le _, fun _ => by simp, .inl rfl⟩
  · injection hx with hd _
    subst hd
    rw [hc] at hel
    have hW : ∀ n, n ∈ (elems.map (·.1)).flatMap (fun d => d.weights P e) → n ∈ DataW.weights P t (.slice (elems.map (·.1)) (rest.map (·.1))) := fun n hn => by
      obtain ⟨d, hd, hn⟩ := List.mem_flatMap.1 hn
      simp only [DataW.weights, hu, List.mem_cons, List.mem_append]
      exact .inr (.inl (wgtAll_mem hd n hn))
    have hq : ∀ i, i < len → ∃ y : α, ∃ d' vs, R d' vs y ∧ vs.length = c ∧ (∀ j v, vs[j]? = some v → w.cell? ((a'.add (i * c)).add j) = some v) ∧ ∀ n ∈ d'.weights P e, n ∈ DataW.weights P t (.slice (elems.map (·.1)) (rest.map (·.1))) := fun i hi => by
      have h0 := hel i hi
      rw [List.getElem?_eq_getElem (by omega)] at h0
      obtain ⟨vs, h1, h2⟩ := Option.bind_eq_some_iff.1 h0
      obtain ⟨_, hcl, h3⟩ := World.cells?_some h1
      obtain ⟨y, hy⟩ := he n vs _ _ (by rw [h2])
      refine ⟨y, _, vs, hy, hcl, fun j v hv => ?_, fun n hn => hW n (List.mem_flatMap.2 ⟨_, List.mem_map.2 ⟨_, List.getElem_mem _, rfl⟩, hn⟩)⟩
      have hj : j < vs.length := (List.getElem?_eq_some_iff.1 hv).1
      rw [h3 j (by omega), hv]
    obtain ⟨l, hV, hp⟩ := list_of len hq
    refine ⟨l, some a', cap, by rw [hV]; exact hcs, by omega, by omega, fun hw => ?_, ?_⟩
    · have := hw ((elems.length + rest.length) * P.bytesOf e) (by simp [DataW.weights, hu])
      refine Nat.le_trans (Nat.mul_le_mul_right _ ?_) this
      omega
    · by_cases h0 : l = []
      · exact .inl h0
      · have hpos : 0 < l.length := List.length_pos_iff.2 h0
        obtain ⟨b, off, spot⟩ := a'
        obtain ⟨_, vs, _, hvl, hs0, _⟩ := hp 0 hpos
        have hs0 := hs0 0 vs[0] (List.getElem?_eq_getElem (by omega))
        have hspot : spot = none := by
          have := World.cell?_spot hs0
          cases spot with
          | none => rfl
          | some s => simp [Addr.add] at this
        subst hspot
        refine .inr ⟨b, off, rfl, ?_, fun j hj => ?_⟩
        · have := World.block_lt_of_cell? w _ hs0
          simpa [Addr.add] using this
        · obtain ⟨d', vs, h1, h2, h3, h4⟩ := hp j hj
          refine ⟨d', vs, h1, h2, fun i v hv => ?_, h4⟩
          have := h3 i v hv
          rwa [Addr.add_lit, Addr.add_lit] at this

theorem one_int {fuel n : Nat} {cs : List Value} {x : Option (DataW H × List MemPlace)} (h : DataW.trod enc Tryd.prog w base spare held fuel 3 ((cs.drop n).take 1) = x) (hx : x.isSome = true) : ∃ i, cs[n]? = some (.int .i64 i) := by
  obtain ⟨y, rfl⟩ := Option.isSome_iff_exists.1 hx
  obtain ⟨i, e, _⟩ := DataW.trod_int Tryd.underlying3 h
  refine ⟨i, ?_⟩
  have h0 : ((cs.drop n).take 1)[0]? = some (.int .i64 i) := by rw [e]; rfl
  simpa using h0
theorem cells3 : Tryd.prog.cellsOf 3 = 1 := by kernel_rfl

end
end Go.Proofs.YtaopigjhdkdklaaDoor

namespace Go.Proofs.YtaopigjhdkdklaaDoor
open Go.ChangeShapes Go.WideShapes Go.ChangeAt Go.RowKit

section
variable {H : Type} {enc : TypeId × Value → H} {w : World} {base : Nat} {spare : Nat → Bool} {held : Bool}
theorem cells34 : Tryd.prog.cellsOf 34 = 3 := by kernel_rfl
theorem ask_of_trod {fuel : Nat} {cs : List Value} {d : DataW H} {ps : List MemPlace} (h : DataW.trod enc Tryd.prog w base spare held fuel 34 cs = some (d, ps)) :
    ∃ s : Int × Int × Int, cs[0]? = some (.int .i64 s.1) ∧ cs[1]? = some (.int .i64 s.2.1) ∧ cs[2]? = some (.int .i64 s.2.2) := by
  obtain ⟨xs, n, _, _, _, hlen, hf⟩ := DataW.trod_struct Tryd.underlying34 h
  have hl : xs.length = 3 := hlen
  have f0 : DataW.trod enc Tryd.prog w base spare held n 3 ((cs.drop 0).take (Tryd.prog.cellsOf 3)) = xs[0]? := hf 0 _ rfl
  have f1 : DataW.trod enc Tryd.prog w base spare held n 3 ((cs.drop 1).take (Tryd.prog.cellsOf 3)) = xs[1]? := hf 1 _ rfl
  have f2 : DataW.trod enc Tryd.prog w base spare held n 3 ((cs.drop 2).take (Tryd.prog.cellsOf 3)) = xs[2]? := hf 2 _ rfl
  rw [cells3] at f0 f1 f2
  obtain ⟨a, e0⟩ := one_int f0 (by rw [List.getElem?_eq_getElem (by omega)]; rfl)
  obtain ⟨b, e1⟩ := one_int f1 (by rw [List.getElem?_eq_getElem (by omega)]; rfl)
  obtain ⟨c, e2⟩ := one_int f2 (by rw [List.getElem?_eq_getElem (by omega)]; rfl)
  exact ⟨⟨a, b, c⟩, e0, e1, e2⟩
theorem asks_of_Trod {a : Option Addr} {len cap : Nat} {d : DataW H} {ps : List MemPlace} (h : DataW.Trod enc Tryd.prog w base spare held 22 (.slice a len cap) d ps) :
    ∃ l : List (Int × Int × Int), l.length = len ∧ l.length ≤ maxLen ∧ AsksQ w a l := by
  obtain ⟨fuel, hf⟩ := h
  have h : DataW.trod enc Tryd.prog w base spare held fuel 22 [.slice a len cap] = some (d, ps) := by simpa [Value.cells] using hf
  obtain ⟨l, a', cap', h1, h2, h3, _, h5⟩ := row_of_trod (R := fun _ cs (s : Int × Int × Int) => cs[0]? = some (.int .i64 s.1) ∧ cs[1]? = some (.int .i64 s.2.1) ∧ cs[2]? = some (.int .i64 s.2.2)) Tryd.underlying22 cells34 (by omega) (fun _ _ _ _ h => ask_of_trod h) h
  simp at h1
  obtain ⟨rfl, rfl, rfl⟩ := h1
  refine ⟨l, rfl, h3, ?_⟩
  rcases h5 with h5 | ⟨b, off, e, hb, h5⟩
  · exact .inl h5
  · refine .inr ⟨b, off, e, hb, fun k hk => ?_⟩
    obtain ⟨_, vs, ⟨q0, q1, q2⟩, _, hq, _⟩ := h5 k hk
    exact ⟨hq 0 _ q0, hq 1 _ q1, hq 2 _ q2⟩
end
end Go.Proofs.YtaopigjhdkdklaaDoor

namespace Go.Proofs.YtaopigjhdkdklaaDoor
open Go.ChangeShapes Go.WideShapes Go.ChangeAt Go.RowKit

theorem gErr : Tryd.prog.globalNamed "errors.errorType" = some 0 := by kernel_rfl
theorem tRt : (Tryd.prog.cutTypes.find? (·.1 == "internal/reflectlite.rtype")).map (·.2) = some 163 := by kernel_rfl
theorem oneRow : ((List.range 206).filter fun t => Tryd.prog.rowNamed t [101, 114, 114, 111, 114]) = [25] := by kernel_rfl
theorem sizeT : Tryd.prog.types.size = 206 := by kernel_rfl

def laidG : List (String × DataW Unit) := [("errors.errorType", Rows.laid_errors_errorType)]
theorem handle_in {L : List (String × DataW Unit)} {W : World} (hm : ("errors.errorType", Rows.laid_errors_errorType) ∈ L) (h : laidMetH Tryd.prog L W) : W.cell? ⟨0, 0, none⟩ = some (.iface 163 (.agg #[.pointer (some ⟨1, 25, none⟩)])) := by
  obtain ⟨name, u, ty, e1, e2, e3, e4, e5⟩ := (laidMetH_iff.1 h).2 _ (List.mem_filter.2 ⟨hm, rfl⟩)
  have en : name = [101, 114, 114, 111, 114] := (Option.some.inj e1).symm
  subst en
  obtain rfl := Option.some.inj (tRt.symm.trans e2)
  have hm : ty ∈ (List.range 206).filter fun t => Tryd.prog.rowNamed t [101, 114, 114, 111, 114] := List.mem_filter.2 ⟨List.mem_range.2 (by rw [← sizeT]; exact e3), e4⟩
  rw [oneRow] at hm
  obtain rfl := List.mem_singleton.1 hm
  have hh : typeHandle Tryd.prog 25 = .pointer (some ⟨1, 25, none⟩) := by kernel_rfl
  rw [hh] at e5
  exact (by simpa using World.var?_cell gErr e5 0 : W.cell? ⟨0, 0, none⟩ = some (.iface 163 (.agg #[.pointer (some ⟨1, 25, none⟩)])))
theorem glE_of {W : World} (h : laidMetH Tryd.prog laidG W) : GlE W := ⟨World.block_lt_of_cell? W _ (handle_in (by simp [laidG]) h), handle_in (by simp [laidG]) h⟩
end Go.Proofs.YtaopigjhdkdklaaDoor
