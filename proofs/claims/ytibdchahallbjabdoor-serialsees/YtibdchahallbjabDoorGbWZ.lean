/-
  The statement GraphOrders, walked.
  Graphs and steps that came in, opened; what the listed variables hold.
  A list of numbers that came in, opened.
-/
import Derived.Test.YtibdchahallbjabDoorPoW
import Derived.Test.YtibdchahallbjabDoorFlW
import Derived.Test.YtibdchahallbjabDoorSmBZ
import Derived.Test.YtibdchahallbjabDoorRows
import Derived.Test.YtibdchahallbjabDoorCsW
import Derived.ProofKit
import Derived.LaidMore
import Derived.LaidSub
import Derived.OpenShut
import Derived.Stop.Joined
import Derived.Deep.Slices
namespace Go.Proofs.YtibdchahallbjabDoor
open Go.RowKit

/-- A graph that came in, and what the listed variable holds. -/
structure InG (w : World) (a : Option Addr) (cap : Nat) (R : List (List Bool)) : Prop where
  max : R.length ≤ maxLen
  row : ∀ r ∈ R, r.length ≤ maxLen
  at_ : GrQ w a R
  typ : TypAt w
theorem InG.below {w w' : World} {a : Option Addr} {cap : Nat} {R : List (List Bool)} (h : InG w a cap R) (hb : Below w.heap.size w w') : InG w' a cap R := ⟨h.max, h.row, h.at_.below hb, h.typ.below hb⟩
theorem oL_len (R : List (List Bool)) : (natI (oL R)).length ≤ 60 := by
  unfold natI oL
  rw [List.length_map]
  split
  · rename_i ok
    cases h : ordG (gB R) R.length R.length with
    | none => simp
    | some L => simp; rw [(ordG_ok h).1]; have := (ckG_ok ok).1; omega
  · simp

end Go.Proofs.YtibdchahallbjabDoor

namespace Go.Proofs.YtibdchahallbjabDoor
open Go.ChangeShapes Go.WideShapes Go.ChangeAt Go.RowKit

theorem own : ownKnob Tryd.prog.godebug = none := by kernel_rfl
theorem laidOut : laidOutB Tryd.prog = true := by kernel_rfl
theorem cells3 : Tryd.prog.cellsOf 3 = 1 := by kernel_rfl
theorem cells4 : Tryd.prog.cellsOf 4 = 1 := by kernel_rfl
theorem cells43 : Tryd.prog.cellsOf 59 = 1 := by kernel_rfl
theorem cells24 : Tryd.prog.cellsOf 25 = 1 := by kernel_rfl
theorem cells73 : Tryd.prog.cellsOf 40 = 3 := by kernel_rfl

theorem gFine : Tryd.prog.globalNamed "testimony/testimonyref.Fine" = some 0 := by kernel_rfl
theorem tFine : (Tryd.prog.globals[0]?).map (·.type) = some 27 := by kernel_rfl

theorem fine_of {W : World} (h : laidMetH Tryd.prog [("errors.errorType", Rows.laid_errors_errorType), ("testimony/testimonyref.Fine", Rows.laid_testimony_testimonyref_Fine)] W) : W.cell? ⟨0, 0, none⟩ = some (.int .i64 0) ∧ W.cell? ⟨0, 1, none⟩ = some (.int .i64 (-1)) := by
  have h' : laidMet Tryd.prog [("testimony/testimonyref.Fine", Rows.laid_testimony_testimonyref_Fine)] W := (laidMetH_iff.1 h).1
  obtain ⟨ps, ⟨g, t, cs, fuel, p, q, hg, ht, hv, htr, _, _⟩, _⟩ := h'
  obtain rfl := Option.some.inj (gFine.symm.trans hg)
  obtain rfl := Option.some.inj (tFine.symm.trans ht)
  obtain ⟨xs, n, _, hx, hl, hlen, hf⟩ := DataW.trod_struct Tryd.underlying27 htr
  have hx1 : xs.map (·.1) = [.lit (.int .i64 0), .lit (.int .i64 (-1))] := by
    have := congrArg Prod.fst hx
    simpa [Rows.laid_testimony_testimonyref_Fine] using this.symm
  have f0 : DataW.trod (fun _ => ()) Tryd.prog W 0 (fun _ => true) false n 25 ((cs.toList.drop 0).take (Tryd.prog.cellsOf 25)) = xs[0]? := hf 0 _ rfl
  have f1 : DataW.trod (fun _ => ()) Tryd.prog W 0 (fun _ => true) false n 3 ((cs.toList.drop 1).take (Tryd.prog.cellsOf 3)) = xs[1]? := hf 1 _ rfl
  rw [cells24] at f0
  rw [cells3] at f1
  have g0 : (xs.map (·.1))[0]? = some (.lit (.int .i64 0)) := by rw [hx1]; rfl
  have g1 : (xs.map (·.1))[1]? = some (.lit (.int .i64 (-1))) := by rw [hx1]; rfl
  rw [List.getElem?_map] at g0 g1
  obtain ⟨y0, hy0, e0⟩ := Option.map_eq_some_iff.1 g0
  obtain ⟨y1, hy1, e1⟩ := Option.map_eq_some_iff.1 g1
  rw [hy0] at f0
  rw [hy1] at f1
  obtain ⟨n0, c0, z0, _⟩ := DataW.trod_int Tryd.underlying25 f0
  obtain ⟨n1, c1, z1, _⟩ := DataW.trod_int Tryd.underlying3 f1
  have hn0 : n0 = 0 := by rw [z0] at e0; simpa using e0
  have hn1 : n1 = -1 := by rw [z1] at e1; simpa using e1
  subst hn0 hn1
  have k0 : ((cs.toList.drop 0).take 1)[0]? = some (.int .i64 0) := by rw [c0]; rfl
  have k1 : ((cs.toList.drop 1).take 1)[0]? = some (.int .i64 (-1)) := by rw [c1]; rfl
  rw [List.getElem?_take_of_lt (by decide), List.getElem?_drop] at k0 k1
  refine ⟨(World.var?_cell gFine hv 0).trans (by simpa using k0), (World.var?_cell gFine hv 1).trans (by simpa using k1)⟩

section
variable {H : Type} {enc : TypeId × Value → H} {w : World} {base : Nat} {spare : Nat → Bool} {held : Bool}
theorem wf_of_Trod {n : Int} {d : DataW H} {ps : List MemPlace} (h : DataW.Trod enc Tryd.prog w base spare held 3 (.int .i64 n) d ps) : (Lit.int .i64 n).wf = true := by
  obtain ⟨fuel, hf⟩ := h
  obtain ⟨m, e1, e2, e3⟩ := DataW.trod_int Tryd.underlying3 hf
  simp [Value.cells] at e1
  subst e1
  exact e3

theorem trodAll_lt {W : World} : ∀ {ts : List TypeId} {vs : List Value} {ds : List (DataW H)} {p : List MemPlace}, DataW.TrodAll enc Tryd.prog W 0 (fun _ => true) true ts vs ds p → ∀ x ∈ p, x.block < W.heap.size
  | [], vs, ds, p, h => by obtain ⟨_, _, rfl⟩ := trodAll_nil h; simp
  | t :: ts, vs, ds, p, h => by
    obtain ⟨v, vs', d, ds', p1, p2, rfl, rfl, rfl, ⟨m, h1⟩, h2⟩ := trodAll_cons h
    intro x hx
    rcases List.mem_append.1 hx with hx | hx
    · exact DataW.trod_lt m _ _ _ h1 x hx
    · exact trodAll_lt h2 x hx

/-- What came in reads behind the call as before, where nothing of it was written. -/
theorem trodAll_belowP {P : Program} (hl : laidOutB P = true) {W W' : World} (hb : Below W.heap.size W W') : ∀ {ts : List TypeId} {vs : List Value} {ds : List (DataW H)} {p : List MemPlace}, (∀ t ∈ ts, P.readableRec t = true ∧ t < P.types.size) → DataW.TrodAll enc P W 0 (fun _ => true) true ts vs ds p →
    DataW.TrodAll enc P W' 0 (fun b => decide (b < W.heap.size)) true ts vs ds p
  | [], vs, ds, p, _, h => by obtain ⟨rfl, rfl, rfl⟩ := trodAll_nil h; exact trodAll_mk0
  | t :: ts, vs, ds, p, hr, h => by
    obtain ⟨v, vs', d, ds', p1, p2, rfl, rfl, rfl, h1, h2⟩ := trodAll_cons h
    refine trodAll_cons_mk (Below.trod hl (hr t (List.mem_cons_self ..)).1 (hr t (List.mem_cons_self ..)).2 h1 hb ?_) (trodAll_belowP hl hb (fun u hu => hr u (List.mem_cons_of_mem _ hu)) h2)
    obtain ⟨m, h1⟩ := h1
    exact DataW.trod_lt m _ _ _ h1
end
/-- A list made of what there is at each number. -/
theorem list_of {α : Type} {p : Nat → α → Prop} (n : Nat) (h : ∀ i, i < n → ∃ x, p i x) : ∃ l : List α, l.length = n ∧ ∀ i, (hi : i < l.length) → p i l[i] := by
  induction n with
  | zero => exact ⟨[], rfl, fun i hi => absurd hi (Nat.not_lt_zero _)⟩
  | succ n ih =>
    obtain ⟨l, hl, hp⟩ := ih fun i hi => h i (by omega)
    obtain ⟨x, hx⟩ := h n (by omega)
    refine ⟨l ++ [x], by simp [hl], fun i hi => ?_⟩
    by_cases e : i < l.length
    · rw [List.getElem_append_left e]; exact hp i e
    · have : i = n := by simp at hi; omega
      subst this
      rw [List.getElem_append_right (by omega)]
      simp [hl]; exact hx

section
variable {H : Type} {enc : TypeId × Value → H} {w : World} {base : Nat} {spare : Nat → Bool} {held : Bool}
theorem bits_of_trod {fuel : Nat} {cs : List Value} {x : DataW H × List MemPlace} (h : DataW.trod enc Tryd.prog w base spare held fuel 59 cs = some x) : ∃ s bs, cs = [s] ∧ BitsIn w s bs ∧ bs.length ≤ maxLen := by
  obtain ⟨d, ps⟩ := x
  rcases DataW.trod_slice Tryd.underlying59 h with ⟨hcs, _⟩ | ⟨a', len, cap, elems, rest, n, _, hcs, _, hb, hl, hm, hlen, hel, _, _⟩
  · subst hcs
    exact ⟨_, [], rfl, ⟨none, 0, rfl, Nat.le_refl _, .inl rfl⟩, Nat.zero_le _⟩
  · subst hcs
    rw [cells4] at hel
    have hc : ∀ i, i < len → ∃ b : Bool, w.cell? (a'.add i) = some (.bool b) := fun i hi => by
      have he := hel i hi
      rw [List.getElem?_eq_getElem (by omega)] at he
      obtain ⟨cs, h1, h2⟩ := Option.bind_eq_some_iff.1 he
      obtain ⟨_, hcl, h3⟩ := World.cells?_some h1
      obtain ⟨d2, q2, h2⟩ : ∃ d2 q2, DataW.trod enc Tryd.prog w base spare held n 4 cs = some (d2, q2) := ⟨_, _, h2⟩
      obtain ⟨b, e1, _⟩ := DataW.trod_bool Tryd.underlying4 h2
      have h30 := h3 0 (by decide)
      rw [Nat.mul_one] at h30
      subst e1
      exact ⟨b, by simpa [Addr.add] using h30⟩
    obtain ⟨bs, hV, hp⟩ := list_of len hc
    refine ⟨_, bs, rfl, ⟨some a', cap, by rw [hV], by omega, ?_⟩, by rw [hV]; omega⟩
    by_cases h0 : bs = []
    · exact .inl h0
    · have hpos : 0 < bs.length := List.length_pos_iff.2 h0
      obtain ⟨b, off, spot⟩ := a'
      have hs0 := hp 0 hpos
      have hspot : spot = none := by simpa [Addr.add] using World.cell?_spot hs0
      subst hspot
      refine .inr ⟨b, off, rfl, ?_, fun j hj => ?_⟩
      · have := World.block_lt_of_cell? w _ hs0
        simpa [Addr.add] using this
      · have hs := hp j hj
        rwa [Addr.add_lit] at hs
theorem grq_of_Trod {a : Option Addr} {len cap : Nat} {d : DataW H} {ps : List MemPlace} (h : DataW.Trod enc Tryd.prog w base spare held 54 (.slice a len cap) d ps) :
    ∃ R : List (List Bool), R.length = len ∧ R.length ≤ maxLen ∧ (∀ r ∈ R, r.length ≤ maxLen) ∧ GrQ w a R := by
  obtain ⟨fuel, hf⟩ := h
  have h : DataW.trod enc Tryd.prog w base spare held fuel 54 [.slice a len cap] = some (d, ps) := by simpa [Value.cells] using hf
  rcases DataW.trod_slice Tryd.underlying54 h with ⟨hcs, _⟩ | ⟨a', len', cap', elems, rest, n, _, hcs, _, hb, hl, hm, hlen, hel, _, _⟩
  · simp at hcs
    obtain ⟨rfl, rfl, rfl⟩ := hcs
    exact ⟨[], rfl, Nat.zero_le _, fun xs hx => (by cases hx), .inl rfl⟩
  · simp at hcs
    obtain ⟨rfl, rfl, rfl⟩ := hcs
    rw [cells43] at hel
    have hc : ∀ i, i < len → ∃ xs : List Bool, (∃ s, w.cell? (a'.add i) = some s ∧ BitsIn w s xs) ∧ xs.length ≤ maxLen := fun i hi => by
      have he := hel i hi
      rw [List.getElem?_eq_getElem (by omega)] at he
      obtain ⟨cs, h1, h2⟩ := Option.bind_eq_some_iff.1 he
      obtain ⟨_, hcl, h3⟩ := World.cells?_some h1
      have h30 := h3 0 (by decide)
      rw [Nat.mul_one] at h30
      obtain ⟨s, bs, rfl, hbs, hbl⟩ := bits_of_trod h2
      exact ⟨bs, ⟨s, by simpa [Addr.add] using h30, hbs⟩, hbl⟩
    obtain ⟨V, hV, hp⟩ := list_of len hc
    refine ⟨V, hV, by rw [hV]; omega, fun xs hx => ?_, ?_⟩
    · obtain ⟨i, hi, e⟩ := List.getElem_of_mem hx
      rw [← e]; exact (hp i hi).2
    · by_cases h0 : V = []
      · exact .inl h0
      · have hpos : 0 < V.length := List.length_pos_iff.2 h0
        obtain ⟨b, off, spot⟩ := a'
        obtain ⟨⟨s0, hs0, _⟩, _⟩ := hp 0 hpos
        have hspot : spot = none := by simpa [Addr.add] using World.cell?_spot hs0
        subst hspot
        refine .inr ⟨b, off, rfl, ?_, fun j hj => ?_⟩
        · have := World.block_lt_of_cell? w _ hs0
          simpa [Addr.add] using this
        · obtain ⟨⟨s, hs, hi⟩, _⟩ := hp j hj
          rw [Addr.add_lit] at hs
          exact ⟨s, hs, hi⟩

theorem one_int {fuel n : Nat} {cs : List Value} {x : Option (DataW H × List MemPlace)} (h : DataW.trod enc Tryd.prog w base spare held fuel 3 ((cs.drop n).take 1) = x) (hx : x.isSome = true) : ∃ i, cs[n]? = some (.int .i64 i) := by
  obtain ⟨y, rfl⟩ := Option.isSome_iff_exists.1 hx
  obtain ⟨i, e, _⟩ := DataW.trod_int Tryd.underlying3 h
  refine ⟨i, ?_⟩
  have h0 : ((cs.drop n).take 1)[0]? = some (.int .i64 i) := by rw [e]; rfl
  simpa using h0

theorem list3 {α : Type} {cs : List α} (h : cs.length = 3) : ∃ c0 c1 c2, cs = [c0, c1, c2] := by
  match cs, h with
  | [c0, c1, c2], _ => exact ⟨c0, c1, c2, rfl⟩
theorem stp_of_trod {fuel : Nat} {cs : List Value} {x : DataW H × List MemPlace} (h : DataW.trod enc Tryd.prog w base spare held fuel 40 cs = some x) : ∃ s : Stp, cs = [.int .i64 s.p, .int .i64 s.k, .int .i64 s.m] := by
  obtain ⟨xs, n, _, _, hl, hlen, hf⟩ := DataW.trod_struct Tryd.underlying40 h
  rw [cells73] at hl
  have hsome : ∀ i, i < 3 → xs[i]?.isSome = true := fun i hi => by
    rw [List.getElem?_eq_getElem (by rw [hlen]; exact hi)]; rfl
  have f0 : DataW.trod enc Tryd.prog w base spare held n 3 ((cs.drop 0).take (Tryd.prog.cellsOf 3)) = xs[0]? := hf 0 _ rfl
  have f1 : DataW.trod enc Tryd.prog w base spare held n 3 ((cs.drop 1).take (Tryd.prog.cellsOf 3)) = xs[1]? := hf 1 _ rfl
  have f2 : DataW.trod enc Tryd.prog w base spare held n 3 ((cs.drop 2).take (Tryd.prog.cellsOf 3)) = xs[2]? := hf 2 _ rfl
  rw [cells3] at f0 f1 f2
  obtain ⟨i0, e0⟩ := one_int f0 (hsome 0 (by decide))
  obtain ⟨i1, e1⟩ := one_int f1 (hsome 1 (by decide))
  obtain ⟨i2, e2⟩ := one_int f2 (hsome 2 (by decide))
  obtain ⟨c0, c1, c2, rfl⟩ := list3 hl
  simp at e0 e1 e2
  exact ⟨⟨i0, i1, i2⟩, by simp [e0, e1, e2]⟩

theorem stps_of_trod {fuel : Nat} {a : Option Addr} {len cap : Nat} {x : DataW H × List MemPlace} (h : DataW.trod enc Tryd.prog w base spare held fuel 22 [.slice a len cap] = some x) :
    len ≤ maxLen ∧ len ≤ cap ∧ (len = 0 ∨ ∃ b off, ∃ l : List Stp, a = some ⟨b, off, none⟩ ∧ l.length = len ∧ b < w.heap.size ∧ StpsAt w b off l) := by
  rcases DataW.trod_slice Tryd.underlying22 h with ⟨hcs, _⟩ | ⟨a', len', cap', elems, rest, n, _, hcs, _, hb, hl, hm, hlen, hel, _, _⟩
  · simp at hcs
    obtain ⟨_, rfl, _⟩ := hcs
    exact ⟨Nat.zero_le _, Nat.zero_le _, .inl rfl⟩
  · simp at hcs
    obtain ⟨rfl, rfl, rfl⟩ := hcs
    refine ⟨Nat.le_trans hl hm, hl, ?_⟩
    by_cases h0 : len = 0
    · exact .inl h0
    · refine .inr ?_
      rw [cells73] at hel
      have hc : ∀ i, i < len → ∃ s : Stp, ∀ j, j < 3 → w.cell? ((a'.add (i * 3)).add j) = [Value.int .i64 s.p, .int .i64 s.k, .int .i64 s.m][j]? := fun i hi => by
        have he := hel i hi
        rw [List.getElem?_eq_getElem (by omega)] at he
        obtain ⟨cs, h1, h2⟩ := Option.bind_eq_some_iff.1 he
        obtain ⟨s, rfl⟩ := stp_of_trod h2
        obtain ⟨_, _, h3⟩ := World.cells?_some h1
        exact ⟨s, fun j hj => h3 j hj⟩
      obtain ⟨b, off, spot⟩ := a'
      have hspot : spot = none := by
        obtain ⟨s, ho⟩ := hc 0 (by omega)
        have := ho 0 (by decide)
        simpa [Addr.add] using World.cell?_spot this
      subst hspot
      obtain ⟨l, hll, hlp⟩ := list_of len hc
      refine ⟨b, off, l, rfl, hll, ?_, fun i hi => ?_⟩
      · have := hlp 0 (by omega) 0 (by decide)
        exact World.block_lt_of_cell? w _ this
      · have g : ∀ j, j < 3 → w.cell? ⟨b, off + i * 3 + j, none⟩ = [Value.int .i64 l[i].p, .int .i64 l[i].k, .int .i64 l[i].m][j]? := fun j hj => by
          have := hlp i hi j hj
          rwa [Addr.add_mid, Addr.add_mid] at this
        exact ⟨g 0 (by decide), g 1 (by decide), g 2 (by decide)⟩

theorem stps_of_Trod {a : Option Addr} {len cap : Nat} {d : DataW H} {ps : List MemPlace} (h : DataW.Trod enc Tryd.prog w base spare held 22 (.slice a len cap) d ps) :
    ∃ l : List Stp, l.length = len ∧ l.length ≤ cap ∧ l.length ≤ maxLen ∧ StpsQ w a l := by
  obtain ⟨fuel, hf⟩ := h
  obtain ⟨hm, hc, h | ⟨b, off, l, rfl, hl, hb, ho⟩⟩ := stps_of_trod (x := (d, ps)) (by simpa [Value.cells] using hf)
  · subst h
    exact ⟨[], rfl, Nat.zero_le _, by decide, .inl rfl⟩
  · exact ⟨l, hl, by rw [hl]; exact hc, by rw [hl]; exact hm, .inr ⟨b, off, rfl, hb, ho⟩⟩

end

theorem gErr : Tryd.prog.globalNamed "errors.errorType" = some 1 := by kernel_rfl
theorem tRt : (Tryd.prog.cutTypes.find? (·.1 == "internal/reflectlite.rtype")).map (·.2) = some 130 := by kernel_rfl
theorem oneRow : ((List.range 171).filter fun t => Tryd.prog.rowNamed t [101, 114, 114, 111, 114]) = [33] := by kernel_rfl
theorem sizeT : Tryd.prog.types.size = 171 := by kernel_rfl

def laidG : List (String × DataW Unit) := [("errors.errorType", Rows.laid_errors_errorType)]
def laidC : List (String × DataW Unit) := [("errors.errorType", Rows.laid_errors_errorType), ("testimony/testimonyref.Fine", Rows.laid_testimony_testimonyref_Fine)]
theorem handle_in {L : List (String × DataW Unit)} {W : World} (hm : ("errors.errorType", Rows.laid_errors_errorType) ∈ L) (h : laidMetH Tryd.prog L W) : TypAt W := by
  obtain ⟨name, u, ty, e1, e2, e3, e4, e5⟩ := (laidMetH_iff.1 h).2 _ (List.mem_filter.2 ⟨hm, rfl⟩)
  have en : name = [101, 114, 114, 111, 114] := (Option.some.inj e1).symm
  subst en
  obtain rfl := Option.some.inj (tRt.symm.trans e2)
  have hm : ty ∈ (List.range 171).filter fun t => Tryd.prog.rowNamed t [101, 114, 114, 111, 114] := List.mem_filter.2 ⟨List.mem_range.2 (by rw [← sizeT]; exact e3), e4⟩
  rw [oneRow] at hm
  obtain rfl := List.mem_singleton.1 hm
  have hh : typeHandle Tryd.prog 33 = .pointer (some ⟨2, 33, none⟩) := by kernel_rfl
  rw [hh] at e5
  exact (by simpa using World.var?_cell gErr e5 0 : W.cell? ⟨1, 0, none⟩ = some (.iface 130 (.agg #[.pointer (some ⟨2, 33, none⟩)])))
theorem handle_of {W : World} (h : laidMetH Tryd.prog laidC W) : TypAt W := handle_in (by simp [laidC]) h
theorem handle_ofG {W : World} (h : laidMetH Tryd.prog laidG W) : TypAt W := handle_in (by simp [laidG]) h
end Go.Proofs.YtibdchahallbjabDoor

namespace Go.Proofs.YtibdchahallbjabDoor
open Go.ChangeShapes Go.WideShapes Go.ChangeAt Go.RowKit

section
variable {H : Type} {enc : TypeId × Value → H} {w : World} {base : Nat} {spare : Nat → Bool} {held : Bool}
theorem nums_of_Trod {a : Option Addr} {len cap : Nat} {d : DataW H} {ps : List MemPlace} (h : DataW.Trod enc Tryd.prog w base spare held 29 (.slice a len cap) d ps) :
    ∃ st : List Int, st.length = len ∧ st.length ≤ maxLen ∧ (∀ t ∈ st, (Lit.int .i64 t).wf = true) ∧ HasI w (.slice a len cap) st := by
  obtain ⟨fuel, hf⟩ := h
  have h : DataW.trod enc Tryd.prog w base spare held fuel 29 [.slice a len cap] = some (d, ps) := by simpa [Value.cells] using hf
  rcases DataW.trod_slice Tryd.underlying29 h with ⟨hcs, _⟩ | ⟨a', len', cap', elems, rest, n, _, hcs, _, hb, hl, hm, hlen, hel, _, _⟩
  · simp at hcs
    obtain ⟨rfl, rfl, rfl⟩ := hcs
    exact ⟨[], rfl, Nat.zero_le _, fun t ht => (by cases ht), hasI_nil w⟩
  · simp at hcs
    obtain ⟨rfl, rfl, rfl⟩ := hcs
    rw [cells3] at hel
    have hc : ∀ i, i < len → ∃ x : Int, w.cell? (a'.add i) = some (.int .i64 x) ∧ (Lit.int .i64 x).wf = true := fun i hi => by
      have he := hel i hi
      rw [List.getElem?_eq_getElem (by omega)] at he
      obtain ⟨cs, h1, h2⟩ := Option.bind_eq_some_iff.1 he
      obtain ⟨x, rfl, _, hwf⟩ := DataW.trod_int Tryd.underlying3 h2
      obtain ⟨_, _, h3⟩ := World.cells?_some h1
      have := h3 0 (by decide)
      refine ⟨x, ?_, hwf⟩
      rw [Nat.mul_one] at this
      simpa [Addr.add] using this
    obtain ⟨st, hst, hp⟩ := list_of len hc
    refine ⟨st, hst, by rw [hst]; omega, fun t ht => ?_, some a', cap, by rw [hst], by omega, fun i hi => ?_⟩
    · obtain ⟨i, hi, rfl⟩ := List.getElem_of_mem ht
      exact (hp i hi).2
    · obtain ⟨b, off, spot⟩ := a'
      have hs := (hp i hi).1
      have hspot : spot = none := by simpa [Addr.add] using World.cell?_spot (hp 0 (by omega)).1
      subst hspot
      rw [Addr.add_lit] at hs
      exact ⟨b, off, rfl, hs⟩
end
end Go.Proofs.YtibdchahallbjabDoor
