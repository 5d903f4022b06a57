/-
  A story that came in, opened, with how many bytes its lists take.
  Asks that came in, opened.
  What the listed variable holds.
-/
import Derived.Test.YtaopigjhdkdklaaDoorRows
import Derived.Test.YtaopigjhdkdklaaDoorIsM
import Derived.ProofKit
import Derived.OpenShut
import Derived.Stop.Joined
import Derived.Deep.Slices
import Derived.SizedLaws
import Derived.Lib.SmallJoins
import Derived.Test.YtaopigjhdkdklaaDoorMvBZ
import Derived.Test.YtaopigjhdkdklaaDoorJaW
import Derived.LaidMore
import Derived.LaidSub
namespace Go.Proofs.YtaopigjhdkdklaaDoor
open Go.ChangeShapes Go.WideShapes Go.ChangeAt Go.RowKit

/-- A list made of what there is at each number. -/
theorem list_of {α : Type} {p : Nat → α → Prop} (n : Nat) (h : ∀ i, i < n → ∃ x, p i x) : ∃ l : List α, l.length = n ∧ ∀ i, (hi : i < l.length) → p i l[i] := by
  induction n with
  | zero => exact ⟨[], rfl, fun i hi => absurd hi (Nat.not_lt_zero _)⟩
  | succ n ih =>
    obtain ⟨l, hl, hp⟩ := ih fun i hi => h i (by omega)
    obtain ⟨x, hx⟩ := h n (by omega)
    refine ⟨l ++ [x], by simp [hl], fun i hi => ?_⟩
    by_cases e : i < l.length
    · rw [List.getElem_append_left e]; exact hp i e
    · have : i = n := by simp at hi; omega
      subst this
      rw [List.getElem_append_right (by omega)]
      simp [hl]; exact hx

theorem own : ownKnob Tryd.prog.godebug = none := by kernel_rfl
theorem laidOut : laidOutB Tryd.prog = true := by kernel_rfl

section
variable {H : Type} {enc : TypeId × Value → H} {w : World} {base : Nat} {spare : Nat → Bool} {held : Bool}
theorem trodAll_lt {W : World} : ∀ {ts : List TypeId} {vs : List Value} {ds : List (DataW H)} {p : List MemPlace}, DataW.TrodAll enc Tryd.prog W 0 (fun _ => true) true ts vs ds p → ∀ x ∈ p, x.block < W.heap.size
  | [], vs, ds, p, h => by obtain ⟨_, _, rfl⟩ := trodAll_nil h; simp
  | t :: ts, vs, ds, p, h => by
    obtain ⟨v, vs', d, ds', p1, p2, rfl, rfl, rfl, ⟨m, h1⟩, h2⟩ := trodAll_cons h
    intro x hx
    rcases List.mem_append.1 hx with hx | hx
    · exact DataW.trod_lt m _ _ _ h1 x hx
    · exact trodAll_lt h2 x hx

/-- What came in reads behind the call as before, where nothing of it was written. -/
theorem trodAll_belowP {P : Program} (hl : laidOutB P = true) {W W' : World} (hb : Below W.heap.size W W') : ∀ {ts : List TypeId} {vs : List Value} {ds : List (DataW H)} {p : List MemPlace}, (∀ t ∈ ts, P.readableRec t = true ∧ t < P.types.size) → DataW.TrodAll enc P W 0 (fun _ => true) true ts vs ds p →
    DataW.TrodAll enc P W' 0 (fun b => decide (b < W.heap.size)) true ts vs ds p
  | [], vs, ds, p, _, h => by obtain ⟨rfl, rfl, rfl⟩ := trodAll_nil h; exact trodAll_mk0
  | t :: ts, vs, ds, p, hr, h => by
    obtain ⟨v, vs', d, ds', p1, p2, rfl, rfl, rfl, h1, h2⟩ := trodAll_cons h
    refine trodAll_cons_mk (Below.trod hl (hr t (List.mem_cons_self ..)).1 (hr t (List.mem_cons_self ..)).2 h1 hb ?_) (trodAll_belowP hl hb (fun u hu => hr u (List.mem_cons_of_mem _ hu)) h2)
    obtain ⟨m, h1⟩ := h1
    exact DataW.trod_lt m _ _ _ h1

theorem wgtAll_mem {P : Program} {e : TypeId} : ∀ {l : List (DataW H)} {d : DataW H}, d ∈ l → ∀ n ∈ d.weights P e, n ∈ DataW.weightsAll P e l
  | x :: l, d, hd, n, hn => by
    simp only [DataW.weightsAll, List.mem_append]
    rcases List.mem_cons.1 hd with rfl | hd
    · exact .inl hn
    · exact .inr (wgtAll_mem hd n hn)

/-- A list that came in: each element by its own reading. -/
theorem row_of_trod {P : Program} {t e : TypeId} {c : Nat} {α : Type} {R : DataW H → List Value → α → Prop} (hu : P.underlying t = some (.slice e)) (hc : P.cellsOf e = c) (hc1 : 1 ≤ c)
    (he : ∀ fuel vs d ps, DataW.trod enc P w base spare held fuel e vs = some (d, ps) → ∃ y, R d vs y) {fuel : Nat} {cs : List Value} {d : DataW H} {ps : List MemPlace} (h : DataW.trod enc P w base spare held fuel t cs = some (d, ps)) :
    ∃ (l : List α) (a : Option Addr) (cap : Nat), cs = [.slice a l.length cap] ∧ l.length ≤ cap ∧ l.length ≤ maxLen ∧ ((∀ n ∈ d.weights P t, n ≤ reachBytes) → l.length * P.bytesOf e ≤ reachBytes) ∧
      (l = [] ∨ ∃ b off, a = some ⟨b, off, none⟩ ∧ b < w.heap.size ∧ ∀ k (hk : k < l.length), ∃ d' vs, R d' vs l[k] ∧ vs.length = c ∧ (∀ j v, vs[j]? = some v → w.cell? ⟨b, off + k * c + j, none⟩ = some v) ∧ ∀ n ∈ d'.weights P e, n ∈ d.weights P t) := by
  rcases DataW.trod_slice hu h with ⟨hcs, _⟩ | ⟨a', len, cap, elems, rest, n, _, hcs, hx, hb, hl, hm, hlen, hel, _, _⟩
  · exact ⟨[], none, 0, hcs, Nat.le_refl _, Nat.zero_le _, fun _ => by simp, .inl rfl⟩
  · injection hx with hd _
    subst hd
    rw [hc] at hel
    have hW : ∀ n, n ∈ (elems.map (·.1)).flatMap (fun d => d.weights P e) → n ∈ DataW.weights P t (.slice (elems.map (·.1)) (rest.map (·.1))) := fun n hn => by
      obtain ⟨d, hd, hn⟩ := List.mem_flatMap.1 hn
      simp only [DataW.weights, hu, List.mem_cons, List.mem_append]
      exact .inr (.inl (wgtAll_mem hd n hn))
    have hq : ∀ i, i < len → ∃ y : α, ∃ d' vs, R d' vs y ∧ vs.length = c ∧ (∀ j v, vs[j]? = some v → w.cell? ((a'.add (i * c)).add j) = some v) ∧ ∀ n ∈ d'.weights P e, n ∈ DataW.weights P t (.slice (elems.map (·.1)) (rest.map (·.1))) := fun i hi => by
      have h0 := hel i hi
      rw [List.getElem?_eq_getElem (by omega)] at h0
      obtain ⟨vs, h1, h2⟩ := Option.bind_eq_some_iff.1 h0
      obtain ⟨_, hcl, h3⟩ := World.cells?_some h1
      obtain ⟨y, hy⟩ := he n vs _ _ (by rw [h2])
      refine ⟨y, _, vs, hy, hcl, fun j v hv => ?_, fun n hn => hW n (List.mem_flatMap.2 ⟨_, List.mem_map.2 ⟨_, List.getElem_mem _, rfl⟩, hn⟩)⟩
      have hj : j < vs.length := (List.getElem?_eq_some_iff.1 hv).1
      rw [h3 j (by omega), hv]
    obtain ⟨l, hV, hp⟩ := list_of len hq
    refine ⟨l, some a', cap, by rw [hV]; exact hcs, by omega, by omega, fun hw => ?_, ?_⟩
    · have := hw ((elems.length + rest.length) * P.bytesOf e) (by simp [DataW.weights, hu])
      refine Nat.le_trans (Nat.mul_le_mul_right _ ?_) this
      omega
    · by_cases h0 : l = []
      · exact .inl h0
      · have hpos : 0 < l.length := List.length_pos_iff.2 h0
        obtain ⟨b, off, spot⟩ := a'
        obtain ⟨_, vs, _, hvl, hs0, _⟩ := hp 0 hpos
        have hs0 := hs0 0 vs[0] (List.getElem?_eq_getElem (by omega))
        have hspot : spot = none := by
          have := World.cell?_spot hs0
          cases spot with
          | none => rfl
          | some s => simp [Addr.add] at this
        subst hspot
        refine .inr ⟨b, off, rfl, ?_, fun j hj => ?_⟩
        · have := World.block_lt_of_cell? w _ hs0
          simpa [Addr.add] using this
        · obtain ⟨d', vs, h1, h2, h3, h4⟩ := hp j hj
          refine ⟨d', vs, h1, h2, fun i v hv => ?_, h4⟩
          have := h3 i v hv
          rwa [Addr.add_lit, Addr.add_lit] at this

theorem one_int {fuel n : Nat} {cs : List Value} {x : Option (DataW H × List MemPlace)} (h : DataW.trod enc Tryd.prog w base spare held fuel 3 ((cs.drop n).take 1) = x) (hx : x.isSome = true) : ∃ i, cs[n]? = some (.int .i64 i) := by
  obtain ⟨y, rfl⟩ := Option.isSome_iff_exists.1 hx
  obtain ⟨i, e, _⟩ := DataW.trod_int Tryd.underlying3 h
  refine ⟨i, ?_⟩
  have h0 : ((cs.drop n).take 1)[0]? = some (.int .i64 i) := by rw [e]; rfl
  simpa using h0
theorem one_bool {fuel n : Nat} {cs : List Value} {x : Option (DataW H × List MemPlace)} (h : DataW.trod enc Tryd.prog w base spare held fuel 4 ((cs.drop n).take 1) = x) (hx : x.isSome = true) : ∃ i, cs[n]? = some (.bool i) := by
  obtain ⟨y, rfl⟩ := Option.isSome_iff_exists.1 hx
  obtain ⟨i, e, _⟩ := DataW.trod_bool Tryd.underlying4 h
  refine ⟨i, ?_⟩
  have h0 : ((cs.drop n).take 1)[0]? = some (.bool i) := by rw [e]; rfl
  simpa using h0
theorem cells3 : Tryd.prog.cellsOf 3 = 1 := by kernel_rfl
theorem cells4 : Tryd.prog.cellsOf 4 = 1 := by kernel_rfl
theorem cells67 : Tryd.prog.cellsOf 84 = 4 := by kernel_rfl
theorem cells65 : Tryd.prog.cellsOf 95 = 2 := by kernel_rfl
theorem cells54 : Tryd.prog.cellsOf 52 = 1 := by kernel_rfl
theorem cells63 : Tryd.prog.cellsOf 71 = 1 := by kernel_rfl
theorem cells22 : Tryd.prog.cellsOf 41 = 1 := by kernel_rfl
theorem cells23 : Tryd.prog.cellsOf 42 = 1 := by kernel_rfl
theorem cells25 : Tryd.prog.cellsOf 44 = 2 := by kernel_rfl
theorem bytes67 : Tryd.prog.bytesOf 84 = 32 := by kernel_rfl
theorem bytes65 : Tryd.prog.bytesOf 95 = 32 := by kernel_rfl
theorem bytes54 : Tryd.prog.bytesOf 52 = 24 := by kernel_rfl

theorem op_of_trod {fuel : Nat} {cs : List Value} {d : DataW H} {ps : List MemPlace} (h : DataW.trod enc Tryd.prog w base spare held fuel 84 cs = some (d, ps)) :
    ∃ o : IOp, cs[0]? = some (.bool o.wr) ∧ cs[1]? = some (.int .i64 o.key) ∧ cs[2]? = some (.int .i64 o.frm) ∧ cs[3]? = some (.int .i64 o.num) := by
  obtain ⟨xs, n, _, _, _, hlen, hf⟩ := DataW.trod_struct Tryd.underlying84 h
  have hl : xs.length = 4 := hlen
  have f0 : DataW.trod enc Tryd.prog w base spare held n 4 ((cs.drop 0).take (Tryd.prog.cellsOf 4)) = xs[0]? := hf 0 _ rfl
  have f1 : DataW.trod enc Tryd.prog w base spare held n 3 ((cs.drop 1).take (Tryd.prog.cellsOf 3)) = xs[1]? := hf 1 _ rfl
  have f2 : DataW.trod enc Tryd.prog w base spare held n 3 ((cs.drop 2).take (Tryd.prog.cellsOf 3)) = xs[2]? := hf 2 _ rfl
  have f3 : DataW.trod enc Tryd.prog w base spare held n 3 ((cs.drop 3).take (Tryd.prog.cellsOf 3)) = xs[3]? := hf 3 _ rfl
  rw [cells4] at f0
  rw [cells3] at f1 f2 f3
  obtain ⟨b, e0⟩ := one_bool f0 (by rw [List.getElem?_eq_getElem (by omega)]; rfl)
  obtain ⟨k, e1⟩ := one_int f1 (by rw [List.getElem?_eq_getElem (by omega)]; rfl)
  obtain ⟨g, e2⟩ := one_int f2 (by rw [List.getElem?_eq_getElem (by omega)]; rfl)
  obtain ⟨m, e3⟩ := one_int f3 (by rw [List.getElem?_eq_getElem (by omega)]; rfl)
  exact ⟨⟨b, k, g, m⟩, e0, e1, e2, e3⟩
theorem iops_of_trod {fuel : Nat} {cs : List Value} {d : DataW H} {ps : List MemPlace} (h : DataW.trod enc Tryd.prog w base spare held fuel 71 cs = some (d, ps)) :
    ∃ (l : List IOp) (a : Option Addr) (cap : Nat), cs = [.slice a l.length cap] ∧ l.length ≤ cap ∧ l.length ≤ maxLen ∧ IOpsQ w a l ∧ ((∀ n ∈ d.weights Tryd.prog 71, n ≤ reachBytes) → l.length * 32 ≤ reachBytes) := by
  obtain ⟨l, a, cap, h1, h2, h3, h4, h5⟩ := row_of_trod (R := fun _ cs (o : IOp) => cs[0]? = some (.bool o.wr) ∧ cs[1]? = some (.int .i64 o.key) ∧ cs[2]? = some (.int .i64 o.frm) ∧ cs[3]? = some (.int .i64 o.num)) Tryd.underlying71 cells67 (by omega) (fun _ _ _ _ h => op_of_trod h) h
  refine ⟨l, a, cap, h1, h2, h3, ?_, by rw [bytes67] at h4; exact h4⟩
  rcases h5 with h5 | ⟨b, off, e, hb, h5⟩
  · exact .inl h5
  · refine .inr ⟨b, off, e, hb, fun k hk => ?_⟩
    obtain ⟨_, vs, ⟨q0, q1, q2, q3⟩, _, hq, _⟩ := h5 k hk
    exact ⟨hq 0 _ q0, hq 1 _ q1, hq 2 _ q2, hq 3 _ q3⟩
theorem ints_of_trod {fuel : Nat} {cs : List Value} {d : DataW H} {ps : List MemPlace} (h : DataW.trod enc Tryd.prog w base spare held fuel 52 cs = some (d, ps)) :
    ∃ (l : List Int) (a : Option Addr) (cap : Nat), cs = [.slice a l.length cap] ∧ l.length ≤ cap ∧ l.length ≤ maxLen ∧ IntsQ w a l := by
  obtain ⟨l, a, cap, h1, h2, h3, _, h5⟩ := row_of_trod (R := fun _ cs (o : Int) => cs = [.int .i64 o]) Tryd.underlying52 cells3 (by omega) (fun _ _ _ _ h => by
    obtain ⟨i, e, _⟩ := DataW.trod_int Tryd.underlying3 h
    exact ⟨i, e⟩) h
  refine ⟨l, a, cap, h1, h2, h3, ?_⟩
  rcases h5 with h5 | ⟨b, off, e, hb, h5⟩
  · exact .inl h5
  · refine .inr ⟨b, off, e, hb, fun k hk => ?_⟩
    obtain ⟨_, vs, q0, _, hq, _⟩ := h5 k hk
    have := hq 0 _ (by rw [q0]; rfl)
    rwa [Nat.mul_one] at this
/-- A transaction's two cells. -/
def TxCs (w : World) (d : DataW H) (cs : List Value) (t : ITx) : Prop :=
  ∃ a cap, cs[0]? = some (.slice a t.ops.length cap) ∧ t.ops.length ≤ cap ∧ t.ops.length ≤ maxLen ∧ IOpsQ w a t.ops ∧ cs[1]? = some (.bool t.com) ∧ ((∀ n ∈ d.weights Tryd.prog 95, n ≤ reachBytes) → t.ops.length * 32 ≤ reachBytes)
theorem tx_of_trod {fuel : Nat} {cs : List Value} {d : DataW H} {ps : List MemPlace} (h : DataW.trod enc Tryd.prog w base spare held fuel 95 cs = some (d, ps)) : ∃ t, TxCs w d cs t := by
  obtain ⟨y0, y1, n, hx, _, g0, g1⟩ := trod_struct2 Tryd.underlying95 h
  injection hx with hd _
  subst hd
  have f0 : DataW.trod enc Tryd.prog w base spare held n 71 ((cs.drop 0).take (Tryd.prog.cellsOf 71)) = some y0 := g0
  have f1 : DataW.trod enc Tryd.prog w base spare held n 4 ((cs.drop 1).take (Tryd.prog.cellsOf 4)) = some y1 := g1
  rw [cells63] at f0
  rw [cells4] at f1
  obtain ⟨b, e1⟩ := one_bool f1 rfl
  obtain ⟨l, a, cap, h1, h2, h3, h4, h5⟩ := iops_of_trod (d := y0.1) (ps := y0.2) f0
  have e0 : ((cs.drop 0).take 1)[0]? = some (.slice a l.length cap) := by rw [h1]; rfl
  refine ⟨⟨l, b⟩, a, cap, by simpa using e0, h2, h3, h4, e1, fun hw => h5 fun n hn => hw n ?_⟩
  simp only [DataW.weights, Tryd.underlying95]
  exact DataW.weights_mem_each (j := 0) (t := 71) (d := y0.1) rfl rfl n hn
theorem txs_of_trod {fuel : Nat} {cs : List Value} {d : DataW H} {ps : List MemPlace} (h : DataW.trod enc Tryd.prog w base spare held fuel 41 cs = some (d, ps)) :
    ∃ (l : List ITx) (a : Option Addr) (cap : Nat), cs = [.slice a l.length cap] ∧ l.length ≤ cap ∧ l.length ≤ maxLen ∧ ITxsQ w a l ∧ ((∀ n ∈ d.weights Tryd.prog 41, n ≤ reachBytes) → l.length * 32 ≤ reachBytes ∧ ∀ k (hk : k < l.length), l[k].ops.length * 32 ≤ reachBytes) := by
  obtain ⟨l, a, cap, h1, h2, h3, h4, h5⟩ := row_of_trod (R := TxCs w) Tryd.underlying41 cells65 (by omega) (fun _ _ _ _ h => tx_of_trod h) h
  rw [bytes65] at h4
  refine ⟨l, a, cap, h1, h2, h3, ?_, fun hw => ⟨h4 hw, fun k hk => ?_⟩⟩
  · rcases h5 with h5 | ⟨b, off, e, hb, h5⟩
    · exact .inl h5
    · refine .inr ⟨b, off, e, hb, fun k hk => ?_⟩
      obtain ⟨_, vs, ⟨a1, cap1, q0, q1, q2, q3, q4, _⟩, _, hq, _⟩ := h5 k hk
      exact ⟨a1, cap1, hq 0 _ q0, q1, q2, q3, hq 1 _ q4⟩
  · rcases h5 with h5 | ⟨b, off, e, hb, h5⟩
    · rw [h5] at hk; simp at hk
    · obtain ⟨d', vs, ⟨a1, cap1, q0, q1, q2, q3, q4, q5⟩, _, hq, hm⟩ := h5 k hk
      exact q5 fun n hn => hw n (hm n hn)
theorem rows_of_trod {fuel : Nat} {cs : List Value} {d : DataW H} {ps : List MemPlace} (h : DataW.trod enc Tryd.prog w base spare held fuel 42 cs = some (d, ps)) :
    ∃ (l : List (List Int)) (a : Option Addr) (cap : Nat), cs = [.slice a l.length cap] ∧ l.length ≤ cap ∧ l.length ≤ maxLen ∧ IRowsQ w a l ∧ ((∀ n ∈ d.weights Tryd.prog 42, n ≤ reachBytes) → l.length * 24 ≤ reachBytes) := by
  obtain ⟨l, a, cap, h1, h2, h3, h4, h5⟩ := row_of_trod (R := fun _ cs (o : List Int) => ∃ a cap, cs = [.slice a o.length cap] ∧ o.length ≤ cap ∧ o.length ≤ maxLen ∧ IntsQ w a o) Tryd.underlying42 cells54 (by omega) (fun _ _ _ _ h => ints_of_trod h) h
  rw [bytes54] at h4
  refine ⟨l, a, cap, h1, h2, h3, ?_, h4⟩
  rcases h5 with h5 | ⟨b, off, e, hb, h5⟩
  · exact .inl h5
  · refine .inr ⟨b, off, e, hb, fun k hk => ?_⟩
    obtain ⟨_, vs, ⟨a1, cap1, q0, q1, q2, q3⟩, _, hq, _⟩ := h5 k hk
    have := hq 0 _ (by rw [q0]; rfl)
    rw [Nat.mul_one] at this
    exact ⟨a1, cap1, this, q1, q2, q3⟩
theorem sty_of_Trod {v : Value} {d : DataW H} {ps : List MemPlace} (hv : ∃ cs, v = .agg cs ∧ cs.size = Tryd.prog.cellsOf 44) (h : DataW.Trod enc Tryd.prog w base spare held 44 v d ps) :
    ∃ (s : ISt) (a b : Option Addr) (ca cb : Nat), v = .agg #[.slice a s.txs.length ca, .slice b s.ord.length cb] ∧ StyQ w a ca b cb s ∧
      ((∀ n ∈ d.weights Tryd.prog 44, n ≤ reachBytes) → s.txs.length * 32 ≤ reachBytes ∧ (∀ k (hk : k < s.txs.length), s.txs[k].ops.length * 32 ≤ reachBytes) ∧ s.ord.length * 24 ≤ reachBytes) := by
  obtain ⟨fuel, hf⟩ := h
  obtain ⟨cs, rfl, hsz⟩ := hv
  rw [cells25] at hsz
  have hf' : DataW.trod enc Tryd.prog w base spare held fuel 44 cs.toList = some (d, ps) := by simpa [Value.cells] using hf
  obtain ⟨y0, y1, n, hx, _, k0, k1⟩ := trod_struct2 Tryd.underlying44 hf'
  injection hx with hd _
  subst hd
  have f0 : DataW.trod enc Tryd.prog w base spare held n 41 ((cs.toList.drop 0).take (Tryd.prog.cellsOf 41)) = some y0 := k0
  have f1 : DataW.trod enc Tryd.prog w base spare held n 42 ((cs.toList.drop 1).take (Tryd.prog.cellsOf 42)) = some y1 := k1
  rw [cells22] at f0
  rw [cells23] at f1
  obtain ⟨l, a, ca, h1, h2, h3, h4, h5⟩ := txs_of_trod (d := y0.1) (ps := y0.2) f0
  obtain ⟨o, b, cb, g1, g2, g3, g4, g5⟩ := rows_of_trod (d := y1.1) (ps := y1.2) f1
  have e0 : ((cs.toList.drop 0).take 1)[0]? = some (.slice a l.length ca) := by rw [h1]; rfl
  have e1 : ((cs.toList.drop 1).take 1)[0]? = some (.slice b o.length cb) := by rw [g1]; rfl
  refine ⟨⟨l, o⟩, a, b, ca, cb, ?_, ⟨h4, h2, h3, g4, g2, g3⟩, fun hw => ⟨(h5 fun n hn => hw n ?_).1, (h5 fun n hn => hw n ?_).2, g5 fun n hn => hw n ?_⟩⟩
  · refine congrArg Value.agg (Array.ext_getElem? fun i => ?_)
    rcases i with _ | _ | i
    · simpa using e0
    · simpa using e1
    · rw [Array.getElem?_eq_none (by omega), Array.getElem?_eq_none (by simp)]
  · simp only [DataW.weights, Tryd.underlying44]
    exact DataW.weights_mem_each (j := 0) (t := 41) (d := y0.1) rfl rfl n hn
  · simp only [DataW.weights, Tryd.underlying44]
    exact DataW.weights_mem_each (j := 0) (t := 41) (d := y0.1) rfl rfl n hn
  · simp only [DataW.weights, Tryd.underlying44]
    exact DataW.weights_mem_each (j := 1) (t := 42) (d := y1.1) rfl rfl n hn
end
end Go.Proofs.YtaopigjhdkdklaaDoor

namespace Go.Proofs.YtaopigjhdkdklaaDoor
open Go.ChangeShapes Go.WideShapes Go.ChangeAt Go.RowKit

section
variable {H : Type} {enc : TypeId × Value → H} {w : World} {base : Nat} {spare : Nat → Bool} {held : Bool}
theorem cells34 : Tryd.prog.cellsOf 34 = 3 := by kernel_rfl
theorem ask_of_trod {fuel : Nat} {cs : List Value} {d : DataW H} {ps : List MemPlace} (h : DataW.trod enc Tryd.prog w base spare held fuel 34 cs = some (d, ps)) :
    ∃ s : Int × Int × Int, cs[0]? = some (.int .i64 s.1) ∧ cs[1]? = some (.int .i64 s.2.1) ∧ cs[2]? = some (.int .i64 s.2.2) := by
  obtain ⟨xs, n, _, _, _, hlen, hf⟩ := DataW.trod_struct Tryd.underlying34 h
  have hl : xs.length = 3 := hlen
  have f0 : DataW.trod enc Tryd.prog w base spare held n 3 ((cs.drop 0).take (Tryd.prog.cellsOf 3)) = xs[0]? := hf 0 _ rfl
  have f1 : DataW.trod enc Tryd.prog w base spare held n 3 ((cs.drop 1).take (Tryd.prog.cellsOf 3)) = xs[1]? := hf 1 _ rfl
  have f2 : DataW.trod enc Tryd.prog w base spare held n 3 ((cs.drop 2).take (Tryd.prog.cellsOf 3)) = xs[2]? := hf 2 _ rfl
  rw [cells3] at f0 f1 f2
  obtain ⟨a, e0⟩ := one_int f0 (by rw [List.getElem?_eq_getElem (by omega)]; rfl)
  obtain ⟨b, e1⟩ := one_int f1 (by rw [List.getElem?_eq_getElem (by omega)]; rfl)
  obtain ⟨c, e2⟩ := one_int f2 (by rw [List.getElem?_eq_getElem (by omega)]; rfl)
  exact ⟨⟨a, b, c⟩, e0, e1, e2⟩
theorem asks_of_Trod {a : Option Addr} {len cap : Nat} {d : DataW H} {ps : List MemPlace} (h : DataW.Trod enc Tryd.prog w base spare held 22 (.slice a len cap) d ps) :
    ∃ l : List (Int × Int × Int), l.length = len ∧ l.length ≤ maxLen ∧ AsksQ w a l := by
  obtain ⟨fuel, hf⟩ := h
  have h : DataW.trod enc Tryd.prog w base spare held fuel 22 [.slice a len cap] = some (d, ps) := by simpa [Value.cells] using hf
  obtain ⟨l, a', cap', h1, h2, h3, _, h5⟩ := row_of_trod (R := fun _ cs (s : Int × Int × Int) => cs[0]? = some (.int .i64 s.1) ∧ cs[1]? = some (.int .i64 s.2.1) ∧ cs[2]? = some (.int .i64 s.2.2)) Tryd.underlying22 cells34 (by omega) (fun _ _ _ _ h => ask_of_trod h) h
  simp at h1
  obtain ⟨rfl, rfl, rfl⟩ := h1
  refine ⟨l, rfl, h3, ?_⟩
  rcases h5 with h5 | ⟨b, off, e, hb, h5⟩
  · exact .inl h5
  · refine .inr ⟨b, off, e, hb, fun k hk => ?_⟩
    obtain ⟨_, vs, ⟨q0, q1, q2⟩, _, hq, _⟩ := h5 k hk
    exact ⟨hq 0 _ q0, hq 1 _ q1, hq 2 _ q2⟩
end
end Go.Proofs.YtaopigjhdkdklaaDoor

namespace Go.Proofs.YtaopigjhdkdklaaDoor
open Go.ChangeShapes Go.WideShapes Go.ChangeAt Go.RowKit

theorem gErr : Tryd.prog.globalNamed "errors.errorType" = some 0 := by kernel_rfl
theorem tRt : (Tryd.prog.cutTypes.find? (·.1 == "internal/reflectlite.rtype")).map (·.2) = some 163 := by kernel_rfl
theorem oneRow : ((List.range 206).filter fun t => Tryd.prog.rowNamed t [101, 114, 114, 111, 114]) = [25] := by kernel_rfl
theorem sizeT : Tryd.prog.types.size = 206 := by kernel_rfl

def laidG : List (String × DataW Unit) := [("errors.errorType", Rows.laid_errors_errorType)]
theorem handle_in {L : List (String × DataW Unit)} {W : World} (hm : ("errors.errorType", Rows.laid_errors_errorType) ∈ L) (h : laidMetH Tryd.prog L W) : W.cell? ⟨0, 0, none⟩ = some (.iface 163 (.agg #[.pointer (some ⟨1, 25, none⟩)])) := by
  obtain ⟨name, u, ty, e1, e2, e3, e4, e5⟩ := (laidMetH_iff.1 h).2 _ (List.mem_filter.2 ⟨hm, rfl⟩)
  have en : name = [101, 114, 114, 111, 114] := (Option.some.inj e1).symm
  subst en
  obtain rfl := Option.some.inj (tRt.symm.trans e2)
  have hm : ty ∈ (List.range 206).filter fun t => Tryd.prog.rowNamed t [101, 114, 114, 111, 114] := List.mem_filter.2 ⟨List.mem_range.2 (by rw [← sizeT]; exact e3), e4⟩
  rw [oneRow] at hm
  obtain rfl := List.mem_singleton.1 hm
  have hh : typeHandle Tryd.prog 25 = .pointer (some ⟨1, 25, none⟩) := by kernel_rfl
  rw [hh] at e5
  exact (by simpa using World.var?_cell gErr e5 0 : W.cell? ⟨0, 0, none⟩ = some (.iface 163 (.agg #[.pointer (some ⟨1, 25, none⟩)])))
theorem glE_of {W : World} (h : laidMetH Tryd.prog laidG W) : GlE W := ⟨World.block_lt_of_cell? W _ (handle_in (by simp [laidG]) h), handle_in (by simp [laidG]) h⟩
end Go.Proofs.YtaopigjhdkdklaaDoor
