/-
  Small facts on memory that each walk uses.
  What came in, opened: lists, element by element.
  Moves in memory.
  Moves, setups and stamps that came in, opened.
-/
import Derived.Test.YtncnojgemmcplaaGreatDoorProg
import Derived.WalkKit
import Derived.WalkSpells
import Derived.WalkLawsBesides
import Derived.Deep.RegionWith
import Derived.Deep.RegionHeld3
import Derived.LoopTactic
import Derived.Deep.Draws
import Derived.Maps.OwnOps
import Derived.Laws.MakeOwn
import Derived.Deep.MidRow
import Derived.Laws.ResultCell
import Derived.Deep.QuietTactic
import Derived.BigQuiet
import Derived.Test.YtncnojgemmcplaaGreatDoorRows
import Derived.ProofKit
import Derived.ChangeOld
import Derived.Below
import Derived.LaidMore
import Derived.LaidSub
import Derived.OpenShut
import Derived.Stop.Joined
import Derived.Deep.Slices
import Derived.SizedLaws
import Derived.Lib.SmallJoins
namespace Go.Proofs.YtncnojgemmcplaaGreatDoor.St
open Go.RowKit

theorem hideIt {p : Prop} (h : p) : Hid p := h
theorem belJ {w W w1 : World} (h : Below w.heap.size w W) (hb : Below W.heap.size W w1) : Below w.heap.size w w1 := h.trans (hb.mono h.size)
theorem belA {w W : World} (h : Below w.heap.size w W) (o : Obj) : Below w.heap.size w (W.alloc o) := h.alloc h.size o
theorem ret_bool {a b : Bool} (h : a = b) : Ending.returned (.bool a) = .returned (.bool b) := by rw [h]
theorem ret_int {a b : Int} (h : a = b) : Ending.returned (.int .i64 a) = .returned (.int .i64 b) := by rw [h]
theorem info_parts' {t : TypeId} {z : Value} {s b : Nat} (h : (Tryz.prog.info? t).map (fun i => (i.zero, i.size, i.bytes)) = some (some z, s, b)) : ∃ i, Tryz.prog.info? t = some i ∧ i.zero = some z ∧ i.size = s ∧ i.bytes = b := by
  cases hi : Tryz.prog.info? t with
  | none => simp [hi] at h
  | some i => simp [hi] at h; exact ⟨i, rfl, h.1, h.2.1, h.2.2⟩
theorem offN {g a b : Nat} (h : a ≠ b) : (⟨g, a, none⟩ : Addr) ≠ ⟨g, b, none⟩ := fun e => h (by injection e)
end Go.Proofs.YtncnojgemmcplaaGreatDoor.St

namespace Go.Proofs.YtncnojgemmcplaaGreatDoor
open Go.ChangeShapes Go.WideShapes Go.ChangeAt Go.RowKit

/-- A list made of what there is at each number. -/
theorem list_of {α : Type} {p : Nat → α → Prop} (n : Nat) (h : ∀ i, i < n → ∃ x, p i x) : ∃ l : List α, l.length = n ∧ ∀ i, (hi : i < l.length) → p i l[i] := by
  induction n with
  | zero => exact ⟨[], rfl, fun i hi => absurd hi (Nat.not_lt_zero _)⟩
  | succ n ih =>
    obtain ⟨l, hl, hp⟩ := ih fun i hi => h i (by omega)
    obtain ⟨x, hx⟩ := h n (by omega)
    refine ⟨l ++ [x], by simp [hl], fun i hi => ?_⟩
    by_cases e : i < l.length
    · rw [List.getElem_append_left e]; exact hp i e
    · have : i = n := by simp at hi; omega
      subst this
      rw [List.getElem_append_right (by omega)]
      simp [hl]; exact hx

theorem own : ownKnob Tryz.prog.godebug = none := by kernel_rfl
theorem laidOut : laidOutB Tryz.prog = true := by kernel_rfl

section
variable {H : Type} {enc : TypeId × Value → H} {w : World} {base : Nat} {spare : Nat → Bool} {held : Bool}

/-- What came in reads behind the call as before, where nothing of it was written. -/
theorem trodAll_belowP {P : Program} (hl : laidOutB P = true) {W W' : World} (hb : Below W.heap.size W W') : ∀ {ts : List TypeId} {vs : List Value} {ds : List (DataW H)} {p : List MemPlace}, (∀ t ∈ ts, P.readableRec t = true ∧ t < P.types.size) → DataW.TrodAll enc P W 0 (fun _ => true) true ts vs ds p →
    DataW.TrodAll enc P W' 0 (fun b => decide (b < W.heap.size)) true ts vs ds p
  | [], vs, ds, p, _, h => by obtain ⟨rfl, rfl, rfl⟩ := trodAll_nil h; exact trodAll_mk0
  | t :: ts, vs, ds, p, hr, h => by
    obtain ⟨v, vs', d, ds', p1, p2, rfl, rfl, rfl, h1, h2⟩ := trodAll_cons h
    refine trodAll_cons_mk (Below.trod hl (hr t (List.mem_cons_self ..)).1 (hr t (List.mem_cons_self ..)).2 h1 hb ?_) (trodAll_belowP hl hb (fun u hu => hr u (List.mem_cons_of_mem _ hu)) h2)
    obtain ⟨m, h1⟩ := h1
    exact DataW.trod_lt m _ _ _ h1

theorem wgtAll_mem {P : Program} {e : TypeId} : ∀ {l : List (DataW H)} {d : DataW H}, d ∈ l → ∀ n ∈ d.weights P e, n ∈ DataW.weightsAll P e l
  | x :: l, d, hd, n, hn => by
    simp only [DataW.weightsAll, List.mem_append]
    rcases List.mem_cons.1 hd with rfl | hd
    · exact .inl hn
    · exact .inr (wgtAll_mem hd n hn)

/-- A list that came in: each element by its own reading. -/
theorem row_of_trod {P : Program} {t e : TypeId} {c : Nat} {α : Type} {R : DataW H → List Value → α → Prop} (hu : P.underlying t = some (.slice e)) (hc : P.cellsOf e = c) (hc1 : 1 ≤ c)
    (he : ∀ fuel vs d ps, DataW.trod enc P w base spare held fuel e vs = some (d, ps) → ∃ y, R d vs y) {fuel : Nat} {cs : List Value} {d : DataW H} {ps : List MemPlace} (h : DataW.trod enc P w base spare held fuel t cs = some (d, ps)) :
    ∃ (l : List α) (a : Option Addr) (cap : Nat), cs = [.slice a l.length cap] ∧ l.length ≤ cap ∧ l.length ≤ maxLen ∧ ((∀ n ∈ d.weights P t, n ≤ reachBytes) → l.length * P.bytesOf e ≤ reachBytes) ∧
      (l = [] ∨ ∃ b off, a = some ⟨b, off, none⟩ ∧ b < w.heap.size ∧ ∀ k (hk : k < l.length), ∃ d' vs, R d' vs l[k] ∧ vs.length = c ∧ (∀ j v, vs[j]? = some v → w.cell? ⟨b, off + k * c + j, none⟩ = some v) ∧ ∀ n ∈ d'.weights P e, n ∈ d.weights P t) := by
  rcases DataW.trod_slice hu h with ⟨hcs, _⟩ | ⟨a', len, cap, elems, rest, n, _, hcs, hx, hb, hl, hm, hlen, hel, _, _⟩
  · exact ⟨[], none, 0, hcs, Nat.le_refl _, Nat.zero_le _, fun _ => by simp, .inl rfl⟩
  · injection hx with hd _
    subst hd
    rw [hc] at hel
    have hW : ∀ n, n ∈ (elems.map (·.1)).flatMap (fun d => d.weights P e) → n ∈ DataW.weights P t (.slice (elems.map (·.1)) (rest.map (·.1))) := fun n hn => by
      obtain ⟨d, hd, hn⟩ := List.mem_flatMap.1 hn
      simp only [DataW.weights, hu, List.mem_cons, List.mem_append]
      exact .inr (.inl (wgtAll_mem hd n hn))
    have hq : ∀ i, i < len → ∃ y : α, ∃ d' vs, R d' vs y ∧ vs.length = c ∧ (∀ j v, vs[j]? = some v → w.cell? ((a'.add (i * c)).add j) = some v) ∧ ∀ n ∈ d'.weights P e, n ∈ DataW.weights P t (.slice (elems.map (·.1)) (rest.map (·.1))) := fun i hi => by
      have h0 := hel i hi
      rw [List.getElem?_eq_getElem (by omega)] at h0
      obtain ⟨vs, h1, h2⟩ := Option.bind_eq_some_iff.1 h0
      obtain ⟨_, hcl, h3⟩ := World.cells?_some h1
      obtain ⟨y, hy⟩ := he n vs _ _ (by rw [h2])
      refine ⟨y, _, vs, hy, hcl, fun j v hv => ?_, fun n hn => hW n (List.mem_flatMap.2 ⟨_, List.mem_map.2 ⟨_, List.getElem_mem _, rfl⟩, hn⟩)⟩
      have hj : j < vs.length := (List.getElem?_eq_some_iff.1 hv).1
      rw [h3 j (by omega), hv]
    obtain ⟨l, hV, hp⟩ := list_of len hq
    refine ⟨l, some a', cap, by rw [hV]; exact hcs, by omega, by omega, fun hw => ?_, ?_⟩
    · have := hw ((elems.length + rest.length) * P.bytesOf e) (by simp [DataW.weights, hu])
      refine Nat.le_trans (Nat.mul_le_mul_right _ ?_) this
      omega
    · by_cases h0 : l = []
      · exact .inl h0
      · have hpos : 0 < l.length := List.length_pos_iff.2 h0
        obtain ⟨b, off, spot⟩ := a'
        obtain ⟨_, vs, _, hvl, hs0, _⟩ := hp 0 hpos
        have hs0 := hs0 0 vs[0] (List.getElem?_eq_getElem (by omega))
        have hspot : spot = none := by
          have := World.cell?_spot hs0
          cases spot with
          | none => rfl
          | some s => simp [Addr.add] at this
        subst hspot
        refine .inr ⟨b, off, rfl, ?_, fun j hj => ?_⟩
        · have := World.block_lt_of_cell? w _ hs0
          simpa [Addr.add] using this
        · obtain ⟨d', vs, h1, h2, h3, h4⟩ := hp j hj
          refine ⟨d', vs, h1, h2, fun i v hv => ?_, h4⟩
          have := h3 i v hv
          rwa [Addr.add_lit, Addr.add_lit] at this

theorem one_int {fuel n : Nat} {cs : List Value} {x : Option (DataW H × List MemPlace)} (h : DataW.trod enc Tryz.prog w base spare held fuel 3 ((cs.drop n).take 1) = x) (hx : x.isSome = true) : ∃ i, cs[n]? = some (.int .i64 i) := by
  obtain ⟨y, rfl⟩ := Option.isSome_iff_exists.1 hx
  obtain ⟨i, e, _⟩ := DataW.trod_int Tryz.underlying3 h
  refine ⟨i, ?_⟩
  have h0 : ((cs.drop n).take 1)[0]? = some (.int .i64 i) := by rw [e]; rfl
  simpa using h0
theorem one_bool {fuel n : Nat} {cs : List Value} {x : Option (DataW H × List MemPlace)} (h : DataW.trod enc Tryz.prog w base spare held fuel 4 ((cs.drop n).take 1) = x) (hx : x.isSome = true) : ∃ i, cs[n]? = some (.bool i) := by
  obtain ⟨y, rfl⟩ := Option.isSome_iff_exists.1 hx
  obtain ⟨i, e, _⟩ := DataW.trod_bool Tryz.underlying4 h
  refine ⟨i, ?_⟩
  have h0 : ((cs.drop n).take 1)[0]? = some (.bool i) := by rw [e]; rfl
  simpa using h0
theorem cells3 : Tryz.prog.cellsOf 3 = 1 := by kernel_rfl
theorem cells4 : Tryz.prog.cellsOf 4 = 1 := by kernel_rfl
end
end Go.Proofs.YtncnojgemmcplaaGreatDoor

namespace Go.Proofs.YtncnojgemmcplaaGreatDoor
open Go.RowKit

/-- A move: what, and three numbers. -/
structure Mvs where
  what : Int
  a : Int
  b : Int
  c : Int
def MvAt (w : World) (g o : Nat) (m : Mvs) : Prop := w.cell? ⟨g, o, none⟩ = some (.int .i64 m.what) ∧ w.cell? ⟨g, o + 1, none⟩ = some (.int .i64 m.a) ∧ w.cell? ⟨g, o + 2, none⟩ = some (.int .i64 m.b) ∧ w.cell? ⟨g, o + 3, none⟩ = some (.int .i64 m.c)
/-- A list of moves that is read. -/
def MvsQ (w : World) (a : Option Addr) (l : List Mvs) : Prop := l = [] ∨ ∃ g off, a = some ⟨g, off, none⟩ ∧ g < w.heap.size ∧ ∀ k (h : k < l.length), MvAt w g (off + k * 4) l[k]
theorem MvsQ.at {w : World} {a : Option Addr} {l : List Mvs} (h : MvsQ w a l) {k : Nat} (hk : k < l.length) : ∃ g off, a = some ⟨g, off, none⟩ ∧ g < w.heap.size ∧ MvAt w g (off + k * 4) l[k] := by
  rcases h with rfl | ⟨g, off, e, hg, h⟩
  · simp at hk
  · exact ⟨g, off, e, hg, h k hk⟩
theorem MvsQ.below {w w' : World} {a : Option Addr} {l : List Mvs} (h : MvsQ w a l) (hb : Below w.heap.size w w') : MvsQ w' a l :=
  h.imp id fun ⟨g, off, e, hg, h⟩ => ⟨g, off, e, Nat.lt_of_lt_of_le hg hb.size, fun k hk => by
    obtain ⟨h0, h1, h2, h3⟩ := h k hk
    exact ⟨(hb.cell (p := ⟨g, off + k * 4, none⟩) hg).trans h0, (hb.cell (p := ⟨g, off + k * 4 + 1, none⟩) hg).trans h1, (hb.cell (p := ⟨g, off + k * 4 + 2, none⟩) hg).trans h2, (hb.cell (p := ⟨g, off + k * 4 + 3, none⟩) hg).trans h3⟩⟩
end Go.Proofs.YtncnojgemmcplaaGreatDoor

namespace Go.Proofs.YtncnojgemmcplaaGreatDoor
open Go.ChangeShapes Go.WideShapes Go.ChangeAt Go.RowKit

section
variable {H : Type} {enc : TypeId × Value → H} {w : World} {base : Nat} {spare : Nat → Bool} {held : Bool}
theorem cellsMv : Tryz.prog.cellsOf 35 = 4 := by kernel_rfl
theorem mv_of_trod {fuel : Nat} {cs : List Value} {d : DataW H} {ps : List MemPlace} (h : DataW.trod enc Tryz.prog w base spare held fuel 35 cs = some (d, ps)) :
    ∃ s : Mvs, cs[0]? = some (.int .i64 s.what) ∧ cs[1]? = some (.int .i64 s.a) ∧ cs[2]? = some (.int .i64 s.b) ∧ cs[3]? = some (.int .i64 s.c) := by
  obtain ⟨xs, n, _, _, _, hlen, hf⟩ := DataW.trod_struct Tryz.underlying35 h
  have hl : xs.length = 4 := hlen
  have f0 : DataW.trod enc Tryz.prog w base spare held n 3 ((cs.drop 0).take (Tryz.prog.cellsOf 3)) = xs[0]? := hf 0 _ rfl
  have f1 : DataW.trod enc Tryz.prog w base spare held n 3 ((cs.drop 1).take (Tryz.prog.cellsOf 3)) = xs[1]? := hf 1 _ rfl
  have f2 : DataW.trod enc Tryz.prog w base spare held n 3 ((cs.drop 2).take (Tryz.prog.cellsOf 3)) = xs[2]? := hf 2 _ rfl
  have f3 : DataW.trod enc Tryz.prog w base spare held n 3 ((cs.drop 3).take (Tryz.prog.cellsOf 3)) = xs[3]? := hf 3 _ rfl
  rw [cells3] at f0 f1 f2 f3
  obtain ⟨a, e0⟩ := one_int f0 (by rw [List.getElem?_eq_getElem (by omega)]; rfl)
  obtain ⟨b, e1⟩ := one_int f1 (by rw [List.getElem?_eq_getElem (by omega)]; rfl)
  obtain ⟨c, e2⟩ := one_int f2 (by rw [List.getElem?_eq_getElem (by omega)]; rfl)
  obtain ⟨d, e3⟩ := one_int f3 (by rw [List.getElem?_eq_getElem (by omega)]; rfl)
  exact ⟨⟨a, b, c, d⟩, e0, e1, e2, e3⟩
theorem mvs_of_Trod {a : Option Addr} {len cap : Nat} {d : DataW H} {ps : List MemPlace} (h : DataW.Trod enc Tryz.prog w base spare held 24 (.slice a len cap) d ps) :
    ∃ l : List Mvs, l.length = len ∧ l.length ≤ maxLen ∧ MvsQ w a l := by
  obtain ⟨fuel, hf⟩ := h
  have h : DataW.trod enc Tryz.prog w base spare held fuel 24 [.slice a len cap] = some (d, ps) := by simpa [Value.cells] using hf
  obtain ⟨l, a', cap', h1, h2, h3, _, h5⟩ := row_of_trod (R := fun _ cs (s : Mvs) => cs[0]? = some (.int .i64 s.what) ∧ cs[1]? = some (.int .i64 s.a) ∧ cs[2]? = some (.int .i64 s.b) ∧ cs[3]? = some (.int .i64 s.c)) Tryz.underlying24 cellsMv (by omega) (fun _ _ _ _ h => mv_of_trod h) h
  simp at h1
  obtain ⟨rfl, rfl, rfl⟩ := h1
  refine ⟨l, rfl, h3, ?_⟩
  rcases h5 with h5 | ⟨b, off, e, hb, h5⟩
  · exact .inl h5
  · refine .inr ⟨b, off, e, hb, fun k hk => ?_⟩
    obtain ⟨_, vs, ⟨q0, q1, q2, q3⟩, _, hq, _⟩ := h5 k hk
    exact ⟨hq 0 _ q0, hq 1 _ q1, hq 2 _ q2, hq 3 _ q3⟩
theorem cellsSu : Tryz.prog.cellsOf 23 = 5 := by kernel_rfl
theorem setup_of_Trod {v : Value} {d : DataW H} {ps : List MemPlace} (hv : ∃ cs, v = .agg cs ∧ cs.size = Tryz.prog.cellsOf 23) (h : DataW.Trod enc Tryz.prog w base spare held 23 v d ps) : ∃ (n k a t : Int) (b : Bool), v = .agg #[.int .i64 n, .int .i64 k, .int .i64 a, .int .i64 t, .bool b] := by
  obtain ⟨cs, rfl, _⟩ := hv
  obtain ⟨fuel, hf0⟩ := h
  have h : DataW.trod enc Tryz.prog w base spare held fuel 23 cs.toList = some (d, ps) := by simpa [Value.cells] using hf0
  obtain ⟨xs, n, _, _, hl, hlen, hf⟩ := DataW.trod_struct Tryz.underlying23 h
  rw [cellsSu] at hl
  have hsome : ∀ i, i < 5 → xs[i]?.isSome = true := fun i hi => by
    rw [List.getElem?_eq_getElem (by rw [hlen]; exact hi)]; rfl
  have f0 : DataW.trod enc Tryz.prog w base spare held n 3 ((cs.toList.drop 0).take (Tryz.prog.cellsOf 3)) = xs[0]? := hf 0 _ rfl
  have f1 : DataW.trod enc Tryz.prog w base spare held n 3 ((cs.toList.drop 1).take (Tryz.prog.cellsOf 3)) = xs[1]? := hf 1 _ rfl
  have f2 : DataW.trod enc Tryz.prog w base spare held n 3 ((cs.toList.drop 2).take (Tryz.prog.cellsOf 3)) = xs[2]? := hf 2 _ rfl
  have f3 : DataW.trod enc Tryz.prog w base spare held n 3 ((cs.toList.drop 3).take (Tryz.prog.cellsOf 3)) = xs[3]? := hf 3 _ rfl
  have f4 : DataW.trod enc Tryz.prog w base spare held n 4 ((cs.toList.drop 4).take (Tryz.prog.cellsOf 4)) = xs[4]? := hf 4 _ rfl
  rw [cells3] at f0 f1 f2 f3
  rw [cells4] at f4
  obtain ⟨i0, e0⟩ := one_int f0 (hsome 0 (by decide))
  obtain ⟨i1, e1⟩ := one_int f1 (hsome 1 (by decide))
  obtain ⟨i2, e2⟩ := one_int f2 (hsome 2 (by decide))
  obtain ⟨i3, e3⟩ := one_int f3 (hsome 3 (by decide))
  obtain ⟨i4, e4⟩ := one_bool f4 (hsome 4 (by decide))
  obtain ⟨c0, c1, c2, c3, c4, hcs⟩ : ∃ c0 c1 c2 c3 c4, cs.toList = [c0, c1, c2, c3, c4] := by
    match cs.toList, hl with
    | [c0, c1, c2, c3, c4], _ => exact ⟨c0, c1, c2, c3, c4, rfl⟩
  rw [hcs] at e0 e1 e2 e3 e4
  simp at e0 e1 e2 e3 e4
  have : cs = #[c0, c1, c2, c3, c4] := by rw [← Array.toArray_toList (xs := cs), hcs]
  exact ⟨i0, i1, i2, i3, i4, by rw [this, e0, e1, e2, e3, e4]⟩
end
end Go.Proofs.YtncnojgemmcplaaGreatDoor
