/-
  A plan and picks that came in, opened, with how many bytes their lists take.
  A plan that came in, opened, with its bulk: how many picks the whole plan makes is at most what it takes.
-/
import Derived.Test.YthmiocbihhbdpaaRows
import Derived.Test.YthmiocbihhbdpaaKtW
import Derived.Test.YthmiocbihhbdpaaKtPZ
import Derived.ProofKit
import Derived.OpenShut
import Derived.Stop.Joined
import Derived.Deep.Slices
import Derived.SizedLaws
import Derived.Lib.SmallJoins
namespace Go.Proofs.Ythmiocbihhbdpaa
open Go.ChangeShapes Go.WideShapes Go.ChangeAt Go.RowKit

/-- A list made of what there is at each number. -/
theorem list_of {α : Type} {p : Nat → α → Prop} (n : Nat) (h : ∀ i, i < n → ∃ x, p i x) : ∃ l : List α, l.length = n ∧ ∀ i, (hi : i < l.length) → p i l[i] := by
  induction n with
  | zero => exact ⟨[], rfl, fun i hi => absurd hi (Nat.not_lt_zero _)⟩
  | succ n ih =>
    obtain ⟨l, hl, hp⟩ := ih fun i hi => h i (by omega)
    obtain ⟨x, hx⟩ := h n (by omega)
    refine ⟨l ++ [x], by simp [hl], fun i hi => ?_⟩
    by_cases e : i < l.length
    · rw [List.getElem_append_left e]; exact hp i e
    · have : i = n := by simp at hi; omega
      subst this
      rw [List.getElem_append_right (by omega)]
      simp [hl]; exact hx

theorem own : ownKnob Try.prog.godebug = none := by kernel_rfl
theorem laidOut : laidOutB Try.prog = true := by kernel_rfl

section
variable {H : Type} {enc : TypeId × Value → H} {w : World} {base : Nat} {spare : Nat → Bool} {held : Bool}
theorem trodAll_lt {W : World} : ∀ {ts : List TypeId} {vs : List Value} {ds : List (DataW H)} {p : List MemPlace}, DataW.TrodAll enc Try.prog W 0 (fun _ => true) true ts vs ds p → ∀ x ∈ p, x.block < W.heap.size
  | [], vs, ds, p, h => by obtain ⟨_, _, rfl⟩ := trodAll_nil h; simp
  | t :: ts, vs, ds, p, h => by
    obtain ⟨v, vs', d, ds', p1, p2, rfl, rfl, rfl, ⟨m, h1⟩, h2⟩ := trodAll_cons h
    intro x hx
    rcases List.mem_append.1 hx with hx | hx
    · exact DataW.trod_lt m _ _ _ h1 x hx
    · exact trodAll_lt h2 x hx

/-- What came in reads behind the call as before, where nothing of it was written. -/
theorem trodAll_belowP {P : Program} (hl : laidOutB P = true) {W W' : World} (hb : Below W.heap.size W W') : ∀ {ts : List TypeId} {vs : List Value} {ds : List (DataW H)} {p : List MemPlace}, (∀ t ∈ ts, P.readableRec t = true ∧ t < P.types.size) → DataW.TrodAll enc P W 0 (fun _ => true) true ts vs ds p →
    DataW.TrodAll enc P W' 0 (fun b => decide (b < W.heap.size)) true ts vs ds p
  | [], vs, ds, p, _, h => by obtain ⟨rfl, rfl, rfl⟩ := trodAll_nil h; exact trodAll_mk0
  | t :: ts, vs, ds, p, hr, h => by
    obtain ⟨v, vs', d, ds', p1, p2, rfl, rfl, rfl, h1, h2⟩ := trodAll_cons h
    refine trodAll_cons_mk (Below.trod hl (hr t (List.mem_cons_self ..)).1 (hr t (List.mem_cons_self ..)).2 h1 hb ?_) (trodAll_belowP hl hb (fun u hu => hr u (List.mem_cons_of_mem _ hu)) h2)
    obtain ⟨m, h1⟩ := h1
    exact DataW.trod_lt m _ _ _ h1

theorem wgtAll_mem {P : Program} {e : TypeId} : ∀ {l : List (DataW H)} {d : DataW H}, d ∈ l → ∀ n ∈ d.weights P e, n ∈ DataW.weightsAll P e l
  | x :: l, d, hd, n, hn => by
    simp only [DataW.weightsAll, List.mem_append]
    rcases List.mem_cons.1 hd with rfl | hd
    · exact .inl hn
    · exact .inr (wgtAll_mem hd n hn)

/-- A list that came in: each element by its own reading. -/
theorem row_of_trod {P : Program} {t e : TypeId} {c : Nat} {α : Type} {R : DataW H → List Value → α → Prop} (hu : P.underlying t = some (.slice e)) (hc : P.cellsOf e = c) (hc1 : 1 ≤ c)
    (he : ∀ fuel vs d ps, DataW.trod enc P w base spare held fuel e vs = some (d, ps) → ∃ y, R d vs y) {fuel : Nat} {cs : List Value} {d : DataW H} {ps : List MemPlace} (h : DataW.trod enc P w base spare held fuel t cs = some (d, ps)) :
    ∃ (l : List α) (a : Option Addr) (cap : Nat), cs = [.slice a l.length cap] ∧ l.length ≤ cap ∧ l.length ≤ maxLen ∧ ((∀ n ∈ d.weights P t, n ≤ reachBytes) → l.length * P.bytesOf e ≤ reachBytes) ∧
      (l = [] ∨ ∃ b off, a = some ⟨b, off, none⟩ ∧ b < w.heap.size ∧ ∀ k (hk : k < l.length), ∃ d' vs, R d' vs l[k] ∧ vs.length = c ∧ (∀ j v, vs[j]? = some v → w.cell? ⟨b, off + k * c + j, none⟩ = some v) ∧ ∀ n ∈ d'.weights P e, n ∈ d.weights P t) := by
  rcases DataW.trod_slice hu h with ⟨hcs, _⟩ | ⟨a', len, cap, elems, rest, n, _, hcs, hx, hb, hl, hm, hlen, hel, _, _⟩
  · exact ⟨[], none, 0, hcs, Nat.le_refl _, Nat.zero_le _, fun _ => by simp, .inl rfl⟩
  · injection hx with hd _
    subst hd
    rw [hc] at hel
    have hW : ∀ n, n ∈ (elems.map (·.1)).flatMap (fun d => d.weights P e) → n ∈ DataW.weights P t (.slice (elems.map (·.1)) (rest.map (·.1))) := fun n hn => by
      obtain ⟨d, hd, hn⟩ := List.mem_flatMap.1 hn
      simp only [DataW.weights, hu, List.mem_cons, List.mem_append]
      exact .inr (.inl (wgtAll_mem hd n hn))
    have hq : ∀ i, i < len → ∃ y : α, ∃ d' vs, R d' vs y ∧ vs.length = c ∧ (∀ j v, vs[j]? = some v → w.cell? ((a'.add (i * c)).add j) = some v) ∧ ∀ n ∈ d'.weights P e, n ∈ DataW.weights P t (.slice (elems.map (·.1)) (rest.map (·.1))) := fun i hi => by
      have h0 := hel i hi
      rw [List.getElem?_eq_getElem (by omega)] at h0
      obtain ⟨vs, h1, h2⟩ := Option.bind_eq_some_iff.1 h0
      obtain ⟨_, hcl, h3⟩ := World.cells?_some h1
      obtain ⟨y, hy⟩ := he n vs _ _ (by rw [h2])
      refine ⟨y, _, vs, hy, hcl, fun j v hv => ?_, fun n hn => hW n (List.mem_flatMap.2 ⟨_, List.mem_map.2 ⟨_, List.getElem_mem _, rfl⟩, hn⟩)⟩
      have hj : j < vs.length := (List.getElem?_eq_some_iff.1 hv).1
      rw [h3 j (by omega), hv]
    obtain ⟨l, hV, hp⟩ := list_of len hq
    refine ⟨l, some a', cap, by rw [hV]; exact hcs, by omega, by omega, fun hw => ?_, ?_⟩
    · have := hw ((elems.length + rest.length) * P.bytesOf e) (by simp [DataW.weights, hu])
      refine Nat.le_trans (Nat.mul_le_mul_right _ ?_) this
      omega
    · by_cases h0 : l = []
      · exact .inl h0
      · have hpos : 0 < l.length := List.length_pos_iff.2 h0
        obtain ⟨b, off, spot⟩ := a'
        obtain ⟨_, vs, _, hvl, hs0, _⟩ := hp 0 hpos
        have hs0 := hs0 0 vs[0] (List.getElem?_eq_getElem (by omega))
        have hspot : spot = none := by
          have := World.cell?_spot hs0
          cases spot with
          | none => rfl
          | some s => simp [Addr.add] at this
        subst hspot
        refine .inr ⟨b, off, rfl, ?_, fun j hj => ?_⟩
        · have := World.block_lt_of_cell? w _ hs0
          simpa [Addr.add] using this
        · obtain ⟨d', vs, h1, h2, h3, h4⟩ := hp j hj
          refine ⟨d', vs, h1, h2, fun i v hv => ?_, h4⟩
          have := h3 i v hv
          rwa [Addr.add_lit, Addr.add_lit] at this

theorem one_int {fuel n : Nat} {cs : List Value} {x : Option (DataW H × List MemPlace)} (h : DataW.trod enc Try.prog w base spare held fuel 3 ((cs.drop n).take 1) = x) (hx : x.isSome = true) : ∃ i, cs[n]? = some (.int .i64 i) := by
  obtain ⟨y, rfl⟩ := Option.isSome_iff_exists.1 hx
  obtain ⟨i, e, _⟩ := DataW.trod_int Try.underlying3 h
  refine ⟨i, ?_⟩
  have h0 : ((cs.drop n).take 1)[0]? = some (.int .i64 i) := by rw [e]; rfl
  simpa using h0
theorem cells3 : Try.prog.cellsOf 3 = 1 := by kernel_rfl
theorem cells46 : Try.prog.cellsOf 40 = 3 := by kernel_rfl
theorem cells26 : Try.prog.cellsOf 25 = 1 := by kernel_rfl
theorem bytes46 : Try.prog.bytesOf 40 = 24 := by kernel_rfl
theorem bytes26 : Try.prog.bytesOf 25 = 24 := by kernel_rfl
theorem stp_of_trod {fuel : Nat} {cs : List Value} {d : DataW H} {ps : List MemPlace} (h : DataW.trod enc Try.prog w base spare held fuel 40 cs = some (d, ps)) :
    ∃ s : Stp, cs[0]? = some (.int .i64 s.p) ∧ cs[1]? = some (.int .i64 s.k) ∧ cs[2]? = some (.int .i64 s.m) := by
  obtain ⟨xs, n, _, _, _, hlen, hf⟩ := DataW.trod_struct Try.underlying40 h
  have hl : xs.length = 3 := hlen
  have f0 : DataW.trod enc Try.prog w base spare held n 3 ((cs.drop 0).take (Try.prog.cellsOf 3)) = xs[0]? := hf 0 _ rfl
  have f1 : DataW.trod enc Try.prog w base spare held n 3 ((cs.drop 1).take (Try.prog.cellsOf 3)) = xs[1]? := hf 1 _ rfl
  have f2 : DataW.trod enc Try.prog w base spare held n 3 ((cs.drop 2).take (Try.prog.cellsOf 3)) = xs[2]? := hf 2 _ rfl
  rw [cells3] at f0 f1 f2
  obtain ⟨a, e0⟩ := one_int f0 (by rw [List.getElem?_eq_getElem (by omega)]; rfl)
  obtain ⟨b, e1⟩ := one_int f1 (by rw [List.getElem?_eq_getElem (by omega)]; rfl)
  obtain ⟨c, e2⟩ := one_int f2 (by rw [List.getElem?_eq_getElem (by omega)]; rfl)
  exact ⟨⟨a, b, c⟩, e0, e1, e2⟩
/-- A list of steps. -/
def LsCs (w : World) (d : DataW H) (cs : List Value) (l : List Stp) : Prop := ∃ a cap, cs = [.slice a l.length cap] ∧ l.length ≤ cap ∧ l.length ≤ maxLen ∧ StpsQ w a l ∧ ((∀ n ∈ d.weights Try.prog 25, n ≤ reachBytes) → l.length * 24 ≤ reachBytes)
theorem steps_of_trod {fuel : Nat} {cs : List Value} {d : DataW H} {ps : List MemPlace} (h : DataW.trod enc Try.prog w base spare held fuel 25 cs = some (d, ps)) : ∃ l, LsCs w d cs l := by
  obtain ⟨l, a, cap, h1, h2, h3, h4, h5⟩ := row_of_trod (R := fun _ cs (s : Stp) => cs[0]? = some (.int .i64 s.p) ∧ cs[1]? = some (.int .i64 s.k) ∧ cs[2]? = some (.int .i64 s.m)) Try.underlying25 cells46 (by omega) (fun _ _ _ _ h => stp_of_trod h) h
  refine ⟨l, a, cap, h1, h2, h3, ?_, by rw [bytes46] at h4; exact h4⟩
  rcases h5 with h5 | ⟨b, off, e, hb, h5⟩
  · exact .inl h5
  · refine .inr ⟨b, off, e, hb, fun k hk => ?_⟩
    obtain ⟨_, vs, ⟨q0, q1, q2⟩, _, hq, _⟩ := h5 k hk
    exact ⟨hq 0 _ q0, hq 1 _ q1, hq 2 _ q2⟩
theorem plan_of_Trod {a : Option Addr} {len cap : Nat} {d : DataW H} {ps : List MemPlace} (h : DataW.Trod enc Try.prog w base spare held 23 (.slice a len cap) d ps) :
    ∃ p : List (List Stp), p.length = len ∧ PlQ w a p ∧ ((∀ n ∈ d.weights Try.prog 23, n ≤ reachBytes) → PlZ p) := by
  obtain ⟨fuel, hf⟩ := h
  have h : DataW.trod enc Try.prog w base spare held fuel 23 [.slice a len cap] = some (d, ps) := by simpa [Value.cells] using hf
  obtain ⟨p, a', cap', h1, h2, h3, h4, h5⟩ := row_of_trod (R := LsCs w) Try.underlying23 cells26 (by omega) (fun _ _ _ _ h => steps_of_trod h) h
  simp at h1
  obtain ⟨rfl, rfl, rfl⟩ := h1
  rw [bytes26] at h4
  have hr := reachBytes_lt
  refine ⟨p, rfl, ?_, fun hw => ⟨by have := h4 hw; omega, fun t => ?_⟩⟩
  · rcases h5 with h5 | ⟨b, off, e, hb, h5⟩
    · exact .inl h5
    · refine .inr ⟨b, off, e, hb, fun k hk => ?_⟩
      obtain ⟨_, vs, ⟨ra, rc, q0, q1, q2, q3, _⟩, _, hq, _⟩ := h5 k hk
      have := hq 0 _ (by rw [q0]; rfl)
      rw [Nat.mul_one] at this
      exact ⟨ra, rc, this, q1, q2, q3⟩
  · by_cases ht : t < p.length
    · rw [plN_at ht]
      rcases h5 with h5 | ⟨b, off, e, hb, h5⟩
      · rw [h5] at ht; simp at ht
      · obtain ⟨d', vs, ⟨ra, rc, q0, q1, q2, q3, q4⟩, _, hq, hm⟩ := h5 t ht
        have := q4 fun n hn => hw n (hm n hn)
        omega
    · unfold plN
      rw [List.getD_eq_getElem?_getD, List.getElem?_eq_none (by omega)]
      simp
theorem picks_of_Trod {a : Option Addr} {len cap : Nat} {d : DataW H} {ps : List MemPlace} (h : DataW.Trod enc Try.prog w base spare held 24 (.slice a len cap) d ps) :
    ∃ ks : List Int, ks.length = len ∧ ks.length ≤ maxLen ∧ HasI w (.slice a ks.length cap) ks := by
  obtain ⟨fuel, hf⟩ := h
  have h : DataW.trod enc Try.prog w base spare held fuel 24 [.slice a len cap] = some (d, ps) := by simpa [Value.cells] using hf
  obtain ⟨l, a', cap', h1, h2, h3, _, h5⟩ := row_of_trod (R := fun _ cs (o : Int) => cs = [.int .i64 o]) Try.underlying24 cells3 (by omega) (fun _ _ _ _ h => by
    obtain ⟨i, e, _⟩ := DataW.trod_int Try.underlying3 h
    exact ⟨i, e⟩) h
  simp at h1
  obtain ⟨rfl, rfl, rfl⟩ := h1
  refine ⟨l, rfl, h3, a, cap, rfl, h2, fun i hi => ?_⟩
  rcases h5 with h5 | ⟨b, off, e, hb, h5⟩
  · rw [h5] at hi; simp at hi
  · obtain ⟨_, vs, q0, _, hq, _⟩ := h5 i hi
    have := hq 0 _ (by rw [q0]; rfl)
    rw [Nat.mul_one] at this
    exact ⟨b, off, e, this⟩
end
end Go.Proofs.Ythmiocbihhbdpaa

namespace Go.Proofs.Ythmiocbihhbdpaa
open Go.ChangeShapes Go.WideShapes Go.ChangeAt Go.RowKit

section
variable {H : Type} {enc : TypeId × Value → H} {w : World} {base : Nat} {spare : Nat → Bool} {held : Bool}

/-- A list that came in, with the readings of its elements. -/
theorem row_of_trodB {P : Program} {t e : TypeId} {c : Nat} {α : Type} {R : DataW H → List Value → α → Prop} (hu : P.underlying t = some (.slice e)) (hc : P.cellsOf e = c) (hc1 : 1 ≤ c)
    (he : ∀ fuel vs d ps, DataW.trod enc P w base spare held fuel e vs = some (d, ps) → ∃ y, R d vs y) {fuel : Nat} {cs : List Value} {d : DataW H} {ps : List MemPlace} (h : DataW.trod enc P w base spare held fuel t cs = some (d, ps)) :
    ∃ (l : List α) (D : List (DataW H)) (a : Option Addr) (cap : Nat), cs = [.slice a l.length cap] ∧ l.length ≤ cap ∧ l.length ≤ maxLen ∧ l.length = D.length ∧ (D = [] ∨ ∃ sp, d = .slice D sp) ∧
      (l = [] ∨ ∃ b off, a = some ⟨b, off, none⟩ ∧ b < w.heap.size ∧ ∀ k (hk : k < l.length) (hD : k < D.length), ∃ vs, R D[k] vs l[k] ∧ vs.length = c ∧ ∀ j v, vs[j]? = some v → w.cell? ⟨b, off + k * c + j, none⟩ = some v) := by
  rcases DataW.trod_slice hu h with ⟨hcs, _⟩ | ⟨a', len, cap, elems, rest, n, _, hcs, hx, hb, hl, hm, hlen, hel, _, _⟩
  · exact ⟨[], [], none, 0, hcs, Nat.le_refl _, Nat.zero_le _, rfl, .inl rfl, .inl rfl⟩
  · injection hx with hd _
    subst hd
    rw [hc] at hel
    have hel' : elems.length = len := by omega
    have hq : ∀ i, i < len → ∃ y : α, ∃ vs, (∀ hD : i < (elems.map (·.1)).length, R (elems.map (·.1))[i] vs y) ∧ vs.length = c ∧ (∀ j v, vs[j]? = some v → w.cell? ((a'.add (i * c)).add j) = some v) := fun i hi => by
      have h0 := hel i hi
      rw [List.getElem?_eq_getElem (by omega)] at h0
      obtain ⟨vs, h1, h2⟩ := Option.bind_eq_some_iff.1 h0
      obtain ⟨_, hcl, h3⟩ := World.cells?_some h1
      obtain ⟨y, hy⟩ := he n vs _ _ (by rw [h2])
      refine ⟨y, vs, fun hD => by rw [List.getElem_map]; exact hy, hcl, fun j v hv => ?_⟩
      have hj : j < vs.length := (List.getElem?_eq_some_iff.1 hv).1
      rw [h3 j (by omega), hv]
    obtain ⟨l, hV, hp⟩ := list_of len hq
    refine ⟨l, elems.map (·.1), some a', cap, by rw [hV]; exact hcs, by omega, by omega, by simp; omega, .inr ⟨_, rfl⟩, ?_⟩
    by_cases h0 : l = []
    · exact .inl h0
    · have hpos : 0 < l.length := List.length_pos_iff.2 h0
      obtain ⟨b, off, spot⟩ := a'
      obtain ⟨vs, _, hvl, hs0⟩ := hp 0 hpos
      have hs0 := hs0 0 vs[0] (List.getElem?_eq_getElem (by omega))
      have hspot : spot = none := by
        have := World.cell?_spot hs0
        cases spot with
        | none => rfl
        | some s => simp [Addr.add] at this
      subst hspot
      refine .inr ⟨b, off, rfl, ?_, fun j hj hD => ?_⟩
      · have := World.block_lt_of_cell? w _ hs0
        simpa [Addr.add] using this
      · obtain ⟨vs, h1, h2, h3⟩ := hp j hj
        refine ⟨vs, h1 hD, h2, fun i v hv => ?_⟩
        have := h3 i v hv
        rwa [Addr.add_lit, Addr.add_lit] at this

theorem blk_pos (d : DataW H) : 1 ≤ Rows.uptoBulk d := by
  cases d with
  | lit l => cases l <;> simp [Rows.uptoBulk]
  | _ => simp [Rows.uptoBulk]
theorem blkAll_take : ∀ (l : List (DataW H)) {k : Nat} (hk : k < l.length), Rows.uptoBulkAll (l.take (k + 1)) = Rows.uptoBulkAll (l.take k) + Rows.uptoBulk l[k]
  | x :: l, 0, _ => by simp [Rows.uptoBulkAll]
  | x :: l, k + 1, hk => by
    simp only [List.take_succ_cons, Rows.uptoBulkAll, List.getElem_cons_succ]
    rw [blkAll_take l (by simpa using hk)]
    omega
theorem blkAll_len : ∀ l : List (DataW H), l.length ≤ Rows.uptoBulkAll l
  | [] => Nat.zero_le _
  | x :: l => by
    have h1 := blkAll_len l
    have h2 := blk_pos x
    simp only [Rows.uptoBulkAll, List.length_cons]
    omega

/-- A list of steps and its bulk. -/
def LsCb (w : World) (d : DataW H) (cs : List Value) (l : List Stp) : Prop := ∃ a cap, cs = [.slice a l.length cap] ∧ l.length ≤ cap ∧ l.length ≤ maxLen ∧ StpsQ w a l ∧ l.length + 1 ≤ Rows.uptoBulk d
theorem stepsB_of_trod {fuel : Nat} {cs : List Value} {d : DataW H} {ps : List MemPlace} (h : DataW.trod enc Try.prog w base spare held fuel 25 cs = some (d, ps)) : ∃ l, LsCb w d cs l := by
  obtain ⟨l, D, a, cap, h1, h2, h3, h4, h5, h6⟩ := row_of_trodB (R := fun _ cs (s : Stp) => cs[0]? = some (.int .i64 s.p) ∧ cs[1]? = some (.int .i64 s.k) ∧ cs[2]? = some (.int .i64 s.m)) Try.underlying25 cells46 (by omega) (fun _ _ _ _ h => stp_of_trod h) h
  refine ⟨l, a, cap, h1, h2, h3, ?_, ?_⟩
  · rcases h6 with h6 | ⟨b, off, e, hb, h6⟩
    · exact .inl h6
    · refine .inr ⟨b, off, e, hb, fun k hk => ?_⟩
      obtain ⟨vs, ⟨q0, q1, q2⟩, _, hq⟩ := h6 k hk (by omega)
      exact ⟨hq 0 _ q0, hq 1 _ q1, hq 2 _ q2⟩
  · rw [h4]
    rcases h5 with rfl | ⟨sp, rfl⟩
    · exact blk_pos _
    · have := blkAll_len D
      simp only [Rows.uptoBulk]
      omega
theorem alP_bulk {p : List (List Stp)} {D : List (DataW H)} (hl : p.length = D.length) (h : ∀ k (hk : k < p.length) (hD : k < D.length), p[k].length + 1 ≤ Rows.uptoBulk D[k]) : ∀ t, t ≤ p.length → (alP p t).length ≤ Rows.uptoBulkAll (D.take t)
  | 0, _ => Nat.zero_le _
  | t + 1, ht => by
    have ih := alP_bulk hl h t (by omega)
    have h1 := h t (by omega) (by omega)
    rw [blkAll_take D (by omega)]
    show (alP p t ++ List.replicate ((plN p t).length + 1) (t : Int)).length ≤ _
    rw [List.length_append, List.length_replicate, plN_at (by omega)]
    omega
theorem planB_of_Trod {a : Option Addr} {len cap : Nat} {d : DataW H} {ps : List MemPlace} (h : DataW.Trod enc Try.prog w base spare held 23 (.slice a len cap) d ps) (hbk : Rows.uptoBulk d ≤ 1048576) :
    ∃ p : List (List Stp), p.length = len ∧ PlQ w a p ∧ PlZ p ∧ (alP p p.length).length * 8 ≤ 140737488355328 := by
  obtain ⟨fuel, hf⟩ := h
  have h : DataW.trod enc Try.prog w base spare held fuel 23 [.slice a len cap] = some (d, ps) := by simpa [Value.cells] using hf
  obtain ⟨p, D, a', cap', h1, h2, h3, h4, h5, h6⟩ := row_of_trodB (R := LsCb w) Try.underlying23 cells26 (by omega) (fun _ _ _ _ h => stepsB_of_trod h) h
  simp at h1
  obtain ⟨rfl, rfl, rfl⟩ := h1
  have hDb : Rows.uptoBulkAll D ≤ 1048576 := by
    rcases h5 with rfl | ⟨sp, rfl⟩
    · simp [Rows.uptoBulkAll]
    · simp only [Rows.uptoBulk] at hbk
      omega
  have hk : ∀ k (hk : k < p.length) (hD : k < D.length), p[k].length + 1 ≤ Rows.uptoBulk D[k] := fun k hk hD => by
    rcases h6 with h6 | ⟨b, off, e, hb, h6⟩
    · rw [h6] at hk; simp at hk
    · obtain ⟨vs, ⟨_, _, _, _, _, _, q⟩, _⟩ := h6 k hk hD
      exact q
  have hal := alP_bulk h4 hk p.length (Nat.le_refl _)
  rw [h4, List.take_length, ← h4] at hal
  have hDl := blkAll_len D
  refine ⟨p, rfl, ?_, ⟨by omega, fun t => ?_⟩, by omega⟩
  · rcases h6 with h6 | ⟨b, off, e, hb, h6⟩
    · exact .inl h6
    · refine .inr ⟨b, off, e, hb, fun k hk => ?_⟩
      obtain ⟨vs, ⟨ra, rc, q0, q1, q2, q3, _⟩, _, hq⟩ := h6 k hk (by omega)
      have := hq 0 _ (by rw [q0]; rfl)
      rw [Nat.mul_one] at this
      exact ⟨ra, rc, this, q1, q2, q3⟩
  · by_cases ht : t < p.length
    · have h7 := alP_in p ht (Nat.le_refl (plN p t).length)
      rw [List.length_append, List.length_replicate] at h7
      omega
    · unfold plN
      rw [List.getD_eq_getElem?_getD, List.getElem?_eq_none (by omega)]
      simp
/-- With no bound but a slice's own. -/
theorem planM_of_Trod {a : Option Addr} {len cap : Nat} {d : DataW H} {ps : List MemPlace} (h : DataW.Trod enc Try.prog w base spare held 23 (.slice a len cap) d ps) :
    ∃ p : List (List Stp), p.length = len ∧ PlQ w a p ∧ p.length ≤ maxLen := by
  obtain ⟨fuel, hf⟩ := h
  have h : DataW.trod enc Try.prog w base spare held fuel 23 [.slice a len cap] = some (d, ps) := by simpa [Value.cells] using hf
  obtain ⟨p, D, a', cap', h1, h2, h3, h4, h5, h6⟩ := row_of_trodB (R := LsCb w) Try.underlying23 cells26 (by omega) (fun _ _ _ _ h => stepsB_of_trod h) h
  simp at h1
  obtain ⟨rfl, rfl, rfl⟩ := h1
  refine ⟨p, rfl, ?_, h3⟩
  rcases h6 with h6 | ⟨b, off, e, hb, h6⟩
  · exact .inl h6
  · refine .inr ⟨b, off, e, hb, fun k hk => ?_⟩
    obtain ⟨vs, ⟨ra, rc, q0, q1, q2, q3, _⟩, _, hq⟩ := h6 k hk (by omega)
    have := hq 0 _ (by rw [q0]; rfl)
    rw [Nat.mul_one] at this
    exact ⟨ra, rc, this, q1, q2, q3⟩
end
end Go.Proofs.Ythmiocbihhbdpaa
