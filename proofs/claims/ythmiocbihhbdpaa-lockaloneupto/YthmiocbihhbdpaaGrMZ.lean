/-
  A graph that came in, in memory: rows of bools; what Check tells of it. The document's Check, walked.
  The document's order of nodes, walked.
  Two matrices held against each other.
  Two rows of numbers held against each other.
  Rows of one's own: small facts; an append in a drawn region by the run's equation.
  Steps of transactions in memory; the statements' own copy of them, walked.
-/
import Derived.Test.YthmiocbihhbdpaaMatPZ
import Derived.Test.YthmiocbihhbdpaaGhPZ
import Derived.Deep.RegionLaw
import Derived.Deep.RegionHeld3
namespace Go.Proofs.Ythmiocbihhbdpaa
open Go.RowKit

/-- A row of bools. -/
def BitsIn (w : World) (v : Value) (bs : List Bool) : Prop := ∃ a cap, v = .slice a bs.length cap ∧ bs.length ≤ cap ∧ (bs = [] ∨ ∃ b off, a = some ⟨b, off, none⟩ ∧ b < w.heap.size ∧ ∀ j (h : j < bs.length), w.cell? ⟨b, off + j, none⟩ = some (.bool bs[j]))
/-- Rows of them. -/
def GrQ (w : World) (a : Option Addr) (R : List (List Bool)) : Prop := R = [] ∨ ∃ b off, a = some ⟨b, off, none⟩ ∧ b < w.heap.size ∧ ∀ i (h : i < R.length), ∃ s, w.cell? ⟨b, off + i, none⟩ = some s ∧ BitsIn w s R[i]
theorem BitsIn.below {w w' : World} {v : Value} {bs : List Bool} (h : BitsIn w v bs) (hw : Below w.heap.size w w') : BitsIn w' v bs := by
  obtain ⟨a, cap, e, hc, h | ⟨b, off, rfl, hb, hj⟩⟩ := h
  · exact ⟨a, cap, e, hc, .inl h⟩
  · exact ⟨_, cap, e, hc, .inr ⟨b, off, rfl, Nat.lt_of_lt_of_le hb hw.size, fun j h => (hw.cell (p := ⟨b, off + j, none⟩) hb).trans (hj j h)⟩⟩
theorem GrQ.below {w w' : World} {a : Option Addr} {R : List (List Bool)} (h : GrQ w a R) (hw : Below w.heap.size w w') : GrQ w' a R := by
  rcases h with h | ⟨b, off, rfl, hb, hj⟩
  · exact .inl h
  · refine .inr ⟨b, off, rfl, Nat.lt_of_lt_of_le hb hw.size, fun i hi => ?_⟩
    obtain ⟨s, hs, hr⟩ := hj i hi
    exact ⟨s, (hw.cell (p := ⟨b, off + i, none⟩) hb).trans hs, hr.below hw⟩
def gB (R : List (List Bool)) (i k : Nat) : Bool := (R.getD i []).getD k false
/-- What Check tells: 0, more than 40 rows (4), a row that has not as many (3). -/
def ckG (R : List (List Bool)) : Int := if 40 < R.length then 4 else if (R.all fun r => r.length == R.length) = true then 0 else 3
theorem ckG_ok {R : List (List Bool)} (h : ckG R = 0) : R.length ≤ 40 ∧ ∀ r ∈ R, r.length = R.length := by
  unfold ckG at h
  split at h
  · cases h
  · split at h
    · rename_i h1 h2
      exact ⟨by omega, fun r hr => by simpa using List.all_eq_true.1 h2 r hr⟩
    · cases h
/-- A graph that may be, row by row. -/
theorem GrQ.at {w : World} {a : Option Addr} {R : List (List Bool)} (h : GrQ w a R) (ok : ckG R = 0) {i : Nat} (hi : i < R.length) : ∃ b off, a = some ⟨b, off, none⟩ ∧ b < w.heap.size ∧ ∃ rb ro rc, w.cell? ⟨b, off + i, none⟩ = some (.slice (some ⟨rb, ro, none⟩) R.length rc) ∧ R.length ≤ rc ∧ rb < w.heap.size ∧ ∀ k, k < R.length → w.cell? ⟨rb, ro + k, none⟩ = some (.bool (gB R i k)) := by
  rcases h with h | ⟨b, off, rfl, hb, hj⟩
  · subst h; simp at hi
  · obtain ⟨s, hs, a2, cap, rfl, hc, h⟩ := hj i hi
    have hl := (ckG_ok ok).2 R[i] (List.getElem_mem hi)
    rcases h with h | ⟨rb, ro, rfl, hrb, hk⟩
    · rw [h] at hl; simp at hl; omega
    · refine ⟨b, off, rfl, hb, rb, ro, cap, by rw [← hl]; exact hs, by rw [← hl]; exact hc, hrb, fun k hkk => ?_⟩
      rw [hk k (by omega)]
      unfold gB
      simp [List.getD, hi, show k < R[i].length by omega]

end Go.Proofs.Ythmiocbihhbdpaa

namespace Go.Proofs.Ythmiocbihhbdpaa
open Go.RowKit

/-- The least one from j on that may stand next, or none (-1). -/
def AtR (f : Nat → Bool) (n j : Nat) (x : Int) : Prop := (x = -1 ∧ ∀ i, j ≤ i → i < n → f i = false) ∨ ∃ i : Nat, x = (i : Int) ∧ j ≤ i ∧ i < n ∧ f i = true ∧ ∀ i', j ≤ i' → i' < i → f i' = false
theorem AtR.yes {f : Nat → Bool} {n j : Nat} (hj : j < n) (h : f j = true) : AtR f n j (j : Int) := .inr ⟨j, rfl, Nat.le_refl _, hj, h, fun i' h1 h2 => absurd h1 (by omega)⟩
theorem AtR.no {f : Nat → Bool} {n j : Nat} {x : Int} (h : f j = false) (ha : AtR f n (j + 1) x) : AtR f n j x := by
  rcases ha with ⟨rfl, ha⟩ | ⟨i, rfl, h1, h2, h3, h4⟩
  · refine .inl ⟨rfl, fun i h1 h2 => ?_⟩
    by_cases e : i = j
    · rw [e]; exact h
    · exact ha i (by omega) h2
  · refine .inr ⟨i, rfl, by omega, h2, h3, fun i' h5 h6 => ?_⟩
    by_cases e : i' = j
    · rw [e]; exact h
    · exact h4 i' (by omega) h6
theorem AtR.done {f : Nat → Bool} {n : Nat} {x : Int} (h : AtR f n 0 x) : (x = -1 ∧ firstN f n = none) ∨ ∃ i : Nat, x = (i : Int) ∧ i < n ∧ firstN f n = some i := by
  rcases h with ⟨rfl, ha⟩ | ⟨i, rfl, _, h2, h3, h4⟩
  · exact .inl ⟨rfl, firstN_none fun j hj => ha j (Nat.zero_le _) hj⟩
  · exact .inr ⟨i, rfl, h2, firstN_at h2 (fun j hj => h4 j (Nat.zero_le _) hj) h3⟩
def mayK (g : Nat → Nat → Bool) (P : Nat → Bool) (i k : Nat) : Bool := !P i && (List.range k).all fun j => P j || !g j i
theorem mayK_succ (g : Nat → Nat → Bool) (P : Nat → Bool) (i k : Nat) : mayK g P i (k + 1) = (mayK g P i k && (P k || !g k i)) := by simp [mayK, List.range_succ, List.all_append, Bool.and_assoc]
def natI (L : List Nat) : List Int := L.map fun q : Nat => (q : Int)
theorem natI_app (L : List Nat) (k : Nat) : natI (L ++ [k]) = natI L ++ [(k : Int)] := by simp [natI]
theorem memB_app (L : List Nat) (k : Nat) (i : Nat) : memB (L ++ [k]) i = if i = k then true else memB L i := by
  unfold memB
  rw [List.contains_eq_any_beq, List.contains_eq_any_beq, List.any_append]
  by_cases e : i = k
  · subst e; simp
  · simp [e]

/-- What the document's order tells. -/
def GoTold (R : List (List Bool)) (w : World) (e : Ending) (w' : World) : Prop :=
  ∃ v ok, e = .returned (.tuple #[v, .bool ok]) ∧ ((∃ L, ordG (gB R) R.length R.length = some L ∧ ok = true ∧ RowAt w' w.heap.size v (natI L)) ∨ (ordG (gB R) R.length R.length = none ∧ ok = false ∧ v = .slice none 0 0)) ∧ Below w.heap.size w w'

end Go.Proofs.Ythmiocbihhbdpaa

namespace Go.Proofs.Ythmiocbihhbdpaa
open Go.RowKit

/-- A matrix, read. -/
def ReadM (w : World) (v : Value) (n : Nat) (A : Nat → Nat → Bool) : Prop :=
  ∃ a cap, v = .slice a n cap ∧ n ≤ cap ∧ ∀ i, i < n → ∃ g off r, a = some ⟨g, off, none⟩ ∧ w.cell? ⟨g, off + i, none⟩ = some (.slice (some ⟨r, 0, none⟩) n n) ∧ ∀ k, k < n → w.cell? ⟨r, k, none⟩ = some (.bool (A i k))
theorem readM_nil (w : World) (A : Nat → Nat → Bool) : ReadM w (.slice none 0 0) 0 A := ⟨none, 0, rfl, Nat.le_refl _, fun i hi => absurd hi (by omega)⟩
theorem MatAt.readM {w : World} {base B n : Nat} {rb : Nat → Nat} {M : Nat → Nat → Bool} (h : MatAt w base B n n rb M) : ReadM w (.slice (some ⟨B, 0, none⟩) n n) n M :=
  ⟨_, n, rfl, Nat.le_refl _, fun i hi => ⟨B, 0, rb i, rfl, by rw [Nat.zero_add]; exact h.head i hi, fun k hk => (h.row i hi).bit k hk⟩⟩
theorem OutAt.readM {w : World} {base n : Nat} {v : Value} {gs : List Nat} {A : Nat → Nat → Bool} (h : OutAt w base n v gs A) (hg : gs.length = n) : ReadM w v n A := by
  by_cases h0 : 0 < gs.length
  · obtain ⟨g, off, cap, e, hc, hr⟩ := h.read h0
    rw [hg] at e hc
    exact ⟨_, cap, e, hc, fun i hi => ⟨g, off, gs[i]'(by omega), rfl, (hr i (by omega)).1, (hr i (by omega)).2⟩⟩
  · obtain rfl : gs = [] := List.length_eq_zero_iff.1 (by omega)
    rcases h.row with ⟨rfl, _⟩ | ⟨g, off, cap, cur, rfl, _⟩
    · rw [← hg]; exact readM_nil w A
    · rw [← hg]; exact ⟨_, cap, rfl, Nat.zero_le _, fun i hi => absurd hi (by simp)⟩

end Go.Proofs.Ythmiocbihhbdpaa

namespace Go.Proofs.Ythmiocbihhbdpaa
open Go.RowKit

/-- A row of numbers, read. -/
def HasI (w : World) (v : Value) (xs : List Int) : Prop := ∃ a cap, v = .slice a xs.length cap ∧ xs.length ≤ cap ∧ ∀ i (h : i < xs.length), ∃ g off, a = some ⟨g, off, none⟩ ∧ w.cell? ⟨g, off + i, none⟩ = some (.int .i64 xs[i])
theorem hasI_nil (w : World) : HasI w (.slice none 0 0) [] := ⟨none, 0, rfl, Nat.le_refl _, fun i hi => absurd hi (by simp)⟩
theorem HasI.below {w w' : World} {v : Value} {xs : List Int} (h : HasI w v xs) (hb : Below w.heap.size w w') : HasI w' v xs := by
  obtain ⟨a, cap, rfl, hc, hr⟩ := h
  refine ⟨a, cap, rfl, hc, fun i hi => ?_⟩
  obtain ⟨g, off, ha, h1⟩ := hr i hi
  exact ⟨g, off, ha, (hb.cell (p := ⟨g, off + i, none⟩) (World.block_lt_of_cell? w _ h1)).trans h1⟩
theorem RowAt.hasI {w : World} {base : Nat} {v : Value} {st : List Int} (h : RowAt w base v st) : HasI w v st := by
  rcases h with ⟨rfl, rfl⟩ | ⟨g, off, cap, cur, rfl, _, _, h1, _, _, h5⟩
  · exact hasI_nil w
  · exact ⟨_, cap, rfl, h1, fun i hi => ⟨g, off, rfl, h5 i hi⟩⟩

end Go.Proofs.Ythmiocbihhbdpaa

namespace Go.Proofs.Ythmiocbihhbdpaa
open Go.RowKit

theorem ownsRow_slice {w : World} {base : Nat} {e : TypeId} {size : Nat} {v : Value} {n : Nat} {xs : List Value} (h : w.ownsRow base e size v n xs) : ∃ a c, v = .slice a n c := by
  obtain ⟨_, ⟨rfl, rfl⟩ | ⟨g, cap, cur, rfl, _⟩⟩ := h
  · exact ⟨_, _, rfl⟩
  · exact ⟨_, _, rfl⟩
theorem ownsRow_same {w w' : World} {base : Nat} {e : TypeId} {size : Nat} {v : Value} {n : Nat} {xs : List Value} (h : w.ownsRow base e size v n xs) (hs : ∀ b, v.ownBlock = some b → w'.heap[b]? = w.heap[b]?) : w'.ownsRow base e size v n xs := by
  obtain ⟨hl, h | ⟨g, cap, cur, rfl, hb, hh, h1⟩⟩ := h
  · exact ⟨hl, .inl h⟩
  · exact ⟨hl, .inr ⟨g, cap, cur, rfl, hb, (hs g rfl).trans hh, h1⟩⟩
theorem ownsRow_block {w : World} {base : Nat} {e : TypeId} {size : Nat} {v : Value} {n : Nat} {xs : List Value} (h : w.ownsRow base e size v n xs) : ∀ b, v.ownBlock = some b → base ≤ b ∧ b < w.heap.size ∧ ∃ cur, w.heap[b]? = some (.cells cur e (0, 0)) := by
  intro b hb
  have hl := h.lt b hb
  obtain ⟨_, ⟨rfl, _⟩ | ⟨g, cap, cur, rfl, _, hh, _⟩⟩ := h
  · cases hb
  · obtain rfl : g = b := by simpa [Value.ownBlock] using hb
    exact ⟨hl.1, hl.2, cur, hh⟩
theorem wpList_append_run {P : Program} (w : World) {ops : Array Oper} {rest : List Oper} {o : Oper} {a : Act} {Q : Exit → Act → World → Prop} (hgd : o.guard = none) (s x : Operand) (t : TypeId)
    (ho : o.op = .call { callee := .builtin .append, args := #[s, x], argTypes := #[t, t] }) (v xv v' : Value) (w' : World) (hs : a.eval s = v) (hx : a.eval x = xv) (hr : (Builtin.append_ #[t, t] o.type #[v, xv]).run P w = .ok v' w')
    (hK : wpList P ops Q rest (a.put o.dst v') w') : wpList P ops Q (o :: rest) a w := by
  refine wpList_plain hgd fun K' hK' => ?_
  unfold Oper.wp execOp
  simp only [ho, resolve, invoke, builtin, Sem.run_bind, Sem.run_pure, Result.andThen_ok, List.map_toArray, List.map_cons, List.map_nil, hs, hx, hr]
  exact hK' _ _ hK
theorem step_append_run {P : Program} {ops : Array Oper} {o : Oper} {a : Act} {w : World} {K : Act → World → Prop} {Q : Exit → Act → World → Prop} {E : Prop} (hgd : o.guard = none) (s x : Operand) (t : TypeId)
    (ho : o.op = .call { callee := .builtin .append, args := #[s, x], argTypes := #[t, t] }) (v xv v' : Value) (w' : World) (hs : a.eval s = v) (hx : a.eval x = xv) (hr : (Builtin.append_ #[t, t] o.type #[v, xv]).run P w = .ok v' w')
    (hK : K (a.put o.dst v') w') : if Region.wanted o (yielded ops a.tmps) = true then Oper.wp P o a w K Q else E := by
  have hw : Region.wanted o (yielded ops a.tmps) = true := by simp [Region.wanted, hgd]
  rw [if_pos hw]
  unfold Oper.wp execOp
  simp only [ho, resolve, invoke, builtin, Sem.run_bind, Sem.run_pure, Result.andThen_ok, List.map_toArray, List.map_cons, List.map_nil, hs, hx, hr]
  exact hK
end Go.Proofs.Ythmiocbihhbdpaa

namespace Go.Proofs.Ythmiocbihhbdpaa
open Go.RowKit

/-- A step: its transaction, its kind, its key. -/
structure Stp where
  p : Int
  k : Int
  m : Int
def stZ (l : List Stp) (i : Nat) : Stp := l.getD i ⟨0, 0, 0⟩
def Stp.agg (s : Stp) : Value := .agg #[.int .i64 s.p, .int .i64 s.k, .int .i64 s.m]
/-- A step in memory. -/
def StpAt (w : World) (b off : Nat) (s : Stp) : Prop := w.cell? ⟨b, off, none⟩ = some (.int .i64 s.p) ∧ w.cell? ⟨b, off + 1, none⟩ = some (.int .i64 s.k) ∧ w.cell? ⟨b, off + 2, none⟩ = some (.int .i64 s.m)
def StpsAt (w : World) (b off : Nat) (l : List Stp) : Prop := ∀ k (h : k < l.length), StpAt w b (off + k * 3) l[k]
theorem StpAt.below {B : Nat} {w w' : World} {b off : Nat} {s : Stp} (h : StpAt w b off s) (hb : b < B) (hw : Below B w w') : StpAt w' b off s :=
  ⟨(hw.cell (p := ⟨b, off, none⟩) hb).trans h.1, (hw.cell (p := ⟨b, off + 1, none⟩) hb).trans h.2.1, (hw.cell (p := ⟨b, off + 2, none⟩) hb).trans h.2.2⟩
theorem StpsAt.below {B : Nat} {w w' : World} {b off : Nat} {l : List Stp} (h : StpsAt w b off l) (hb : b < B) (hw : Below B w w') : StpsAt w' b off l := fun k hk => (h k hk).below hb hw
/-- Steps that came in: none, or in memory. -/
def StpsQ (w : World) (a : Option Addr) (l : List Stp) : Prop := l = [] ∨ ∃ b off, a = some ⟨b, off, none⟩ ∧ b < w.heap.size ∧ StpsAt w b off l
theorem StpsQ.below {w w' : World} {a : Option Addr} {l : List Stp} (h : StpsQ w a l) (hw : Below w.heap.size w w') : StpsQ w' a l := by
  rcases h with h | ⟨b, off, rfl, hb, h⟩
  · exact .inl h
  · exact .inr ⟨b, off, rfl, Nat.lt_of_lt_of_le hb hw.size, h.below hb hw⟩
theorem stZ_at {l : List Stp} {k : Nat} (h : k < l.length) : stZ l k = l[k] := by
  unfold stZ
  simp [List.getD, h]

def stpC (l : List Stp) : List Value := l.flatMap fun s => [.int .i64 s.p, .int .i64 s.k, .int .i64 s.m]
theorem stpC_app (l : List Stp) (s : Stp) : stpC (l ++ [s]) = stpC l ++ [.int .i64 s.p, .int .i64 s.k, .int .i64 s.m] := by simp [stpC]
theorem stpC_len : ∀ l : List Stp, (stpC l).length = l.length * 3
  | [] => rfl
  | s :: l => by
    have := stpC_len l
    unfold stpC at this ⊢
    rw [List.flatMap_cons, List.length_append, this]
    simp; omega
theorem stpC_at : ∀ (l : List Stp) (k j : Nat) (hk : k < l.length), j < 3 → (stpC l)[k * 3 + j]? = [Value.int .i64 l[k].p, .int .i64 l[k].k, .int .i64 l[k].m][j]?
  | [], k, _, hk, _ => absurd hk (by simp)
  | s :: l, 0, j, _, hj => by
    show ([Value.int .i64 s.p, .int .i64 s.k, .int .i64 s.m] ++ stpC l)[0 * 3 + j]? = _
    rw [List.getElem?_append_left (by simp; omega)]
    simp
  | s :: l, k + 1, j, hk, hj => by
    show ([Value.int .i64 s.p, .int .i64 s.k, .int .i64 s.m] ++ stpC l)[(k + 1) * 3 + j]? = _
    rw [List.getElem?_append_right (by simp; omega)]
    have := stpC_at l k j (by simpa using hk) hj
    rw [show (k + 1) * 3 + j - [Value.int .i64 s.p, .int .i64 s.k, .int .i64 s.m].length = k * 3 + j by simp; omega, this]
    simp
theorem info67 : (Try.prog.info? 40).map (fun i => (i.zero, i.size, i.bytes)) = some (some (.agg #[.int .i64 0, .int .i64 0, .int .i64 0]), 3, 24) := by kernel_rfl
theorem run_appS {w : World} {base B : Nat} {v : Value} {n : Nat} {L : List Stp} {s : Stp} (hown : w.ownsRow base 40 3 v n (stpC L)) (hB : StpAt w B 0 s) (hb : base ≤ w.heap.size) (hlen : n ≤ 1000) (ty : TypeId) :
    ∃ v' w', (Builtin.append_ #[25, 25] ty #[v, .slice (some ⟨B, 0, none⟩) 1 1]).run Try.prog w = .ok v' w' ∧ w'.ownsRow base 40 3 v' (n + 1) (stpC (L ++ [s])) ∧ w.grownBy w' v.ownBlock ∧ (v'.ownBlock = v.ownBlock ∨ v'.ownBlock = some w.heap.size) := by
  obtain ⟨i, hi, hz, hsz, hby⟩ := info_parts' info67
  have hnews : ∀ j u, [Value.int .i64 s.p, .int .i64 s.k, .int .i64 s.m][j]? = some u → w.cell? ((⟨B, 0, none⟩ : Addr).add j) = some u := by
    intro j u hj
    rw [Addr.add_mid, Nat.zero_add]
    match j, hj with
    | 0, hj => simp at hj; subst hj; exact hB.1
    | 1, hj => simp at hj; subst hj; exact hB.2.1
    | 2, hj => simp at hj; subst hj; exact hB.2.2
  obtain ⟨v', w', hr, ho, hg, _, hob⟩ := run_append_own_at (P := Try.prog) (w := w) base 25 ty 40 i _ 3 24 Try.underlying25 hi hz hsz hby rfl (by decide) v _ _ hown ⟨B, 0, none⟩ 1 1 [.int .i64 s.p, .int .i64 s.k, .int .i64 s.m] rfl hnews (by simp [Value.oneCell']) (by unfold maxLen; omega) (by omega) hb
  exact ⟨v', w', hr, by rw [stpC_app]; exact ho, hg, hob⟩
theorem stpsQ_own {w : World} {base : Nat} {v : Value} {l : List Stp} (h : w.ownsRow base 40 3 v l.length (stpC l)) : ∃ a cap, v = .slice a l.length cap ∧ l.length ≤ cap ∧ StpsQ w a l := by
  obtain ⟨hl, ⟨rfl, h0⟩ | ⟨g, cap, cur, rfl, hb, hh, h1, h2, h3, h4⟩⟩ := h
  · have : l = [] := List.eq_nil_of_length_eq_zero h0
    subst this
    exact ⟨none, 0, rfl, Nat.le_refl _, .inl rfl⟩
  · refine ⟨_, cap, rfl, h1, .inr ⟨g, 0, rfl, lt_of_heap hh, fun k hk => ?_⟩⟩
    have hc : ∀ j, j < 3 → w.cell? ⟨g, 0 + k * 3 + j, none⟩ = [Value.int .i64 l[k].p, .int .i64 l[k].k, .int .i64 l[k].m][j]? := fun j hj => by
      rw [cell_of_row _ _ _ _ 40 _ hh, Nat.zero_add, ← stpC_at l k j hk hj]
      have e : (cur.toList.take (l.length * 3))[k * 3 + j]? = (stpC l)[k * 3 + j]? := by rw [h4]
      rw [List.getElem?_take_of_lt (by omega), Array.getElem?_toList] at e
      exact e
    exact ⟨hc 0 (by omega), hc 1 (by omega), hc 2 (by omega)⟩

end Go.Proofs.Ythmiocbihhbdpaa
