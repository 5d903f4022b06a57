/-
  A graph that came in, in memory: rows of bools; what Check tells of it. The document's Check, walked.
  The document's order of nodes, walked.
  Two matrices held against each other.
  Two rows of numbers held against each other.
  Rows of one's own: small facts; an append in a drawn region by the run's equation.
-/
import Derived.Test.YthmiocbihhbdpaaDoorMatPZ
import Derived.Test.YthmiocbihhbdpaaDoorGhPZ
import Derived.Deep.RegionLaw
namespace Go.Proofs.YthmiocbihhbdpaaDoor
open Go.RowKit

/-- A row of bools. -/
def BitsIn (w : World) (v : Value) (bs : List Bool) : Prop := ∃ a cap, v = .slice a bs.length cap ∧ bs.length ≤ cap ∧ (bs = [] ∨ ∃ b off, a = some ⟨b, off, none⟩ ∧ b < w.heap.size ∧ ∀ j (h : j < bs.length), w.cell? ⟨b, off + j, none⟩ = some (.bool bs[j]))
/-- Rows of them. -/
def GrQ (w : World) (a : Option Addr) (R : List (List Bool)) : Prop := R = [] ∨ ∃ b off, a = some ⟨b, off, none⟩ ∧ b < w.heap.size ∧ ∀ i (h : i < R.length), ∃ s, w.cell? ⟨b, off + i, none⟩ = some s ∧ BitsIn w s R[i]
theorem BitsIn.below {w w' : World} {v : Value} {bs : List Bool} (h : BitsIn w v bs) (hw : Below w.heap.size w w') : BitsIn w' v bs := by
  obtain ⟨a, cap, e, hc, h | ⟨b, off, rfl, hb, hj⟩⟩ := h
  · exact ⟨a, cap, e, hc, .inl h⟩
  · exact ⟨_, cap, e, hc, .inr ⟨b, off, rfl, Nat.lt_of_lt_of_le hb hw.size, fun j h => (hw.cell (p := ⟨b, off + j, none⟩) hb).trans (hj j h)⟩⟩
theorem GrQ.below {w w' : World} {a : Option Addr} {R : List (List Bool)} (h : GrQ w a R) (hw : Below w.heap.size w w') : GrQ w' a R := by
  rcases h with h | ⟨b, off, rfl, hb, hj⟩
  · exact .inl h
  · refine .inr ⟨b, off, rfl, Nat.lt_of_lt_of_le hb hw.size, fun i hi => ?_⟩
    obtain ⟨s, hs, hr⟩ := hj i hi
    exact ⟨s, (hw.cell (p := ⟨b, off + i, none⟩) hb).trans hs, hr.below hw⟩
def gB (R : List (List Bool)) (i k : Nat) : Bool := (R.getD i []).getD k false
/-- What Check tells: 0, more than 40 rows (4), a row that has not as many (3). -/
def ckG (R : List (List Bool)) : Int := if 40 < R.length then 4 else if (R.all fun r => r.length == R.length) = true then 0 else 3
theorem ckG_ok {R : List (List Bool)} (h : ckG R = 0) : R.length ≤ 40 ∧ ∀ r ∈ R, r.length = R.length := by
  unfold ckG at h
  split at h
  · cases h
  · split at h
    · rename_i h1 h2
      exact ⟨by omega, fun r hr => by simpa using List.all_eq_true.1 h2 r hr⟩
    · cases h
/-- A graph that may be, row by row. -/
theorem GrQ.at {w : World} {a : Option Addr} {R : List (List Bool)} (h : GrQ w a R) (ok : ckG R = 0) {i : Nat} (hi : i < R.length) : ∃ b off, a = some ⟨b, off, none⟩ ∧ b < w.heap.size ∧ ∃ rb ro rc, w.cell? ⟨b, off + i, none⟩ = some (.slice (some ⟨rb, ro, none⟩) R.length rc) ∧ R.length ≤ rc ∧ rb < w.heap.size ∧ ∀ k, k < R.length → w.cell? ⟨rb, ro + k, none⟩ = some (.bool (gB R i k)) := by
  rcases h with h | ⟨b, off, rfl, hb, hj⟩
  · subst h; simp at hi
  · obtain ⟨s, hs, a2, cap, rfl, hc, h⟩ := hj i hi
    have hl := (ckG_ok ok).2 R[i] (List.getElem_mem hi)
    rcases h with h | ⟨rb, ro, rfl, hrb, hk⟩
    · rw [h] at hl; simp at hl; omega
    · refine ⟨b, off, rfl, hb, rb, ro, cap, by rw [← hl]; exact hs, by rw [← hl]; exact hc, hrb, fun k hkk => ?_⟩
      rw [hk k (by omega)]
      unfold gB
      simp [List.getD, hi, show k < R[i].length by omega]

end Go.Proofs.YthmiocbihhbdpaaDoor

namespace Go.Proofs.YthmiocbihhbdpaaDoor
open Go.RowKit

/-- The least one from j on that may stand next, or none (-1). -/
def AtR (f : Nat → Bool) (n j : Nat) (x : Int) : Prop := (x = -1 ∧ ∀ i, j ≤ i → i < n → f i = false) ∨ ∃ i : Nat, x = (i : Int) ∧ j ≤ i ∧ i < n ∧ f i = true ∧ ∀ i', j ≤ i' → i' < i → f i' = false
theorem AtR.yes {f : Nat → Bool} {n j : Nat} (hj : j < n) (h : f j = true) : AtR f n j (j : Int) := .inr ⟨j, rfl, Nat.le_refl _, hj, h, fun i' h1 h2 => absurd h1 (by omega)⟩
theorem AtR.no {f : Nat → Bool} {n j : Nat} {x : Int} (h : f j = false) (ha : AtR f n (j + 1) x) : AtR f n j x := by
  rcases ha with ⟨rfl, ha⟩ | ⟨i, rfl, h1, h2, h3, h4⟩
  · refine .inl ⟨rfl, fun i h1 h2 => ?_⟩
    by_cases e : i = j
    · rw [e]; exact h
    · exact ha i (by omega) h2
  · refine .inr ⟨i, rfl, by omega, h2, h3, fun i' h5 h6 => ?_⟩
    by_cases e : i' = j
    · rw [e]; exact h
    · exact h4 i' (by omega) h6
theorem AtR.done {f : Nat → Bool} {n : Nat} {x : Int} (h : AtR f n 0 x) : (x = -1 ∧ firstN f n = none) ∨ ∃ i : Nat, x = (i : Int) ∧ i < n ∧ firstN f n = some i := by
  rcases h with ⟨rfl, ha⟩ | ⟨i, rfl, _, h2, h3, h4⟩
  · exact .inl ⟨rfl, firstN_none fun j hj => ha j (Nat.zero_le _) hj⟩
  · exact .inr ⟨i, rfl, h2, firstN_at h2 (fun j hj => h4 j (Nat.zero_le _) hj) h3⟩
def mayK (g : Nat → Nat → Bool) (P : Nat → Bool) (i k : Nat) : Bool := !P i && (List.range k).all fun j => P j || !g j i
theorem mayK_succ (g : Nat → Nat → Bool) (P : Nat → Bool) (i k : Nat) : mayK g P i (k + 1) = (mayK g P i k && (P k || !g k i)) := by simp [mayK, List.range_succ, List.all_append, Bool.and_assoc]
def natI (L : List Nat) : List Int := L.map fun q : Nat => (q : Int)
theorem natI_app (L : List Nat) (k : Nat) : natI (L ++ [k]) = natI L ++ [(k : Int)] := by simp [natI]
theorem memB_app (L : List Nat) (k : Nat) (i : Nat) : memB (L ++ [k]) i = if i = k then true else memB L i := by
  unfold memB
  rw [List.contains_eq_any_beq, List.contains_eq_any_beq, List.any_append]
  by_cases e : i = k
  · subst e; simp
  · simp [e]

/-- What the document's order tells. -/
def GoTold (R : List (List Bool)) (w : World) (e : Ending) (w' : World) : Prop :=
  ∃ v ok, e = .returned (.tuple #[v, .bool ok]) ∧ ((∃ L, ordG (gB R) R.length R.length = some L ∧ ok = true ∧ RowAt w' w.heap.size v (natI L)) ∨ (ordG (gB R) R.length R.length = none ∧ ok = false ∧ v = .slice none 0 0)) ∧ Below w.heap.size w w'

end Go.Proofs.YthmiocbihhbdpaaDoor

namespace Go.Proofs.YthmiocbihhbdpaaDoor
open Go.RowKit

/-- A matrix, read. -/
def ReadM (w : World) (v : Value) (n : Nat) (A : Nat → Nat → Bool) : Prop :=
  ∃ a cap, v = .slice a n cap ∧ n ≤ cap ∧ ∀ i, i < n → ∃ g off r, a = some ⟨g, off, none⟩ ∧ w.cell? ⟨g, off + i, none⟩ = some (.slice (some ⟨r, 0, none⟩) n n) ∧ ∀ k, k < n → w.cell? ⟨r, k, none⟩ = some (.bool (A i k))
theorem readM_nil (w : World) (A : Nat → Nat → Bool) : ReadM w (.slice none 0 0) 0 A := ⟨none, 0, rfl, Nat.le_refl _, fun i hi => absurd hi (by omega)⟩
theorem MatAt.readM {w : World} {base B n : Nat} {rb : Nat → Nat} {M : Nat → Nat → Bool} (h : MatAt w base B n n rb M) : ReadM w (.slice (some ⟨B, 0, none⟩) n n) n M :=
  ⟨_, n, rfl, Nat.le_refl _, fun i hi => ⟨B, 0, rb i, rfl, by rw [Nat.zero_add]; exact h.head i hi, fun k hk => (h.row i hi).bit k hk⟩⟩
theorem OutAt.readM {w : World} {base n : Nat} {v : Value} {gs : List Nat} {A : Nat → Nat → Bool} (h : OutAt w base n v gs A) (hg : gs.length = n) : ReadM w v n A := by
  by_cases h0 : 0 < gs.length
  · obtain ⟨g, off, cap, e, hc, hr⟩ := h.read h0
    rw [hg] at e hc
    exact ⟨_, cap, e, hc, fun i hi => ⟨g, off, gs[i]'(by omega), rfl, (hr i (by omega)).1, (hr i (by omega)).2⟩⟩
  · obtain rfl : gs = [] := List.length_eq_zero_iff.1 (by omega)
    rcases h.row with ⟨rfl, _⟩ | ⟨g, off, cap, cur, rfl, _⟩
    · rw [← hg]; exact readM_nil w A
    · rw [← hg]; exact ⟨_, cap, rfl, Nat.zero_le _, fun i hi => absurd hi (by simp)⟩

end Go.Proofs.YthmiocbihhbdpaaDoor

namespace Go.Proofs.YthmiocbihhbdpaaDoor
open Go.RowKit

/-- A row of numbers, read. -/
def HasI (w : World) (v : Value) (xs : List Int) : Prop := ∃ a cap, v = .slice a xs.length cap ∧ xs.length ≤ cap ∧ ∀ i (h : i < xs.length), ∃ g off, a = some ⟨g, off, none⟩ ∧ w.cell? ⟨g, off + i, none⟩ = some (.int .i64 xs[i])
theorem hasI_nil (w : World) : HasI w (.slice none 0 0) [] := ⟨none, 0, rfl, Nat.le_refl _, fun i hi => absurd hi (by simp)⟩
theorem HasI.below {w w' : World} {v : Value} {xs : List Int} (h : HasI w v xs) (hb : Below w.heap.size w w') : HasI w' v xs := by
  obtain ⟨a, cap, rfl, hc, hr⟩ := h
  refine ⟨a, cap, rfl, hc, fun i hi => ?_⟩
  obtain ⟨g, off, ha, h1⟩ := hr i hi
  exact ⟨g, off, ha, (hb.cell (p := ⟨g, off + i, none⟩) (World.block_lt_of_cell? w _ h1)).trans h1⟩
theorem RowAt.hasI {w : World} {base : Nat} {v : Value} {st : List Int} (h : RowAt w base v st) : HasI w v st := by
  rcases h with ⟨rfl, rfl⟩ | ⟨g, off, cap, cur, rfl, _, _, h1, _, _, h5⟩
  · exact hasI_nil w
  · exact ⟨_, cap, rfl, h1, fun i hi => ⟨g, off, rfl, h5 i hi⟩⟩

set_option maxRecDepth 100000 in
set_option maxHeartbeats 1000000 in
theorem sameInts_any (xs : List Int) (hn : xs.length ≤ 60) (v v' : Value) (w : World) (h : HasI w v xs) (h' : HasI w v' xs) :
    Calls Tryd.prog 11 #[v, v'] w fun e w' => e = .returned (.bool true) ∧ Below w.heap.size w w' := by
  have HR := hideIt h
  have HR' := hideIt h'
  obtain ⟨a, cap, rfl, hc, _⟩ := h
  obtain ⟨a', cap', rfl, hc', _⟩ := h'
  go_enter Tryd.func11, Tryd.ntmps11
  go_wp2
  go_loopw [5] (fun i wr => ∃ (k : Nat), k ≤ xs.length ∧ i = .int .i64 k ∧ Below w.heap.size w wr) (fun i _ => xs.length - (intOf i).toNat)
  case atStart => exact ⟨0, Nat.zero_le _, rfl, Below.refl _ _⟩
  case round =>
    obtain ⟨i, hi, rfl, hb⟩ := hrel
    have HB := hideIt hb
    clear hb
    by_cases hin : i < xs.length
    · obtain ⟨b1, p1, e1, _, hr1⟩ := HR.out.below HB.out
      obtain ⟨b2, p2, e2, _, hr2⟩ := HR'.out.below HB.out
      simp at e1 e2
      obtain ⟨rfl, rfl⟩ := e1
      obtain ⟨rfl, rfl⟩ := e2
      obtain ⟨g, off, rfl, c1⟩ := hr1 i hin
      obtain ⟨g', off', rfl, c2⟩ := hr2 i hin
      clear hr1 hr2
      generalize xs[i] = x at c1 c2
      have hne : (x != x) = false := by simp
      go_wp2_with fail
      go_big_quiet (fail)
      go_wp2
      go_roundw
      case rel => exact ⟨i + 1, by omega, by go_num, below_drewN HB.out _⟩
      case measure => simp [intOf]; omega
    · go_wp2
      go_ret
      exact ⟨rfl, HB.out⟩
end Go.Proofs.YthmiocbihhbdpaaDoor

namespace Go.Proofs.YthmiocbihhbdpaaDoor
open Go.RowKit

theorem ownsRow_slice {w : World} {base : Nat} {e : TypeId} {size : Nat} {v : Value} {n : Nat} {xs : List Value} (h : w.ownsRow base e size v n xs) : ∃ a c, v = .slice a n c := by
  obtain ⟨_, ⟨rfl, rfl⟩ | ⟨g, cap, cur, rfl, _⟩⟩ := h
  · exact ⟨_, _, rfl⟩
  · exact ⟨_, _, rfl⟩
theorem ownsRow_same {w w' : World} {base : Nat} {e : TypeId} {size : Nat} {v : Value} {n : Nat} {xs : List Value} (h : w.ownsRow base e size v n xs) (hs : ∀ b, v.ownBlock = some b → w'.heap[b]? = w.heap[b]?) : w'.ownsRow base e size v n xs := by
  obtain ⟨hl, h | ⟨g, cap, cur, rfl, hb, hh, h1⟩⟩ := h
  · exact ⟨hl, .inl h⟩
  · exact ⟨hl, .inr ⟨g, cap, cur, rfl, hb, (hs g rfl).trans hh, h1⟩⟩
theorem ownsRow_block {w : World} {base : Nat} {e : TypeId} {size : Nat} {v : Value} {n : Nat} {xs : List Value} (h : w.ownsRow base e size v n xs) : ∀ b, v.ownBlock = some b → base ≤ b ∧ b < w.heap.size ∧ ∃ cur, w.heap[b]? = some (.cells cur e (0, 0)) := by
  intro b hb
  have hl := h.lt b hb
  obtain ⟨_, ⟨rfl, _⟩ | ⟨g, cap, cur, rfl, _, hh, _⟩⟩ := h
  · cases hb
  · obtain rfl : g = b := by simpa [Value.ownBlock] using hb
    exact ⟨hl.1, hl.2, cur, hh⟩
theorem wpList_append_run {P : Program} (w : World) {ops : Array Oper} {rest : List Oper} {o : Oper} {a : Act} {Q : Exit → Act → World → Prop} (hgd : o.guard = none) (s x : Operand) (t : TypeId)
    (ho : o.op = .call { callee := .builtin .append, args := #[s, x], argTypes := #[t, t] }) (v xv v' : Value) (w' : World) (hs : a.eval s = v) (hx : a.eval x = xv) (hr : (Builtin.append_ #[t, t] o.type #[v, xv]).run P w = .ok v' w')
    (hK : wpList P ops Q rest (a.put o.dst v') w') : wpList P ops Q (o :: rest) a w := by
  refine wpList_plain hgd fun K' hK' => ?_
  unfold Oper.wp execOp
  simp only [ho, resolve, invoke, builtin, Sem.run_bind, Sem.run_pure, Result.andThen_ok, List.map_toArray, List.map_cons, List.map_nil, hs, hx, hr]
  exact hK' _ _ hK
theorem step_append_run {P : Program} {ops : Array Oper} {o : Oper} {a : Act} {w : World} {K : Act → World → Prop} {Q : Exit → Act → World → Prop} {E : Prop} (hgd : o.guard = none) (s x : Operand) (t : TypeId)
    (ho : o.op = .call { callee := .builtin .append, args := #[s, x], argTypes := #[t, t] }) (v xv v' : Value) (w' : World) (hs : a.eval s = v) (hx : a.eval x = xv) (hr : (Builtin.append_ #[t, t] o.type #[v, xv]).run P w = .ok v' w')
    (hK : K (a.put o.dst v') w') : if Region.wanted o (yielded ops a.tmps) = true then Oper.wp P o a w K Q else E := by
  have hw : Region.wanted o (yielded ops a.tmps) = true := by simp [Region.wanted, hgd]
  rw [if_pos hw]
  unfold Oper.wp execOp
  simp only [ho, resolve, invoke, builtin, Sem.run_bind, Sem.run_pure, Result.andThen_ok, List.map_toArray, List.map_cons, List.map_nil, hs, hx, hr]
  exact hK
end Go.Proofs.YthmiocbihhbdpaaDoor
