/-
  The document's order of nodes, walked.
  Two matrices held against each other.
  Two rows of numbers held against each other.
  Rows of one's own: small facts; an append in a drawn region by the run's equation.
  The document's Closed and Groups, walked.
-/
import Derived.Test.YtaopigjhdkdklaaDoorGrM
import Derived.Test.YtaopigjhdkdklaaDoorMatPZ
import Derived.Deep.RegionLaw
namespace Go.Proofs.YtaopigjhdkdklaaDoor
open Go.RowKit

/-- The least one from j on that may stand next, or none (-1). -/
def AtR (f : Nat → Bool) (n j : Nat) (x : Int) : Prop := (x = -1 ∧ ∀ i, j ≤ i → i < n → f i = false) ∨ ∃ i : Nat, x = (i : Int) ∧ j ≤ i ∧ i < n ∧ f i = true ∧ ∀ i', j ≤ i' → i' < i → f i' = false
theorem AtR.yes {f : Nat → Bool} {n j : Nat} (hj : j < n) (h : f j = true) : AtR f n j (j : Int) := .inr ⟨j, rfl, Nat.le_refl _, hj, h, fun i' h1 h2 => absurd h1 (by omega)⟩
theorem AtR.no {f : Nat → Bool} {n j : Nat} {x : Int} (h : f j = false) (ha : AtR f n (j + 1) x) : AtR f n j x := by
  rcases ha with ⟨rfl, ha⟩ | ⟨i, rfl, h1, h2, h3, h4⟩
  · refine .inl ⟨rfl, fun i h1 h2 => ?_⟩
    by_cases e : i = j
    · rw [e]; exact h
    · exact ha i (by omega) h2
  · refine .inr ⟨i, rfl, by omega, h2, h3, fun i' h5 h6 => ?_⟩
    by_cases e : i' = j
    · rw [e]; exact h
    · exact h4 i' (by omega) h6
theorem AtR.done {f : Nat → Bool} {n : Nat} {x : Int} (h : AtR f n 0 x) : (x = -1 ∧ firstN f n = none) ∨ ∃ i : Nat, x = (i : Int) ∧ i < n ∧ firstN f n = some i := by
  rcases h with ⟨rfl, ha⟩ | ⟨i, rfl, _, h2, h3, h4⟩
  · exact .inl ⟨rfl, firstN_none fun j hj => ha j (Nat.zero_le _) hj⟩
  · exact .inr ⟨i, rfl, h2, firstN_at h2 (fun j hj => h4 j (Nat.zero_le _) hj) h3⟩
def mayK (g : Nat → Nat → Bool) (P : Nat → Bool) (i k : Nat) : Bool := !P i && (List.range k).all fun j => P j || !g j i
theorem mayK_succ (g : Nat → Nat → Bool) (P : Nat → Bool) (i k : Nat) : mayK g P i (k + 1) = (mayK g P i k && (P k || !g k i)) := by simp [mayK, List.range_succ, List.all_append, Bool.and_assoc]
def natI (L : List Nat) : List Int := L.map fun q : Nat => (q : Int)
theorem natI_app (L : List Nat) (k : Nat) : natI (L ++ [k]) = natI L ++ [(k : Int)] := by simp [natI]
theorem memB_app (L : List Nat) (k : Nat) (i : Nat) : memB (L ++ [k]) i = if i = k then true else memB L i := by
  unfold memB
  rw [List.contains_eq_any_beq, List.contains_eq_any_beq, List.any_append]
  by_cases e : i = k
  · subst e; simp
  · simp [e]

/-- What the document's order tells. -/
def GoTold (R : List (List Bool)) (w : World) (e : Ending) (w' : World) : Prop :=
  ∃ v ok, e = .returned (.tuple #[v, .bool ok]) ∧ ((∃ L, ordG (gB R) R.length R.length = some L ∧ ok = true ∧ RowAt w' w.heap.size v (natI L)) ∨ (ordG (gB R) R.length R.length = none ∧ ok = false ∧ v = .slice none 0 0)) ∧ Below w.heap.size w w'

end Go.Proofs.YtaopigjhdkdklaaDoor

namespace Go.Proofs.YtaopigjhdkdklaaDoor
open Go.RowKit

/-- A matrix, read. -/
def ReadM (w : World) (v : Value) (n : Nat) (A : Nat → Nat → Bool) : Prop :=
  ∃ a cap, v = .slice a n cap ∧ n ≤ cap ∧ ∀ i, i < n → ∃ g off r, a = some ⟨g, off, none⟩ ∧ w.cell? ⟨g, off + i, none⟩ = some (.slice (some ⟨r, 0, none⟩) n n) ∧ ∀ k, k < n → w.cell? ⟨r, k, none⟩ = some (.bool (A i k))
theorem readM_nil (w : World) (A : Nat → Nat → Bool) : ReadM w (.slice none 0 0) 0 A := ⟨none, 0, rfl, Nat.le_refl _, fun i hi => absurd hi (by omega)⟩
theorem MatAt.readM {w : World} {base B n : Nat} {rb : Nat → Nat} {M : Nat → Nat → Bool} (h : MatAt w base B n n rb M) : ReadM w (.slice (some ⟨B, 0, none⟩) n n) n M :=
  ⟨_, n, rfl, Nat.le_refl _, fun i hi => ⟨B, 0, rb i, rfl, by rw [Nat.zero_add]; exact h.head i hi, fun k hk => (h.row i hi).bit k hk⟩⟩
theorem OutAt.readM {w : World} {base n : Nat} {v : Value} {gs : List Nat} {A : Nat → Nat → Bool} (h : OutAt w base n v gs A) (hg : gs.length = n) : ReadM w v n A := by
  by_cases h0 : 0 < gs.length
  · obtain ⟨g, off, cap, e, hc, hr⟩ := h.read h0
    rw [hg] at e hc
    exact ⟨_, cap, e, hc, fun i hi => ⟨g, off, gs[i]'(by omega), rfl, (hr i (by omega)).1, (hr i (by omega)).2⟩⟩
  · obtain rfl : gs = [] := List.length_eq_zero_iff.1 (by omega)
    rcases h.row with ⟨rfl, _⟩ | ⟨g, off, cap, cur, rfl, _⟩
    · rw [← hg]; exact readM_nil w A
    · rw [← hg]; exact ⟨_, cap, rfl, Nat.zero_le _, fun i hi => absurd hi (by simp)⟩

end Go.Proofs.YtaopigjhdkdklaaDoor

namespace Go.Proofs.YtaopigjhdkdklaaDoor
open Go.RowKit

/-- A row of numbers, read. -/
def HasI (w : World) (v : Value) (xs : List Int) : Prop := ∃ a cap, v = .slice a xs.length cap ∧ xs.length ≤ cap ∧ ∀ i (h : i < xs.length), ∃ g off, a = some ⟨g, off, none⟩ ∧ w.cell? ⟨g, off + i, none⟩ = some (.int .i64 xs[i])
theorem hasI_nil (w : World) : HasI w (.slice none 0 0) [] := ⟨none, 0, rfl, Nat.le_refl _, fun i hi => absurd hi (by simp)⟩
theorem HasI.below {w w' : World} {v : Value} {xs : List Int} (h : HasI w v xs) (hb : Below w.heap.size w w') : HasI w' v xs := by
  obtain ⟨a, cap, rfl, hc, hr⟩ := h
  refine ⟨a, cap, rfl, hc, fun i hi => ?_⟩
  obtain ⟨g, off, ha, h1⟩ := hr i hi
  exact ⟨g, off, ha, (hb.cell (p := ⟨g, off + i, none⟩) (World.block_lt_of_cell? w _ h1)).trans h1⟩
theorem RowAt.hasI {w : World} {base : Nat} {v : Value} {st : List Int} (h : RowAt w base v st) : HasI w v st := by
  rcases h with ⟨rfl, rfl⟩ | ⟨g, off, cap, cur, rfl, _, _, h1, _, _, h5⟩
  · exact hasI_nil w
  · exact ⟨_, cap, rfl, h1, fun i hi => ⟨g, off, rfl, h5 i hi⟩⟩

end Go.Proofs.YtaopigjhdkdklaaDoor

namespace Go.Proofs.YtaopigjhdkdklaaDoor
open Go.RowKit

theorem ownsRow_slice {w : World} {base : Nat} {e : TypeId} {size : Nat} {v : Value} {n : Nat} {xs : List Value} (h : w.ownsRow base e size v n xs) : ∃ a c, v = .slice a n c := by
  obtain ⟨_, ⟨rfl, rfl⟩ | ⟨g, cap, cur, rfl, _⟩⟩ := h
  · exact ⟨_, _, rfl⟩
  · exact ⟨_, _, rfl⟩
theorem ownsRow_same {w w' : World} {base : Nat} {e : TypeId} {size : Nat} {v : Value} {n : Nat} {xs : List Value} (h : w.ownsRow base e size v n xs) (hs : ∀ b, v.ownBlock = some b → w'.heap[b]? = w.heap[b]?) : w'.ownsRow base e size v n xs := by
  obtain ⟨hl, h | ⟨g, cap, cur, rfl, hb, hh, h1⟩⟩ := h
  · exact ⟨hl, .inl h⟩
  · exact ⟨hl, .inr ⟨g, cap, cur, rfl, hb, (hs g rfl).trans hh, h1⟩⟩
theorem ownsRow_block {w : World} {base : Nat} {e : TypeId} {size : Nat} {v : Value} {n : Nat} {xs : List Value} (h : w.ownsRow base e size v n xs) : ∀ b, v.ownBlock = some b → base ≤ b ∧ b < w.heap.size ∧ ∃ cur, w.heap[b]? = some (.cells cur e (0, 0)) := by
  intro b hb
  have hl := h.lt b hb
  obtain ⟨_, ⟨rfl, _⟩ | ⟨g, cap, cur, rfl, _, hh, _⟩⟩ := h
  · cases hb
  · obtain rfl : g = b := by simpa [Value.ownBlock] using hb
    exact ⟨hl.1, hl.2, cur, hh⟩
theorem wpList_append_run {P : Program} (w : World) {ops : Array Oper} {rest : List Oper} {o : Oper} {a : Act} {Q : Exit → Act → World → Prop} (hgd : o.guard = none) (s x : Operand) (t : TypeId)
    (ho : o.op = .call { callee := .builtin .append, args := #[s, x], argTypes := #[t, t] }) (v xv v' : Value) (w' : World) (hs : a.eval s = v) (hx : a.eval x = xv) (hr : (Builtin.append_ #[t, t] o.type #[v, xv]).run P w = .ok v' w')
    (hK : wpList P ops Q rest (a.put o.dst v') w') : wpList P ops Q (o :: rest) a w := by
  refine wpList_plain hgd fun K' hK' => ?_
  unfold Oper.wp execOp
  simp only [ho, resolve, invoke, builtin, Sem.run_bind, Sem.run_pure, Result.andThen_ok, List.map_toArray, List.map_cons, List.map_nil, hs, hx, hr]
  exact hK' _ _ hK
theorem step_append_run {P : Program} {ops : Array Oper} {o : Oper} {a : Act} {w : World} {K : Act → World → Prop} {Q : Exit → Act → World → Prop} {E : Prop} (hgd : o.guard = none) (s x : Operand) (t : TypeId)
    (ho : o.op = .call { callee := .builtin .append, args := #[s, x], argTypes := #[t, t] }) (v xv v' : Value) (w' : World) (hs : a.eval s = v) (hx : a.eval x = xv) (hr : (Builtin.append_ #[t, t] o.type #[v, xv]).run P w = .ok v' w')
    (hK : K (a.put o.dst v') w') : if Region.wanted o (yielded ops a.tmps) = true then Oper.wp P o a w K Q else E := by
  have hw : Region.wanted o (yielded ops a.tmps) = true := by simp [Region.wanted, hgd]
  rw [if_pos hw]
  unfold Oper.wp execOp
  simp only [ho, resolve, invoke, builtin, Sem.run_bind, Sem.run_pure, Result.andThen_ok, List.map_toArray, List.map_cons, List.map_nil, hs, hx, hr]
  exact hK
end Go.Proofs.YtaopigjhdkdklaaDoor

namespace Go.Proofs.YtaopigjhdkdklaaDoor
open Go.RowKit

/-- What the document's Closed tells. -/
def GlTold (R : List (List Bool)) (w : World) (e : Ending) (w' : World) : Prop :=
  ∃ v gs A, e = .returned v ∧ OutAt w' w.heap.size R.length v gs A ∧ gs.length = R.length ∧ (∀ i k, i < R.length → k < R.length → A i k = war (gB R) R.length i k) ∧ Below w.heap.size w w'

def grpF (A : Nat → Nat → Bool) (i k : Nat) : Bool := k == i || (A i k && A k i)
theorem grp_of {R : List (List Bool)} {A : Nat → Nat → Bool} {n i : Nat} (hA : ∀ i k, i < n → k < n → A i k = war (gB R) n i k) (hi : i < n) {x : Int} (h : AtR (grpF A i) (i + 1) 0 x) : x = (grpG (gB R) n i : Nat) := by
  rcases h with ⟨_, ha⟩ | ⟨k, rfl, _, hk, hf, hl⟩
  · have := ha i (Nat.zero_le _) (by omega)
    simp [grpF] at this
  · have e : firstN (fun k => k == i || (war (gB R) n i k && war (gB R) n k i)) n = some k := firstN_at (by omega) (fun j hj => by
      have := hl j (Nat.zero_le _) hj
      unfold grpF at this
      rwa [hA i j hi (by omega), hA j i (by omega) hi] at this) (by
      unfold grpF at hf
      rwa [hA i k hi (by omega), hA k i (by omega) hi] at hf)
    unfold grpG
    rw [e]
    rfl
def grpL (R : List (List Bool)) (m : Nat) : List Int := (List.range m).map fun i => ((grpG (gB R) R.length i : Nat) : Int)
theorem grpL_succ (R : List (List Bool)) (m : Nat) : grpL R (m + 1) = grpL R m ++ [((grpG (gB R) R.length m : Nat) : Int)] := by simp [grpL, List.range_succ]
theorem grpL_len (R : List (List Bool)) (m : Nat) : (grpL R m).length = m := by simp [grpL]

end Go.Proofs.YtaopigjhdkdklaaDoor
