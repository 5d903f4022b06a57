/-
  MergeThings: the statement's own maps by tags; what they and the program's things have to do with each other, in plain Lean.
-/
import Derived.Test.YthphoiadhddggaaDoorMbW
namespace Go.Proofs.YthphoiadhddggaaDoor
open Go.RowKit Go.WideMaps Go.ChangeMaps Go.WideShapes
open Go.Maps (Keyed IsMap)

theorem rowPairS : (49 : TypeId) < Tryd.prog.types.size := of_decide_eq_true (by kernel_rfl)
theorem cellsPairS : Tryd.prog.cellsOf 49 = 2 := by kernel_rfl
theorem deepPairS : Tryd.prog.keyType 49 = true := by kernel_rfl
theorem widePairS : (match Tryd.prog.underlying 49 with | some (.array _ _) | some (.struct _) => true | _ => false) = true := by kernel_rfl
set_option maxRecDepth 100000 in
theorem keyedPairS : Keyed Tryd.prog 49 := Keyed.of_law (deep_law_laid laidOutP (m := 3) (by omega) rowPairS (by kernel_rfl) widePairS)
theorem pair_someS (a b : Int) (h : Wf2 a b) : (keyOf Tryd.prog 49 (pairV a b)).isSome = true := by
  obtain ⟨n, hn⟩ : ∃ n, Tryd.prog.types.size = n := ⟨_, rfl⟩
  have hpos : (49 : Nat) < n := by rw [← hn]; exact rowPairS
  obtain ⟨m, rfl⟩ : ∃ m, n = m + 1 := ⟨n - 1, by omega⟩
  have e3 : ∀ m x, (Lit.int .i64 x).wf = true → Tryd.prog.keyLits (m + 1) 3 [.int .i64 x] = some [.int .i64 x] := fun m x hx => by
    unfold Program.keyLits
    rw [Tryd.underlying3]
    simp [hx]
  have e : Tryd.prog.keyLits (m + 1 + 1) 49 [.int .i64 a, .int .i64 b] = some [.int .i64 a, .int .i64 b] := by
    unfold Program.keyLits
    rw [Tryd.underlying49]
    simp [cellsPairS, cellsInt1, e3 m a h.1, e3 m b h.2]
  have hf : (pairV a b).formed Tryd.prog 49 = true := by
    unfold pairV
    simp [Value.formed, Tryd.underlying49, cellsPairS]
  unfold keyOf
  rw [Tryd.underlying49]
  simp only [deepPairS, hf, hn, Bool.and_self, if_true]
  rw [show (pairV a b).cells.toList = [.int .i64 a, .int .i64 b] from rfl, e]
  rfl
theorem pairKS : PairK Tryd.prog 49 := ⟨keyedPairS, pair_someS⟩
theorem zeroI (w : World) : (zeroValue 3).run Tryd.prog w = .ok (.int .i64 0) w := by kernel_rfl
theorem zeroB (w : World) : (zeroValue 4).run Tryd.prog w = .ok (.bool false) w := by kernel_rfl

/-- in: a tag's thing; gone: the tags that are gone. -/
abbrev In1 : Type := Int → Int → Option Int
abbrev Go1 : Type := Int → Int → Option Bool
abbrev mkI (x : Int) : Value := .int .i64 x
abbrev mkB (b : Bool) : Value := .bool b
abbrev InK (w : World) (M : Nat) (f : In1) : Prop := MapK Tryd.prog 49 mkI w M f
abbrev GoK (w : World) (M : Nat) (f : Go1) : Prop := MapK Tryd.prog 49 mkB w M f

/-- The program's things are what the two maps say. -/
structure Rel (f : Th) (i : In1) (g : Go1) : Prop where
  th : ∀ a b, f a b = (i a b).map fun x => ⟨x, (g a b).isSome⟩
  yes : ∀ a b x, g a b = some x → x = true
  sub : ∀ a b, (g a b).isSome = true → (i a b).isSome = true
theorem Rel.none : Rel (fun _ _ => none) (fun _ _ => none) (fun _ _ => none) := ⟨fun _ _ => rfl, fun _ _ _ h => (by cases h), fun _ _ h => (by cases h)⟩
theorem Rel.some_ {f : Th} {i : In1} {g : Go1} (h : Rel f i g) (a b : Int) : (f a b).isSome = (i a b).isSome := by rw [h.th]; simp
theorem Rel.has {f : Th} {i : In1} {g : Go1} (h : Rel f i g) (x : Int) : HasT f x ↔ ∃ a b, i a b = some x ∧ g a b = Option.none := by
  unfold HasT
  constructor
  · rintro ⟨a, b, e⟩
    rw [h.th] at e
    cases hi : i a b with
    | none => rw [hi] at e; cases e
    | some y =>
      rw [hi] at e
      simp at e
      exact ⟨a, b, by rw [hi, e.1], e.2⟩
  · rintro ⟨a, b, e1, e2⟩
    exact ⟨a, b, by rw [h.th, e1, e2]; rfl⟩

/-- Put. -/
theorem Rel.put {f : Th} {i : In1} {g : Go1} (h : Rel f i g) {p m : Int} (hn : i p m = Option.none) (x : Int) : Rel (putK2 f p m ⟨x, false⟩) (putK2 i p m x) g := by
  have hg : g p m = Option.none := by
    cases e : g p m with
    | none => rfl
    | some y => have := h.sub p m (by rw [e]; rfl); rw [hn] at this; cases this
  refine ⟨fun a b => ?_, h.yes, fun a b hs => ?_⟩
  · by_cases e : a = p ∧ b = m
    · obtain ⟨rfl, rfl⟩ := e
      rw [putK2_same, putK2_same, hg]; rfl
    · rw [putK2_other _ _ _ _ _ _ e, putK2_other _ _ _ _ _ _ e]; exact h.th a b
  · by_cases e : a = p ∧ b = m
    · obtain ⟨rfl, rfl⟩ := e
      rw [putK2_same]; rfl
    · rw [putK2_other _ _ _ _ _ _ e]; exact h.sub a b hs
/-- Drop. -/
def dropG (i : In1) (g : Go1) (x : Int) : Go1 := fun a b => if i a b = some x then some true else g a b
theorem Rel.drop {f : Th} {i : In1} {g : Go1} (h : Rel f i g) (x : Int) : Rel (dropT f x) i (dropG i g x) := by
  refine ⟨fun a b => ?_, fun a b y hy => ?_, fun a b hs => ?_⟩
  · unfold dropT dropG
    rw [h.th]
    cases i a b with
    | none => rfl
    | some y =>
      by_cases e : y = x
      · subst e; simp
      · simp [e]
  · unfold dropG at hy
    split at hy
    · exact (Option.some.inj hy).symm
    · exact h.yes a b y hy
  · unfold dropG at hs
    split at hs
    · rename_i e; rw [e]; rfl
    · exact h.sub a b hs
/-- Join. -/
def joinK {β : Type} (f g : Int → Int → Option β) : Int → Int → Option β := fun a b => match g a b with | some x => some x | Option.none => f a b
theorem Rel.join {f f' : Th} {i i' : In1} {g g' : Go1} (h : Rel f i g) (h' : Rel f' i' g') : Rel (joinT f f') (joinK i i') (joinK g g') := by
  refine ⟨fun a b => ?_, fun a b y hy => ?_, fun a b hs => ?_⟩
  · unfold joinT joinK goneT
    rw [h.th, h'.th]
    have s1 := h.sub a b
    have s2 := h'.sub a b
    cases hi : i a b <;> cases hi' : i' a b <;> cases hg : g a b <;> cases hg' : g' a b <;> simp_all
  · unfold joinK at hy
    split at hy
    · rename_i e; exact h'.yes a b y (by rw [e, hy])
    · exact h.yes a b y hy
  · unfold joinK at hs ⊢
    have s1 := h.sub a b
    have s2 := h'.sub a b
    cases hi : i a b <;> cases hi' : i' a b <;> cases hg : g a b <;> cases hg' : g' a b <;> simp_all

/-- A number goes into a strictly rising list at its place. -/
theorem ins_rising {l : List Int} (h : l.Pairwise (· < ·)) {y : Int} {k : Nat} (hk : k ≤ l.length) (hlo : ∀ j (hj : j < l.length), j < k → l[j] < y) (hhi : ∀ hj : k < l.length, y < l[k]) :
    (l.take k ++ y :: l.drop k).Pairwise (· < ·) ∧ ∀ x, x ∈ l.take k ++ y :: l.drop k ↔ x = y ∨ x ∈ l := by
  have hlt : ∀ x ∈ l.take k, x < y := fun x hx => by
    obtain ⟨j, hj, rfl⟩ := List.mem_iff_getElem.1 hx
    rw [List.length_take] at hj
    rw [List.getElem_take]
    exact hlo j (by omega) (by omega)
  have hgt : ∀ x ∈ l.drop k, y < x := fun x hx => by
    obtain ⟨j, hj, rfl⟩ := List.mem_iff_getElem.1 hx
    rw [List.length_drop] at hj
    rw [List.getElem_drop]
    have h1 := hhi (by omega)
    rcases Nat.eq_zero_or_pos j with e | e
    · subst e; simpa using h1
    · have := List.pairwise_iff_getElem.1 h k (k + j) (by omega) (by omega) (by omega)
      omega
  refine ⟨List.pairwise_append.2 ⟨h.sublist (List.take_sublist _ _), List.pairwise_cons.2 ⟨hgt, h.sublist (List.drop_sublist _ _)⟩, fun x hx z hz => ?_⟩, fun x => ?_⟩
  · rcases List.mem_cons.1 hz with e | e
    · subst e; exact hlt x hx
    · have := hlt x hx; have := hgt z e; omega
  · rw [List.mem_append, List.mem_cons]
    constructor
    · rintro (e | e | e)
      · exact .inr (List.mem_of_mem_take e)
      · exact .inl e
      · exact .inr (List.mem_of_mem_drop e)
    · rintro (e | e)
      · exact .inr (.inl e)
      · rw [← List.take_append_drop k l, List.mem_append] at e
        exact e.imp id .inr
end Go.Proofs.YthphoiadhddggaaDoor
