/-
  The document's own Zones in plain Lean: all ops and the write of 0 ahead of them; zones put in where they belong.
-/
import Derived.Test.YtelndpbkheoeaaaDoorZnPZ
namespace Go.Proofs.YtelndpbkheoeaaaDoor

def opW0 : Opn := ⟨0, 0, 2, 0, 0, 0, -2, -1⟩
def allO (l : List Opn) : List Opn := opW0 :: l
theorem allO_len (l : List Opn) : (allO l).length = l.length + 1 := rfl
theorem allO_zero (l : List Opn) : opZ (allO l) 0 = opW0 := rfl
theorem allO_succ (l : List Opn) (i : Nat) : opZ (allO l) (i + 1) = opZ l i := by simp [opZ, allO]

/-- Whether a write explains a read. -/
def explB (x y : Opn) : Bool := y.d == 2 && y.a == x.r && decide (y.c ≤ x.e)
theorem any_allO {l : List Opn} {x : Opn} : (allO l).any (explB x) = true ↔ explB x opW0 = true ∨ ∃ i, i < l.length ∧ explB x (opZ l i) = true := by
  unfold allO
  rw [List.any_cons, Bool.or_eq_true, List.any_eq_true]
  constructor
  · rintro (h | ⟨y, hy, h⟩)
    · exact .inl h
    · obtain ⟨i, hi, rfl⟩ := List.getElem_of_mem hy
      exact .inr ⟨i, hi, by rw [opZ_at hi]; exact h⟩
  · rintro (h | ⟨i, hi, h⟩)
    · exact .inl h
    · exact .inr ⟨_, List.getElem_mem hi, by rw [opZ_at hi] at h; exact h⟩

/-- What the document says of a read that can't be is what the spans say. -/
theorem expl_none {l : List Opn} (ok : ZOk l) {j : Nat} (hj : j < l.length) : noneB (spW l l.length) (opZ l j) = !(allO l).any (explB (opZ l j)) := by
  have he := ok.back j hj
  cases ha : (allO l).any (explB (opZ l j)) with
  | true =>
    rcases any_allO.1 ha with h | ⟨i, hi, h⟩
    · simp [explB, opW0] at h
      have : spW l l.length (opZ l j).r = some ⟨-2, -1, -2⟩ := (spW_iff ok l.length (Nat.le_refl _) _ _).2 (.inl ⟨h.1.symm, rfl⟩)
      unfold noneB
      rw [this]
      simp; omega
    · simp [explB] at h
      have : spW l l.length (opZ l j).r = some ⟨(opZ l i).c, (opZ l i).e, (opZ l i).c⟩ := (spW_iff ok l.length (Nat.le_refl _) _ _).2 (.inr ⟨i, hi, h.1.1, h.1.2, rfl⟩)
      unfold noneB
      rw [this]
      simp; omega
  | false =>
    unfold noneB
    cases hs : spW l l.length (opZ l j).r with
    | none => rfl
    | some s =>
      show decide ((opZ l j).e < s.w) = !false
      have hn : ¬ (allO l).any (explB (opZ l j)) = true := by rw [ha]; simp
      rcases (spW_iff ok l.length (Nat.le_refl _) _ _).1 hs with ⟨h0, rfl⟩ | ⟨i, hi, hdi, hai, rfl⟩
      · exact absurd (any_allO.2 (.inl (by show (true && (0 == (opZ l j).r) && decide (-2 ≤ (opZ l j).e)) = true; rw [h0]; simp; omega))) hn
      · simp only [Bool.not_false, decide_eq_true_eq]
        refine Classical.byContradiction fun hc => hn (any_allO.2 (.inr ⟨i, hi, ?_⟩))
        simp [explB, hdi, hai]; omega

/-- The edges of a value among all ops. -/
def edE (A : List Opn) (v e0 : Int) : Nat → Int
  | 0 => e0
  | k + 1 => if valO (opZ A k) = v then min (edE A v e0 k) (opZ A k).e else edE A v e0 k
def edB (A : List Opn) (v b0 : Int) : Nat → Int
  | 0 => b0
  | k + 1 => if valO (opZ A k) = v then max (edB A v b0 k) (opZ A k).c else edB A v b0 k
theorem edE_all (l : List Opn) (v e0 : Int) (h : v = 0 → e0 = -1) : ∀ k, edE (allO l) v e0 (k + 1) = leastE l v e0 k
  | 0 => by
    show (if valO opW0 = v then min e0 (opW0).e else e0) = e0
    by_cases hv : v = 0
    · subst hv; have := h rfl; subst this; rfl
    · rw [if_neg (by simp [valO, opW0]; exact fun e => hv e.symm)]
  | k + 1 => by
    have ih := edE_all l v e0 h k
    show (if valO (opZ (allO l) (k + 1)) = v then min (edE (allO l) v e0 (k + 1)) (opZ (allO l) (k + 1)).e else edE (allO l) v e0 (k + 1)) = _
    rw [ih, allO_succ]
    rfl
theorem edB_all (l : List Opn) (v b0 : Int) (h : v = 0 → b0 = -2) : ∀ k, edB (allO l) v b0 (k + 1) = mostB l v b0 k
  | 0 => by
    show (if valO opW0 = v then max b0 (opW0).c else b0) = b0
    by_cases hv : v = 0
    · subst hv; have := h rfl; subst this; rfl
    · rw [if_neg (by simp [valO, opW0]; exact fun e => hv e.symm)]
  | k + 1 => by
    have ih := edB_all l v b0 h k
    show (if valO (opZ (allO l) (k + 1)) = v then max (edB (allO l) v b0 (k + 1)) (opZ (allO l) (k + 1)).c else edB (allO l) v b0 (k + 1)) = _
    rw [ih, allO_succ]
    rfl

/-- The zone of a write of all. -/
def zoneA (l : List Opn) (j : Nat) : Zon :=
  zonOf (opZ (allO l) j).a ⟨(opZ (allO l) j).c, edE (allO l) (opZ (allO l) j).a (opZ (allO l) j).e (l.length + 1), edB (allO l) (opZ (allO l) j).a (opZ (allO l) j).c (l.length + 1)⟩

theorem zoneA_span {l : List Opn} (ok : ZOk l) {j : Nat} (hj : j < l.length + 1) (hd : (opZ (allO l) j).d = 2) : ∃ s, spanO l (opZ (allO l) j).a = some s ∧ zoneA l j = zonOf (opZ (allO l) j).a s := by
  cases j with
  | zero =>
    have hw : spW l l.length 0 = some ⟨-2, -1, -2⟩ := (spW_iff ok l.length (Nat.le_refl _) _ _).2 (.inl ⟨rfl, rfl⟩)
    refine ⟨⟨-2, leastE l 0 (-1) l.length, mostB l 0 (-2) l.length⟩, ?_, ?_⟩
    · show spR l l.length 0 = _
      rw [spR_eq ok l.length (Nat.le_refl _), hw]; rfl
    · unfold zoneA
      show zonOf 0 ⟨-2, edE (allO l) 0 (-1) (l.length + 1), edB (allO l) 0 (-2) (l.length + 1)⟩ = _
      rw [edE_all l 0 (-1) (fun _ => rfl), edB_all l 0 (-2) (fun _ => rfl)]
      rfl
  | succ i =>
    rw [allO_succ] at hd
    have hi : i < l.length := by omega
    have h0 := (ok.write i hi hd).1
    have hw : spW l l.length (opZ l i).a = some ⟨(opZ l i).c, (opZ l i).e, (opZ l i).c⟩ := (spW_iff ok l.length (Nat.le_refl _) _ _).2 (.inr ⟨i, hi, hd, rfl, rfl⟩)
    refine ⟨⟨(opZ l i).c, leastE l (opZ l i).a (opZ l i).e l.length, mostB l (opZ l i).a (opZ l i).c l.length⟩, ?_, ?_⟩
    · show spR l l.length _ = _
      rw [allO_succ, spR_eq ok l.length (Nat.le_refl _), hw]; rfl
    · unfold zoneA
      rw [edE_all l _ _ (fun e => by rw [allO_succ] at e; exact absurd e h0), edB_all l _ _ (fun e => by rw [allO_succ] at e; exact absurd e h0), allO_succ]

/-- The zones of the first k of all, rising. -/
structure ZPart (l : List Opn) (k : Nat) (L : List Zon) : Prop where
  mem : ∀ z, z ∈ L ↔ ∃ j, j < k ∧ (opZ (allO l) j).d = 2 ∧ z = zoneA l j
  sorted : L.Pairwise (fun x y => x.lo < y.lo)
  len : L.length ≤ k
theorem zPart_nil (l : List Opn) : ZPart l 0 [] := ⟨fun z => by simp, List.Pairwise.nil, Nat.le_refl _⟩
theorem ZPart.skip {l : List Opn} {k : Nat} {L : List Zon} (h : ZPart l k L) (hd : (opZ (allO l) k).d ≠ 2) : ZPart l (k + 1) L := by
  refine ⟨fun z => ?_, h.sorted, Nat.le_succ_of_le h.len⟩
  rw [h.mem z]
  constructor
  · rintro ⟨j, hj, r⟩; exact ⟨j, by omega, r⟩
  · rintro ⟨j, hj, hdj, r⟩
    by_cases e : j = k
    · subst e; exact absurd hdj hd
    · exact ⟨j, by omega, hdj, r⟩
theorem ZPart.put {l : List Opn} {k a : Nat} {L : List Zon} (ok : ZOk l) (h : ZPart l k L) (hk : k < l.length + 1) (hd : (opZ (allO l) k).d = 2) (ha : a ≤ L.length)
    (hup : ∀ i, a ≤ i → i < L.length → (zoneA l k).lo < (zonI L i).lo) (hdown : a = 0 ∨ (zonI L (a - 1)).lo ≤ (zoneA l k).lo) : ZPart l (k + 1) (L.take a ++ zoneA l k :: L.drop a) := by
  have hne : ∀ z ∈ L, z.lo ≠ (zoneA l k).lo := fun z hz => by
    obtain ⟨j, hj, hdj, rfl⟩ := (h.mem z).1 hz
    obtain ⟨s, hs, e1⟩ := zoneA_span ok (by omega : j < l.length + 1) hdj
    obtain ⟨t, ht, e2⟩ := zoneA_span ok hk hd
    rw [e1, e2]
    refine lo_apart ok (fun e => ?_) hs ht
    have wr : ∀ m, m < l.length + 1 → (opZ (allO l) m).d = 2 → m = 0 ∧ (opZ (allO l) m).a = 0 ∨ ∃ i, m = i + 1 ∧ i < l.length ∧ (opZ l i).d = 2 ∧ (opZ (allO l) m).a = (opZ l i).a := fun m hm hdm => by
      cases m with
      | zero => exact .inl ⟨rfl, rfl⟩
      | succ i => rw [allO_succ] at hdm ⊢; exact .inr ⟨i, rfl, by omega, hdm, rfl⟩
    rcases wr j (by omega) hdj with ⟨a1, a2⟩ | ⟨i, a1, a2, a3, a4⟩
    · rcases wr k hk hd with ⟨b1, _⟩ | ⟨i', b1, b2, b3, b4⟩
      · omega
      · exact (ok.write i' b2 b3).1 (by rw [← b4, ← e, a2])
    · rcases wr k hk hd with ⟨b1, b2⟩ | ⟨i', b1, b2, b3, b4⟩
      · exact (ok.write i a2 a3).1 (by rw [← a4, e, b2])
      · have := ok.once i i' a2 b2 a3 b3 (by rw [← a4, ← b4]; exact e)
        omega
  have hlt : ∀ i, i < a → i < L.length → (zonI L i).lo < (zoneA l k).lo := fun i hi hil => by
    rcases hdown with h0 | hdn
    · omega
    · have h1 : (zonI L i).lo ≤ (zonI L (a - 1)).lo := by
        by_cases e : i = a - 1
        · rw [e]; omega
        · have hp := (List.pairwise_iff_getElem.1 h.sorted) i (a - 1) hil (by omega) (by omega)
          rw [zonI_at hil, zonI_at (by omega : a - 1 < L.length)]
          omega
      have h2 := hne (zonI L i) (by rw [zonI_at hil]; exact List.getElem_mem hil)
      omega
  refine ⟨fun z => ?_, ?_, ?_⟩
  · rw [List.mem_append, List.mem_cons, ← or_assoc, or_right_comm, ← List.mem_append, List.take_append_drop, h.mem z]
    constructor
    · rintro (⟨j, hj, r⟩ | rfl)
      · exact ⟨j, by omega, r⟩
      · exact ⟨k, by omega, hd, rfl⟩
    · rintro ⟨j, hj, hdj, r⟩
      by_cases e : j = k
      · subst e; exact .inr r
      · exact .inl ⟨j, by omega, hdj, r⟩
  · rw [List.pairwise_append]
    refine ⟨h.sorted.sublist (List.take_sublist _ _), List.pairwise_cons.2 ⟨fun z hz => ?_, h.sorted.sublist (List.drop_sublist _ _)⟩, fun x hx y hy => ?_⟩
    · obtain ⟨i, hi, rfl⟩ := List.getElem_of_mem hz
      rw [List.length_drop] at hi
      have := hup (a + i) (by omega) (by omega)
      rw [zonI_at (by omega)] at this
      simpa using this
    · obtain ⟨i, hi, rfl⟩ := List.getElem_of_mem hx
      rw [List.length_take] at hi
      have h1 := hlt i (by omega) (by omega)
      rw [zonI_at (by omega)] at h1
      have h1' : ((L.take a)[i]'(by rw [List.length_take]; omega)).lo < (zoneA l k).lo := by simpa using h1
      rcases List.mem_cons.1 hy with rfl | hy
      · exact h1'
      · obtain ⟨i2, hi2, rfl⟩ := List.getElem_of_mem hy
        rw [List.length_drop] at hi2
        have h2 := hup (a + i2) (by omega) (by omega)
        rw [zonI_at (by omega)] at h2
        have h2' : (zoneA l k).lo < ((L.drop a)[i2]'(by rw [List.length_drop]; omega)).lo := by simpa using h2
        omega
  · have := h.len
    simp
    omega
theorem ZPart.all {l : List Opn} {L : List Zon} (ok : ZOk l) (h : ZPart l (l.length + 1) L) : ZList l L := by
  refine ⟨fun z => ?_, h.sorted⟩
  rw [h.mem z]
  constructor
  · rintro ⟨j, hj, hd, rfl⟩
    obtain ⟨s, hs, e⟩ := zoneA_span ok hj hd
    rw [e]
    exact ⟨s, hs, rfl⟩
  · rintro ⟨s, hs, e⟩
    have hs' := hs
    unfold spanO at hs'
    rw [spR_eq ok l.length (Nat.le_refl _)] at hs'
    obtain ⟨s0, h0, _⟩ := Option.map_eq_some_iff.1 hs'
    have hw : ∃ j, j < l.length + 1 ∧ (opZ (allO l) j).d = 2 ∧ (opZ (allO l) j).a = z.v := by
      rcases (spW_iff ok l.length (Nat.le_refl _) _ _).1 h0 with ⟨hv, _⟩ | ⟨i, hi, hd, ha, _⟩
      · exact ⟨0, by omega, rfl, hv.symm⟩
      · exact ⟨i + 1, by omega, by rw [allO_succ]; exact hd, by rw [allO_succ]; exact ha⟩
    obtain ⟨j, hj, hd, ha⟩ := hw
    refine ⟨j, hj, hd, ?_⟩
    obtain ⟨t, ht, e2⟩ := zoneA_span ok hj hd
    rw [ha] at ht e2
    rw [e2, e, Option.some.inj (hs.symm.trans ht)]
    rfl

end Go.Proofs.YtelndpbkheoeaaaDoor
