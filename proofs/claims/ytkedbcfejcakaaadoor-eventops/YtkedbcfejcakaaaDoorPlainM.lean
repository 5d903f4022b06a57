/-
  The document's own codes and ops are the history's: plain facts.
-/
import Derived.Test.YtkedbcfejcakaaaDoorPlainL
namespace Go.Proofs.YtkedbcfejcakaaaDoor

/-- The last event of a process, and what the history holds of it. -/
def LastIs (l : List Ev) (n : Nat) (p : Int) : Prop :=
  (lastK l p n = -1 ∧ (hist l n).busy p = none ∧ (hist l n).lost p = false) ∨
  ∃ (k : Nat) (h : k < l.length), lastK l p n = k ∧ k < n ∧ l[k].p = p ∧
    ((l[k].t = 1 ∧ (hist l n).busy p = some (l[k].op k) ∧ (hist l n).lost p = false) ∨ (l[k].t = 4 ∧ (hist l n).busy p = none ∧ (hist l n).lost p = true) ∨
      (l[k].t ≠ 1 ∧ l[k].t ≠ 4 ∧ (hist l n).busy p = none ∧ (hist l n).lost p = false))

theorem lastIs (l : List Ev) (n : Nat) (hn : n ≤ l.length) (hf : FineH l n) (p : Int) : LastIs l n p := by
  induction n generalizing p with
  | zero => exact .inl ⟨rfl, rfl, rfl⟩
  | succ n ih =>
    have hl : n < l.length := by omega
    have hz : seeN l[n] (hist l n) = 0 := hf n hl (by omega)
    have ih := ih (by omega) (fun i h hi => hf i h (by omega))
    unfold LastIs
    rw [lastK_succ l p n hl, hist_succ l n hl]
    have hfault : l[n].fault = 0 := by
      unfold seeN at hz
      by_cases h : l[n].fault ≠ 0
      · rw [if_pos h] at hz; exact hz
      · exact Classical.not_not.1 h
    by_cases hp : l[n].p = p
    · subst hp
      rw [if_pos rfl]
      refine .inr ⟨n, hl, rfl, by omega, rfl, ?_⟩
      unfold seeN at hz
      rw [if_neg (by simp [hfault])] at hz
      by_cases ht : l[n].t = 1
      · rw [if_pos ht] at hz
        have hbl : ((hist l n).busy l[n].p).isSome = false ∧ (hist l n).lost l[n].p = false := by
          by_cases h : (((hist l n).busy l[n].p).isSome || (hist l n).lost l[n].p) = true
          · rw [if_pos h] at hz; cases hz
          · simpa using h
        have hs : seeS n l[n] (hist l n) = ⟨setO (hist l n).busy l[n].p (some (l[n].op n)), (hist l n).lost, (hist l n).done⟩ := by unfold seeS; rw [if_pos ht]
        rw [hs]
        exact .inl ⟨ht, setO_same _ _ _, hbl.2⟩
      · rw [if_neg ht] at hz
        cases hb : (hist l n).busy l[n].p with
        | none => rw [hb] at hz; cases hz
        | some o =>
          have hlost : (hist l n).lost l[n].p = false := by
            rcases ih l[n].p with ⟨_, h, _⟩ | ⟨k, _, _, _, _, ⟨_, _, h⟩ | ⟨_, h, _⟩ | ⟨_, _, h, _⟩⟩
            · rw [hb] at h; cases h
            · exact h
            · rw [hb] at h; cases h
            · rw [hb] at h; cases h
          by_cases h2 : l[n].t = 2
          · have hs : seeS n l[n] (hist l n) = ⟨setO (hist l n).busy l[n].p none, (hist l n).lost, (hist l n).done ++ [endO o l[n].r n]⟩ := by unfold seeS; rw [if_neg ht, hb]; simp [h2]
            rw [hs]
            exact .inr (.inr ⟨ht, by omega, setO_same _ _ _, hlost⟩)
          · by_cases h4 : l[n].t = 4
            · have hs : seeS n l[n] (hist l n) = ⟨setO (hist l n).busy l[n].p none, setB (hist l n).lost l[n].p true, (hist l n).done ++ [o]⟩ := by unfold seeS; rw [if_neg ht, hb]; simp [h4]
              rw [hs]
              exact .inr (.inl ⟨h4, setO_same _ _ _, by simp [setB]⟩)
            · have hs : seeS n l[n] (hist l n) = ⟨setO (hist l n).busy l[n].p none, (hist l n).lost, (hist l n).done⟩ := by unfold seeS; rw [if_neg ht, hb]; simp [h2, h4]
              rw [hs]
              exact .inr (.inr ⟨ht, h4, setO_same _ _ _, hlost⟩)
    · rw [if_neg hp]
      have hne : p ≠ l[n].p := fun k => hp k.symm
      have hs : (seeS n l[n] (hist l n)).busy p = (hist l n).busy p ∧ (seeS n l[n] (hist l n)).lost p = (hist l n).lost p := by
        unfold seeS
        split
        · exact ⟨setO_other _ _ _ _ hne, rfl⟩
        · split
          · exact ⟨rfl, rfl⟩
          · split
            · exact ⟨setO_other _ _ _ _ hne, rfl⟩
            · split
              · exact ⟨setO_other _ _ _ _ hne, by simp [setB, hne]⟩
              · exact ⟨setO_other _ _ _ _ hne, rfl⟩
      rw [hs.1, hs.2]
      rcases ih p with h | ⟨k, hk, h1, h2, h3⟩
      · exact .inl h
      · exact .inr ⟨k, hk, h1, by omega, h3⟩

/-- The op that is begun at i, by the events of all. -/
def opAt (l : List Ev) (i : Nat) : Option Opn :=
  match l[i]? with
  | none => none
  | some e => if e.t ≠ 1 then none else
    match nxtTo l i l.length with
    | none => some (e.op i)
    | some k => match l[k]? with
      | none => none
      | some f => if f.t = 3 then none else if f.t = 2 then some (endO (e.op i) f.r k) else some (e.op i)
def opsTo (l : List Ev) (n : Nat) : List Opn := (List.range n).filterMap (opAt l)

theorem opsTo_succ (l : List Ev) (n : Nat) : opsTo l (n + 1) = opsTo l n ++ (opAt l n).toList := by
  unfold opsTo
  rw [List.range_succ, List.filterMap_append]
  cases h : opAt l n <;> simp [h]

theorem opAt_c {l : List Ev} {i : Nat} {x : Opn} (h : opAt l i = some x) : x.c = i := by
  unfold opAt at h
  split at h
  · cases h
  · split at h
    · cases h
    · split at h
      · obtain rfl := Option.some.inj h; rfl
      · split at h
        · cases h
        · split at h
          · cases h
          · split at h <;> (obtain rfl := Option.some.inj h; rfl)

theorem opsTo_rising (l : List Ev) (n : Nat) : (opsTo l n).Pairwise (fun x y => x.c < y.c) := by
  unfold opsTo
  refine List.pairwise_filterMap.2 (List.Pairwise.imp ?_ List.pairwise_lt_range)
  intro a b hab x hx y hy
  rw [opAt_c hx, opAt_c hy]; omega

/-- Two rising lists of the same members are one. -/
theorem rising_eq : ∀ {L M : List Opn}, L.Pairwise (fun x y => x.c < y.c) → M.Pairwise (fun x y => x.c < y.c) → (∀ x, x ∈ L ↔ x ∈ M) → L = M
  | [], [], _, _, _ => rfl
  | [], y :: _, _, _, h => absurd ((h y).2 (List.mem_cons_self ..)) (List.not_mem_nil)
  | x :: _, [], _, _, h => absurd ((h x).1 (List.mem_cons_self ..)) (List.not_mem_nil)
  | x :: L, y :: M, hL, hM, h => by
    obtain ⟨a1, a2⟩ := List.pairwise_cons.1 hL
    obtain ⟨b1, b2⟩ := List.pairwise_cons.1 hM
    have hxy : x = y := by
      rcases List.mem_cons.1 ((h x).1 (List.mem_cons_self ..)) with e | e
      · exact e
      · rcases List.mem_cons.1 ((h y).2 (List.mem_cons_self ..)) with e' | e'
        · exact e'.symm
        · have := b1 x e; have := a1 y e'; omega
    subst hxy
    refine congrArg _ (rising_eq a2 b2 fun z => ?_)
    constructor
    · intro hz
      rcases List.mem_cons.1 ((h z).1 (List.mem_cons_of_mem _ hz)) with e | e
      · subst e; exact absurd (a1 _ hz) (by omega)
      · exact e
    · intro hz
      rcases List.mem_cons.1 ((h z).2 (List.mem_cons_of_mem _ hz)) with e | e
      · subst e; exact absurd (b1 _ hz) (by omega)
      · exact e

theorem fine_type {l : List Ev} {n k : Nat} (hf : FineH l n) (hk : k < l.length) (hkn : k < n) : l[k].fault = 0 ∧ 1 ≤ l[k].t ∧ l[k].t ≤ 4 := by
  have hz := hf k hk hkn
  have hfault : l[k].fault = 0 := by
    unfold seeN at hz
    by_cases h : l[k].fault ≠ 0
    · rw [if_pos h] at hz; exact hz
    · exact Classical.not_not.1 h
  obtain ⟨_, h1, h2, _⟩ := fault_parts hfault
  exact ⟨hfault, h1, h2⟩

theorem mem_opsTo (l : List Ev) (x : Opn) : x ∈ opsTo l l.length ↔ ∃ (i : Nat) (_ : i < l.length), opAt l i = some x := by
  unfold opsTo
  rw [List.mem_filterMap]
  constructor
  · rintro ⟨i, hi, h⟩; exact ⟨i, List.mem_range.1 hi, h⟩
  · rintro ⟨i, hi, h⟩; exact ⟨i, List.mem_range.2 hi, h⟩

theorem ops_same {l : List Ev} {L : List Opn} (hf : FineH l l.length) (h : OpsOf (hist l l.length) L) : L = opsTo l l.length := by
  have I := inv_hist l l.length (Nat.le_refl _) hf
  have hr : L.Pairwise (fun x y => x.c < y.c) := (opsOf_rising I h).imp fun h => h.1
  refine rising_eq hr (opsTo_rising l _) fun x => ?_
  obtain ⟨qs, _, hq, hp, _⟩ := h
  rw [hp.mem_iff, List.mem_append, mem_opsTo, done_iff l l.length (Nat.le_refl _)]
  have hpend : x ∈ qs.filterMap (hist l l.length).busy ↔ ∃ p, (hist l l.length).busy p = some x := by
    rw [List.mem_filterMap]
    constructor
    · rintro ⟨p, _, h⟩; exact ⟨p, h⟩
    · rintro ⟨p, h⟩; exact ⟨p, (hq p).2 (by rw [h]; rfl), h⟩
  rw [hpend]
  constructor
  · rintro (⟨i, k, hi, hk, h1, h2, h3⟩ | ⟨p, h⟩)
    · refine ⟨i, hi, ?_⟩
      unfold opAt
      rw [List.getElem?_eq_getElem hi]
      simp only [h1, ne_eq, not_true, if_false, h2]
      rw [List.getElem?_eq_getElem hk]
      rcases h3 with ⟨h4, rfl⟩ | ⟨h4, rfl⟩
      · simp [h4]
      · simp [h4]
    · obtain ⟨i, hi, _, h1, _, rfl, h2⟩ := (busy_iff l l.length (Nat.le_refl _) p x).1 h
      refine ⟨i, hi, ?_⟩
      unfold opAt
      rw [List.getElem?_eq_getElem hi]
      simp only [h1, ne_eq, not_true, if_false, h2]
  · rintro ⟨i, hi, h⟩
    unfold opAt at h
    rw [List.getElem?_eq_getElem hi] at h
    by_cases h1 : l[i].t = 1
    · simp only [h1, ne_eq, not_true, if_false] at h
      cases e : nxtTo l i l.length with
      | none =>
        rw [e] at h
        obtain rfl := Option.some.inj h
        exact .inr ⟨l[i].p, (busy_iff l l.length (Nat.le_refl _) _ _).2 ⟨i, hi, hi, h1, rfl, rfl, e⟩⟩
      | some k =>
        rw [e] at h
        obtain ⟨a1, a2, a3, hk, _, a4⟩ := nxtTo_spec l i l.length k (Nat.le_refl _) e
        simp only [List.getElem?_eq_getElem hk] at h
        obtain ⟨f0, f1, f2⟩ := fine_type hf hk hk
        have hne1 : l[k].t ≠ 1 := fun ht => by
          have hb := (busy_iff l k (by omega) l[k].p (l[i].op i)).2 ⟨i, hi, a1, h1, a4.symm, rfl, a3⟩
          have hz := hf k hk hk
          unfold seeN at hz
          rw [if_neg (by simp [f0]), if_pos ht, hb] at hz
          simp at hz
        by_cases h3 : l[k].t = 3
        · simp [h3] at h
        · by_cases h2 : l[k].t = 2
          · simp only [h2] at h
            simp at h
            exact .inl ⟨i, k, hi, hk, h1, e, .inl ⟨h2, h.symm⟩⟩
          · rw [if_neg h3, if_neg h2] at h
            exact .inl ⟨i, k, hi, hk, h1, e, .inr ⟨by omega, (Option.some.inj h).symm⟩⟩
    · simp [h1] at h

end Go.Proofs.YtkedbcfejcakaaaDoor
