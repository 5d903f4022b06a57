/-
  The document's own way to the ops of events, as plain data: the last event of a process ahead, the next one behind; and that it is the history's. Nothing of the program is named here.
-/
import Derived.Test.YtkedbcfejcakaaaDoorPlainK
namespace Go.Proofs.YtkedbcfejcakaaaDoor

/-- The number of the last of the first n events that is a process' own; -1: there is none. -/
def lastK (l : List Ev) (p : Int) : Nat → Int
  | 0 => -1
  | n + 1 => match l[n]? with
    | some e => if e.p = p then (n : Int) else lastK l p n
    | none => lastK l p n

/-- The first event behind i, of the first n, of the process of i. -/
def nxtTo (l : List Ev) (i : Nat) : Nat → Option Nat
  | 0 => none
  | n + 1 => match nxtTo l i n with
    | some k => some k
    | none => if i < n ∧ (l[n]?).map Ev.p = (l[i]?).map Ev.p then some n else none

theorem lastK_succ (l : List Ev) (p : Int) (n : Nat) (h : n < l.length) : lastK l p (n + 1) = if l[n].p = p then (n : Int) else lastK l p n := by
  show (match l[n]? with | some e => if e.p = p then (n : Int) else lastK l p n | none => lastK l p n) = _
  rw [List.getElem?_eq_getElem h]

theorem nxtTo_early (l : List Ev) (i n : Nat) (h : n ≤ i + 1) : nxtTo l i n = none := by
  induction n with
  | zero => rfl
  | succ n ih =>
    show (match nxtTo l i n with | some k => some k | none => if i < n ∧ _ then some n else none) = none
    rw [ih (by omega)]
    exact if_neg (by omega)

theorem nxtTo_succ_none (l : List Ev) (i n : Nat) (hi : i < n) (hn : n < l.length) (h : nxtTo l i n = none) : nxtTo l i (n + 1) = if l[n].p = (l[i]'(by omega)).p then some n else none := by
  show (match nxtTo l i n with | some k => some k | none => if i < n ∧ (l[n]?).map Ev.p = (l[i]?).map Ev.p then some n else none) = _
  rw [h, List.getElem?_eq_getElem hn, List.getElem?_eq_getElem (show i < l.length by omega)]
  simp [hi]
theorem nxtTo_succ_some (l : List Ev) (i n k : Nat) (h : nxtTo l i n = some k) : nxtTo l i (n + 1) = some k := by
  show (match nxtTo l i n with | some k => some k | none => if i < n ∧ (l[n]?).map Ev.p = (l[i]?).map Ev.p then some n else none) = _
  rw [h]
theorem nxtTo_mono (l : List Ev) (i n m k : Nat) (h : nxtTo l i n = some k) (hm : n ≤ m) : nxtTo l i m = some k := by
  induction m with
  | zero => obtain rfl : n = 0 := by omega
            exact h
  | succ m ih =>
    by_cases e : n = m + 1
    · subst e; exact h
    · exact nxtTo_succ_some l i m k (ih (by omega))

theorem nxtTo_spec (l : List Ev) (i n k : Nat) (hn : n ≤ l.length) (h : nxtTo l i n = some k) : i < k ∧ k < n ∧ nxtTo l i k = none ∧ ∃ (hk : k < l.length) (hi : i < l.length), l[k].p = l[i].p := by
  induction n with
  | zero => cases h
  | succ n ih =>
    cases e : nxtTo l i n with
    | some m =>
      have := nxtTo_succ_some l i n m e
      rw [h] at this
      obtain rfl := Option.some.inj this
      obtain ⟨h1, h2, h3⟩ := ih (by omega) e
      exact ⟨h1, by omega, h3⟩
    | none =>
      by_cases hi : i < n
      · rw [nxtTo_succ_none l i n hi (by omega) e] at h
        split at h
        · rename_i hp
          obtain rfl := Option.some.inj h
          exact ⟨hi, by omega, e, by omega, by omega, hp⟩
        · cases h
      · rw [nxtTo_early l i (n + 1) (by omega)] at h
        cases h

/-- What a process is at, by its next event. -/
theorem busy_iff (l : List Ev) (n : Nat) (hn : n ≤ l.length) (p : Int) (o : Opn) :
    (hist l n).busy p = some o ↔ ∃ (i : Nat) (hi : i < l.length), i < n ∧ l[i].t = 1 ∧ l[i].p = p ∧ o = l[i].op i ∧ nxtTo l i n = none := by
  induction n generalizing o with
  | zero => simp [hist, Hs.new]
  | succ n ih =>
    have hl : n < l.length := by omega
    rw [hist_succ l n hl]
    have ih := fun o => ih (by omega) o
    by_cases hp : l[n].p = p
    · -- the event is the process' own
      have hold : ∀ (i : Nat) (hi : i < l.length), i < n → l[i].p = p → nxtTo l i (n + 1) ≠ none := fun i hi hin hip => by
        cases e : nxtTo l i n with
        | some m => rw [nxtTo_succ_some l i n m e]; simp
        | none => rw [nxtTo_succ_none l i n hin hl e, if_pos (hp.trans hip.symm)]; simp
      by_cases ht : l[n].t = 1
      · have hs : (seeS n l[n] (hist l n)).busy p = some (l[n].op n) := by
          unfold seeS; rw [if_pos ht]; show setO _ _ _ p = _; rw [hp, setO_same]
        rw [hs]
        constructor
        · intro h
          exact ⟨n, hl, by omega, ht, hp, (Option.some.inj h).symm, nxtTo_early l n (n + 1) (by omega)⟩
        · rintro ⟨i, hi, hin, _, hip, rfl, hx⟩
          by_cases e : i = n
          · subst e; rfl
          · exact absurd hx (hold i hi (by omega) hip)
      · have hs : (seeS n l[n] (hist l n)).busy p = none := by
          unfold seeS; rw [if_neg ht]
          split
          · rename_i h; rw [hp] at h; exact h
          · split
            · show setO _ _ _ p = _; rw [hp, setO_same]
            · split <;> (show setO _ _ _ p = _; rw [hp, setO_same])
        rw [hs]
        constructor
        · intro h; cases h
        · rintro ⟨i, hi, hin, hti, hip, rfl, hx⟩
          by_cases e : i = n
          · subst e; exact absurd hti ht
          · exact absurd hx (hold i hi (by omega) hip)
    · have hs : (seeS n l[n] (hist l n)).busy p = (hist l n).busy p := by
        have hne : p ≠ l[n].p := fun k => hp k.symm
        unfold seeS
        split
        · exact setO_other _ _ _ _ hne
        · split
          · rfl
          · split
            · exact setO_other _ _ _ _ hne
            · split <;> exact setO_other _ _ _ _ hne
      rw [hs, ih]
      constructor
      · rintro ⟨i, hi, hin, hti, hip, rfl, hx⟩
        refine ⟨i, hi, by omega, hti, hip, rfl, ?_⟩
        rw [nxtTo_succ_none l i n hin hl hx, if_neg (fun k => hp (k.trans hip))]
      · rintro ⟨i, hi, hin, hti, hip, rfl, hx⟩
        have e : i ≠ n := fun e => by subst e; exact hp hip
        refine ⟨i, hi, by omega, hti, hip, rfl, ?_⟩
        cases e : nxtTo l i n with
        | none => rfl
        | some m => rw [nxtTo_succ_some l i n m e] at hx; cases hx

/-- What is over, by next events. -/
theorem done_iff (l : List Ev) (n : Nat) (hn : n ≤ l.length) (x : Opn) :
    x ∈ (hist l n).done ↔ ∃ (i k : Nat) (hi : i < l.length) (hk : k < l.length), l[i].t = 1 ∧ nxtTo l i n = some k ∧ ((l[k].t = 2 ∧ x = endO (l[i].op i) l[k].r k) ∨ (l[k].t = 4 ∧ x = l[i].op i)) := by
  induction n with
  | zero => simp [hist, Hs.new, nxtTo]
  | succ n ih =>
    have hl : n < l.length := by omega
    rw [hist_succ l n hl]
    have ih := ih (by omega)
    have up : (∃ (i k : Nat) (hi : i < l.length) (hk : k < l.length), l[i].t = 1 ∧ nxtTo l i n = some k ∧ ((l[k].t = 2 ∧ x = endO (l[i].op i) l[k].r k) ∨ (l[k].t = 4 ∧ x = l[i].op i))) →
        ∃ (i k : Nat) (hi : i < l.length) (hk : k < l.length), l[i].t = 1 ∧ nxtTo l i (n + 1) = some k ∧ ((l[k].t = 2 ∧ x = endO (l[i].op i) l[k].r k) ∨ (l[k].t = 4 ∧ x = l[i].op i)) := by
      rintro ⟨i, k, hi, hk, h1, h2, h3⟩
      exact ⟨i, k, hi, hk, h1, nxtTo_succ_some l i n k h2, h3⟩
    -- what is new behind n + 1 is at n
    have down : (∃ (i k : Nat) (hi : i < l.length) (hk : k < l.length), l[i].t = 1 ∧ nxtTo l i (n + 1) = some k ∧ ((l[k].t = 2 ∧ x = endO (l[i].op i) l[k].r k) ∨ (l[k].t = 4 ∧ x = l[i].op i))) →
        x ∈ (hist l n).done ∨ ∃ (i : Nat) (hi : i < l.length), (hist l n).busy l[n].p = some (l[i].op i) ∧ ((l[n].t = 2 ∧ x = endO (l[i].op i) l[n].r n) ∨ (l[n].t = 4 ∧ x = l[i].op i)) := by
      rintro ⟨i, k, hi, hk, h1, h2, h3⟩
      cases e : nxtTo l i n with
      | some m =>
        rw [nxtTo_succ_some l i n m e] at h2
        obtain rfl := Option.some.inj h2
        exact .inl (ih.2 ⟨i, m, hi, hk, h1, e, h3⟩)
      | none =>
        obtain ⟨a1, a2, a3, _, _, a4⟩ := nxtTo_spec l i (n + 1) k (by omega) h2
        have hin : i < n := by
          by_cases hin : i < n
          · exact hin
          · rw [nxtTo_early l i (n + 1) (by omega)] at h2; cases h2
        rw [nxtTo_succ_none l i n hin hl e] at h2
        split at h2
        · obtain rfl := Option.some.inj h2
          exact .inr ⟨i, hi, (busy_iff l n (by omega) _ _).2 ⟨i, hi, hin, h1, a4.symm, rfl, e⟩, h3⟩
        · cases h2
    have neu : ∀ (i : Nat) (hi : i < l.length), i < n → l[i].p = l[n].p → nxtTo l i n = none → nxtTo l i (n + 1) = some n := fun i hi hin hip e => by
      rw [nxtTo_succ_none l i n hin hl e, if_pos hip.symm]
    by_cases ht : l[n].t = 1
    · have hs : (seeS n l[n] (hist l n)).done = (hist l n).done := by unfold seeS; rw [if_pos ht]
      rw [hs]
      constructor
      · exact fun h => up (ih.1 h)
      · intro h
        rcases down h with h | ⟨i, hi, _, h | h⟩
        · exact h
        · omega
        · omega
    · cases hb : (hist l n).busy l[n].p with
      | none =>
        have hs : (seeS n l[n] (hist l n)).done = (hist l n).done := by unfold seeS; rw [if_neg ht, hb]
        rw [hs]
        constructor
        · exact fun h => up (ih.1 h)
        · intro h
          rcases down h with h | ⟨i, hi, h, _⟩
          · exact h
          · rw [hb] at h; cases h
      | some o =>
        obtain ⟨i, hi, hin, hti, hip, ho, hx⟩ := (busy_iff l n (by omega) _ _).1 hb
        have hnew := neu i hi hin hip hx
        by_cases h2 : l[n].t = 2
        · have hs : (seeS n l[n] (hist l n)).done = (hist l n).done ++ [endO o l[n].r n] := by unfold seeS; rw [if_neg ht, hb]; simp [h2]
          rw [hs, List.mem_append, List.mem_singleton]
          constructor
          · rintro (h | h)
            · exact up (ih.1 h)
            · exact ⟨i, n, hi, hl, hti, hnew, .inl ⟨h2, by rw [h, ho]⟩⟩
          · intro h
            rcases down h with h | ⟨j, hj, h, h3 | h3⟩
            · exact .inl h
            · rw [hb] at h; obtain rfl := Option.some.inj h; exact .inr h3.2
            · omega
        · by_cases h4 : l[n].t = 4
          · have hs : (seeS n l[n] (hist l n)).done = (hist l n).done ++ [o] := by unfold seeS; rw [if_neg ht, hb]; simp [h4]
            rw [hs, List.mem_append, List.mem_singleton]
            constructor
            · rintro (h | h)
              · exact up (ih.1 h)
              · exact ⟨i, n, hi, hl, hti, hnew, .inr ⟨h4, by rw [h, ho]⟩⟩
            · intro h
              rcases down h with h | ⟨j, hj, h, h3 | h3⟩
              · exact .inl h
              · omega
              · rw [hb] at h; obtain rfl := Option.some.inj h; exact .inr h3.2
          · have hs : (seeS n l[n] (hist l n)).done = (hist l n).done := by unfold seeS; rw [if_neg ht, hb]; simp [h2, h4]
            rw [hs]
            constructor
            · exact fun h => up (ih.1 h)
            · intro h
              rcases down h with h | ⟨j, hj, h, h3 | h3⟩
              · exact h
              · omega
              · omega

end Go.Proofs.YtkedbcfejcakaaaDoor
