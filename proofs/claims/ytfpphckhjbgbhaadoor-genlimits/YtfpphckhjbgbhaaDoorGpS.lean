/-
  A limit's text and a then's: what they are read as.
-/
import Derived.Test.YtfpphckhjbgbhaaDoorGpR
import Derived.Test.YtfpphckhjbgbhaaDoorRdG
namespace Go.Proofs.YtfpphckhjbgbhaaDoor.Gn

/-- What stands behind does not matter. -/
def Sfx {ρ β : Type} (f : List BtP → Option ρ) (val : ρ → β) (rest : ρ → List BtP) : Prop :=
  ∀ s r, f (s ++ [[]]) = some r → ∃ z, rest r = z ++ [[]] ∧ (∀ x ∈ z, x ∈ s) ∧ ∀ t, ∃ r', f (s ++ t) = some r' ∧ val r' = val r ∧ rest r' = z ++ t
theorem numF_sfx (lo hi : Int) : Sfx (numF lo hi) Rn.v Rn.s := fun s r h => by
  cases s with
  | nil => simp [numF, isNum_nil] at h
  | cons x s =>
    simp only [List.cons_append, numF] at h ⊢
    split at h
    · rename_i hn
      rw [hn]
      split at h
      · rename_i n hat
        split at h
        · cases h
        · rename_i hb
          cases h
          refine ⟨s, rfl, fun y hy => by simp [hy], fun t => ⟨⟨n, s ++ t⟩, ?_, rfl, rfl⟩⟩
          simp only [if_true, if_neg hb]
      · cases h
    · cases h
theorem expF_sfx {x : BtP} (hx : x ≠ []) {s z : List BtP} (h : expF x (s ++ [[]]) = some z) : ∃ y, z = y ++ [[]] ∧ s = x :: y ∧ ∀ t, expF x (s ++ t) = some (y ++ t) := by
  cases s with
  | nil =>
    simp only [List.nil_append, expF] at h
    rw [if_neg (fun e => hx e.symm)] at h; cases h
  | cons a s =>
    simp only [List.cons_append, expF] at h ⊢
    split at h
    · rename_i e
      cases h
      exact ⟨s, rfl, by rw [e], fun t => by rw [if_pos e]⟩
    · cases h
theorem wrF_sfx : Sfx wrF Rg.g Rg.s := fun s r h => by
  unfold wrF at h
  split at h
  · cases h
  · rename_i k hk
    obtain ⟨z1, a1, b1, c1⟩ := numF_sfx _ _ s k hk
    rw [a1] at h
    split at h
    · cases h
    · rename_i l hl
      obtain ⟨z2, a2, b2, c2⟩ := numF_sfx _ _ z1 l hl
      rw [a2] at h
      split at h
      · cases h
      · rename_i q hq
        obtain ⟨z3, a3, b3, c3⟩ := numF_sfx _ _ z2 q hq
        cases h
        refine ⟨z3, a3, fun x hx => b1 x (b2 x (b3 x hx)), fun t => ?_⟩
        obtain ⟨k', d1, d2, d3⟩ := c1 t
        obtain ⟨l', e1, e2, e3⟩ := c2 t
        obtain ⟨q', f1, f2, f3⟩ := c3 t
        refine ⟨⟨.wr k.v l.v q.v, q'.s⟩, ?_, rfl, f3⟩
        unfold wrF
        rw [d1]
        simp only
        rw [d3, e1]
        simp only
        rw [e3, e2, f1]
        simp only
        rw [d2, f2]
theorem moreF_sfx {gf : List BtP → Option Rg} (hg : Takes gf) (hs : Sfx gf Rg.g Rg.s) : ∀ (m : Nat) (L : List Gt) (s : List BtP) (r : Rl), moreF gf m L (s ++ [[]]) = some r →
    r.s = [[]] ∨ ∃ x z, r.s = x :: z ++ [[]] ∧ (∀ y ∈ x :: z, y ∈ s) ∧ ∀ t m', (s ++ t).length < m' → moreF gf m' L (s ++ t) = some ⟨r.l, x :: z ++ t⟩
  | 0, _, _, _, h => by cases h
  | m + 1, L, [], r, h => by
    simp only [List.nil_append, moreF] at h
    rw [if_neg (by decide)] at h
    cases h
    exact .inl rfl
  | m + 1, L, x :: s, r, h => by
    simp only [List.cons_append, moreF] at h
    split at h
    · rename_i hx
      split at h
      · rename_i q hq
        obtain ⟨z1, a1, b1, c1⟩ := hs s q hq
        rw [a1] at h
        rcases moreF_sfx hg hs m _ _ _ h with e | ⟨y, z, a2, b2, c2⟩
        · exact .inl e
        · refine .inr ⟨y, z, a2, fun u hu => List.mem_cons_of_mem _ (b1 u (b2 u hu)), fun t m' hm => ?_⟩
          cases m' with
          | zero => exact absurd hm (Nat.not_lt_zero _)
          | succ m' =>
            obtain ⟨q', d1, d2, d3⟩ := c1 t
            simp only [List.cons_append, moreF]
            rw [if_pos hx, d1]
            simp only
            rw [d3, d2]
            refine c2 t m' ?_
            have h1 := hg _ _ d1
            rw [d3] at h1
            simp only [List.cons_append, List.length_cons] at hm
            omega
      · cases h
    · rename_i hx
      cases h
      refine .inr ⟨x, s, rfl, fun y hy => hy, fun t m' hm => ?_⟩
      cases m' with
      | zero => exact absurd hm (Nat.not_lt_zero _)
      | succ m' =>
        simp only [List.cons_append, moreF]
        rw [if_neg hx]
theorem listF_sfx {gf : List BtP → Option Rg} (hg : Takes gf) (hs : Sfx gf Rg.g Rg.s) : Sfx (listF gf) Rl.l Rl.s := fun s r h => by
  rw [listF_eq] at h
  split at h
  · cases h
  · rename_i s1 h1
    obtain ⟨y1, a1, b1, c1⟩ := expF_sfx (by decide) h1
    rw [a1] at h
    split at h
    · cases h
    · rename_i q hq
      obtain ⟨z2, a2, b2, c2⟩ := hs y1 q hq
      rw [a2] at h
      unfold finL at h
      split at h
      · cases h
      · rename_i u hu
        rcases moreF_sfx hg hs _ _ _ _ hu with e | ⟨x, z, a3, b3, c3⟩
        · rw [e] at h; simp [expF] at h
        · rw [a3] at h
          simp only [List.cons_append, expF] at h
          split at h
          · rename_i v hv
            split at hv
            · cases hv
            · cases h
          · rename_i v hv
            split at hv
            · rename_i hx
              cases hv
              cases h
              refine ⟨z, rfl, fun y hy => ?_, fun t => ?_⟩
              · rw [b1]; exact List.mem_cons_of_mem _ (b2 y (b3 y (List.mem_cons_of_mem _ hy)))
              · obtain ⟨q', d1, d2, d3⟩ := c2 t
                refine ⟨⟨u.l, z ++ t⟩, ?_, rfl, rfl⟩
                rw [listF_eq, c1 t]
                simp only
                rw [d1]
                simp only
                rw [d3, d2, c3 t _ (by omega)]
                simp only [finL, List.cons_append, expF]
                rw [if_pos hx]
            · cases hv
theorem gF_sfx : ∀ f, Sfx (gF f) Rg.g Rg.s
  | 0, _, _, h => by cases h
  | f + 1, [], r, h => by
    simp only [List.nil_append, gF] at h
    rw [if_neg (by decide), if_neg (by decide), if_neg (by decide), if_neg (by decide), if_neg (by decide)] at h
    cases h
  | f + 1, x :: s, r, h => by
    have ih := gF_sfx f
    simp only [List.cons_append, gF] at h ⊢
    by_cases h1 : x = nmRead
    · rw [if_pos h1] at h
      split at h
      · cases h
      · rename_i k hk
        obtain ⟨z, a, b, c⟩ := numF_sfx _ _ s k hk
        cases h
        refine ⟨z, a, fun y hy => List.mem_cons_of_mem _ (b y hy), fun t => ?_⟩
        obtain ⟨k', d1, d2, d3⟩ := c t
        exact ⟨⟨.rd k.v, z ++ t⟩, by rw [if_pos h1, d1]; simp only [d2, d3], rfl, rfl⟩
    rw [if_neg h1] at h
    by_cases h2 : x = nmWrite
    · rw [if_pos h2] at h
      obtain ⟨z, a, b, c⟩ := wrF_sfx s r h
      refine ⟨z, a, fun y hy => List.mem_cons_of_mem _ (b y hy), fun t => ?_⟩
      obtain ⟨k', d1, d2, d3⟩ := c t
      exact ⟨k', by rw [if_neg h1, if_pos h2]; exact d1, d2, d3⟩
    rw [if_neg h2] at h
    by_cases h3 : x = nmLimit
    · rw [if_pos h3] at h
      split at h
      · cases h
      · rename_i k hk
        obtain ⟨z1, a1, b1, c1⟩ := numF_sfx _ _ s k hk
        rw [a1] at h
        split at h
        · cases h
        · rename_i q hq
          obtain ⟨z2, a2, b2, c2⟩ := ih z1 q hq
          cases h
          refine ⟨z2, a2, fun y hy => List.mem_cons_of_mem _ (b1 y (b2 y hy)), fun t => ?_⟩
          obtain ⟨k', d1, d2, d3⟩ := c1 t
          obtain ⟨q', e1, e2, e3⟩ := c2 t
          refine ⟨⟨.lim q.g k.v.toNat, z2 ++ t⟩, ?_, rfl, rfl⟩
          rw [if_neg h1, if_neg h2, if_pos h3, d1]
          simp only
          rw [d3, e1]
          simp only [d2, e2, e3]
    rw [if_neg h3] at h
    by_cases h4 : x = nmMix
    · rw [if_pos h4] at h
      split at h
      · cases h
      · rename_i q hq
        obtain ⟨z, a, b, c⟩ := listF_sfx (gF_takes f) ih s q hq
        cases h
        refine ⟨z, a, fun y hy => List.mem_cons_of_mem _ (b y hy), fun t => ?_⟩
        obtain ⟨k', d1, d2, d3⟩ := c t
        exact ⟨⟨.mix q.l, z ++ t⟩, by rw [if_neg h1, if_neg h2, if_neg h3, if_pos h4, d1]; simp only [d2, d3], rfl, rfl⟩
    rw [if_neg h4] at h
    by_cases h5 : x = nmThen
    · rw [if_pos h5] at h
      split at h
      · cases h
      · rename_i q hq
        obtain ⟨z, a, b, c⟩ := listF_sfx (gF_takes f) ih s q hq
        cases h
        refine ⟨z, a, fun y hy => List.mem_cons_of_mem _ (b y hy), fun t => ?_⟩
        obtain ⟨k', d1, d2, d3⟩ := c t
        exact ⟨⟨.thn q.l, z ++ t⟩, by rw [if_neg h1, if_neg h2, if_neg h3, if_neg h4, if_pos h5, d1]; simp only [d2, d3], rfl, rfl⟩
    rw [if_neg h5] at h
    cases h
end Go.Proofs.YtfpphckhjbgbhaaDoor.Gn
