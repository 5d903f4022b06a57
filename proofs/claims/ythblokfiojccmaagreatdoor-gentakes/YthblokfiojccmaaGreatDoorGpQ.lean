/-
  How a text is read as a generator: what is read gets shorter.
-/
import Derived.Test.YthblokfiojccmaaGreatDoorGpP
namespace Go.Proofs.YthblokfiojccmaaGreatDoor.Gn

theorem numF_len {lo hi : Int} {s : List BtP} {r : Rn} (h : numF lo hi s = some r) : r.s.length + 1 = s.length ∧ lo ≤ r.v ∧ r.v ≤ hi := by
  cases s with
  | nil => cases h
  | cons t s =>
    simp only [numF] at h
    split at h
    · split at h
      · rename_i n hat
        split at h
        · cases h
        · rename_i hb
          cases h
          exact ⟨rfl, by show lo ≤ n; omega, by show n ≤ hi; omega⟩
      · cases h
    · cases h
theorem expF_len {x : BtP} {s z : List BtP} (h : expF x s = some z) : z.length + 1 = s.length := by
  cases s with
  | nil => cases h
  | cons t s =>
    simp only [expF] at h
    split at h
    · cases h; rfl
    · cases h
/-- Each reading takes something. -/
def Takes (gf : List BtP → Option Rg) : Prop := ∀ s r, gf s = some r → r.s.length < s.length
theorem moreF_len {gf : List BtP → Option Rg} (hg : Takes gf) : ∀ (m : Nat) (L : List Gt) (s : List BtP) (r : Rl), moreF gf m L s = some r → r.s.length ≤ s.length ∧ r.l.length + r.s.length ≤ L.length + s.length
  | 0, _, _, _, h => by cases h
  | _ + 1, _, [], _, h => by cases h
  | m + 1, L, t :: s, r, h => by
    simp only [moreF] at h
    split at h
    · split at h
      · rename_i q hq
        have h1 := hg _ _ hq
        have h2 := moreF_len hg m _ _ _ h
        simp only [List.length_append, List.length_cons, List.length_nil] at h2 ⊢
        omega
      · cases h
    · cases h
      exact ⟨Nat.le_refl _, Nat.le_refl _⟩
theorem moreF_fuel {gf : List BtP → Option Rg} (hg : Takes gf) : ∀ (m m' : Nat) (L : List Gt) (s : List BtP), s.length < m → s.length < m' → moreF gf m L s = moreF gf m' L s
  | 0, _, _, _, h, _ => absurd h (Nat.not_lt_zero _)
  | _, 0, _, _, _, h => absurd h (Nat.not_lt_zero _)
  | _ + 1, _ + 1, _, [], _, _ => rfl
  | m + 1, m' + 1, L, t :: s, h, h' => by
    simp only [List.length_cons] at h h'
    simp only [moreF]
    split
    · cases hq : gf s with
      | none => rfl
      | some q =>
        have h1 := hg _ _ hq
        simp only
        exact moreF_fuel hg m m' _ _ (by omega) (by omega)
    · rfl
def finL (q : Option Rl) : Option Rl := match q with
  | none => none
  | some q => match expF [41] q.s with
    | none => none
    | some z => some ⟨q.l, z⟩
theorem listF_eq (gf : List BtP → Option Rg) (s : List BtP) : listF gf s = match expF [40] s with
  | none => none
  | some s1 => match gf s1 with
    | none => none
    | some r => finL (moreF gf (r.s.length + 1) [r.g] r.s) := rfl
theorem listF_len {gf : List BtP → Option Rg} (hg : Takes gf) {s : List BtP} {r : Rl} (h : listF gf s = some r) : r.s.length < s.length ∧ r.l.length + r.s.length ≤ s.length := by
  rw [listF_eq] at h
  split at h
  · cases h
  · rename_i s1 h1
    split at h
    · cases h
    · rename_i q hq
      have k1 := expF_len h1
      have k2 := hg _ _ hq
      unfold finL at h
      split at h
      · cases h
      · rename_i z hz
        have k3 := moreF_len hg _ _ _ _ hz
        split at h
        · cases h
        · rename_i y hy
          have k4 := expF_len hy
          cases h
          simp only [List.length_cons, List.length_nil] at k3 ⊢
          omega
theorem wrF_len {s : List BtP} {r : Rg} (h : wrF s = some r) : r.s.length < s.length := by
  unfold wrF at h
  split at h
  · cases h
  · rename_i k hk
    split at h
    · cases h
    · rename_i l hl
      split at h
      · cases h
      · rename_i t ht
        have a := (numF_len hk).1; have b := (numF_len hl).1; have c := (numF_len ht).1
        cases h
        show t.s.length < s.length
        omega
theorem gF_takes : ∀ f, Takes (gF f)
  | 0, _, _, h => by cases h
  | _ + 1, [], _, h => by cases h
  | f + 1, t :: s, r, h => by
    have ih := gF_takes f
    simp only [gF] at h
    simp only [List.length_cons]
    split at h
    · split at h
      · cases h
      · rename_i k hk
        have := (numF_len hk).1
        cases h
        show k.s.length < _
        omega
    · split at h
      · have := wrF_len h; omega
      · split at h
        · split at h
          · cases h
          · rename_i k hk
            have a := (numF_len hk).1
            split at h
            · cases h
            · rename_i q hq
              have b := ih _ _ hq
              cases h
              show q.s.length < _
              omega
        · split at h
          · split at h
            · cases h
            · rename_i q hq
              have := (listF_len ih hq).1
              cases h
              show q.s.length < _
              omega
          · split at h
            · split at h
              · cases h
              · rename_i q hq
                have := (listF_len ih hq).1
                cases h
                show q.s.length < _
                omega
            · cases h
end Go.Proofs.YthblokfiojccmaaGreatDoor.Gn
