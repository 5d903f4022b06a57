/-
  A list of generators, read as the document does: in plain Lean.
-/
import Derived.Test.YthblokfiojccmaaGreatDoorGpR
namespace Go.Proofs.YthblokfiojccmaaGreatDoor.Gn

def loopF (gf : List BtP → Option Rg) : Nat → List Gt → List BtP → Option Rl
  | 0, _, _ => none
  | m + 1, gs, s => match gf s with
    | none => none
    | some r => match r.s with
      | [] => none
      | t :: z => if t = [41] then some ⟨gs ++ [r.g], z⟩ else if t = [44] then loopF gf m (gs ++ [r.g]) z else none
theorem loopF_eq {gf : List BtP → Option Rg} (hg : Takes gf) : ∀ (m : Nat) (gs : List Gt) (s : List BtP), s.length < m →
    (match gf s with | none => none | some r => finL (moreF gf (r.s.length + 1) (gs ++ [r.g]) r.s)) = loopF gf m gs s
  | 0, _, _, h => absurd h (Nat.not_lt_zero _)
  | m + 1, gs, s, h => by
    rw [loopF]
    cases hs : gf s with
    | none => rfl
    | some r =>
      have hl := hg _ _ hs
      simp only
      cases hr : r.s with
      | nil => rfl
      | cons t z =>
        rw [hr] at hl
        simp only [List.length_cons] at hl ⊢
        rw [moreF]
        by_cases h1 : t = [41]
        · subst h1
          rw [if_neg (by decide), if_pos rfl]
          rfl
        · rw [if_neg h1]
          by_cases h2 : t = [44]
          · rw [if_pos h2, if_pos h2, ← loopF_eq hg m _ z (by omega)]
            cases hz : gf z with
            | none => rfl
            | some q =>
              have hq := hg _ _ hz
              simp only
              rw [moreF_fuel hg _ (q.s.length + 1) _ _ (by omega) (by omega)]
          · rw [if_neg h2, if_neg h2]
            simp only [finL, expF]
            rw [if_neg h1]
theorem listF_loop {gf : List BtP → Option Rg} (hg : Takes gf) (s : List BtP) : listF gf s = match expF [40] s with
    | none => none
    | some s1 => loopF gf (s1.length + 1) [] s1 := by
  rw [listF_eq]
  cases h : expF [40] s with
  | none => rfl
  | some s1 => exact loopF_eq hg (s1.length + 1) [] s1 (by omega)
theorem loopF_none {gf : List BtP → Option Rg} {m : Nat} {gs : List Gt} {s : List BtP} (h : gf s = none) : loopF gf (m + 1) gs s = none := by rw [loopF, h]
theorem loopF_close {gf : List BtP → Option Rg} {m : Nat} {gs : List Gt} {s z : List BtP} {r : Rg} (h : gf s = some r) (hr : r.s = [41] :: z) : loopF gf (m + 1) gs s = some ⟨gs ++ [r.g], z⟩ := by
  rw [loopF, h]; simp only [hr]; rfl
theorem loopF_more {gf : List BtP → Option Rg} {m : Nat} {gs : List Gt} {s z : List BtP} {r : Rg} (h : gf s = some r) (hr : r.s = [44] :: z) : loopF gf (m + 1) gs s = loopF gf m (gs ++ [r.g]) z := by
  rw [loopF, h]; simp only [hr]; rfl
theorem loopF_else {gf : List BtP → Option Rg} {m : Nat} {gs : List Gt} {s : List BtP} {r : Rg} (h : gf s = some r) (h1 : ∀ z, r.s ≠ [41] :: z) (h2 : ∀ z, r.s ≠ [44] :: z) : loopF gf (m + 1) gs s = none := by
  rw [loopF, h]
  cases hr : r.s with
  | nil => simp only [hr]
  | cons t z =>
    simp only [hr]
    rw [if_neg (fun e => h1 z (by rw [hr, e])), if_neg (fun e => h2 z (by rw [hr, e]))]
end Go.Proofs.YthblokfiojccmaaGreatDoor.Gn
