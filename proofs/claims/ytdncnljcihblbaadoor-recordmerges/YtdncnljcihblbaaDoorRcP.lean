/-
  Chapter 18, plain: an event's bytes, read and written. Nothing of the program is named here.
-/
import Derived.Test.YtdncnljcihblbaaDoorEvP
namespace Go.Proofs.YtdncnljcihblbaaDoor

/-- A number as one from 0 on. -/
def zzN (n : Int) : Nat := if n < 0 then (-2 * n - 1).toNat else (2 * n).toNat
def unzN (u : Nat) : Int := if u % 2 = 0 then ((u / 2 : Nat) : Int) else -((u / 2 : Nat) : Int) - 1

theorem unz_zz (n : Int) : unzN (zzN n) = n := by
  unfold unzN zzN
  split <;> split <;> omega

/-- Seven bits a byte, the lowest first. -/
def varL (u : Nat) : List Nat := if u < 128 then [u] else (u % 128 + 128) :: varL (u / 128)
termination_by u
decreasing_by omega

theorem varL_small {u : Nat} (h : u < 128) : varL u = [u] := by rw [varL, if_pos h]
theorem varL_great {u : Nat} (h : ¬ u < 128) : varL u = (u % 128 + 128) :: varL (u / 128) := by rw [varL, if_neg h]
theorem varL_byte : ∀ (u : Nat), ∀ x ∈ varL u, x < 256 := by
  intro u
  induction u using Nat.strongRecOn with
  | _ u ih =>
    intro x hx
    by_cases h : u < 128
    · rw [varL_small h] at hx; simp at hx; omega
    · rw [varL_great h] at hx
      rcases List.mem_cons.1 hx with rfl | hx
      · omega
      · exact ih _ (by omega) x hx
theorem varL_len {u : Nat} (h : u < 2097152) : (varL u).length ≤ 3 := by
  by_cases h1 : u < 128
  · rw [varL_small h1]; simp
  · rw [varL_great h1]
    by_cases h2 : u / 128 < 128
    · rw [varL_small h2]; simp
    · rw [varL_great h2, varL_small (by omega)]; simp
theorem varL_pos (u : Nat) : 0 < (varL u).length := by
  rw [varL]; split <;> simp

/-- An event's bytes. -/
def encL (e : Ev) : List Nat := [e.p.toNat, e.t.toNat, e.k.toNat, e.d.toNat] ++ (varL (zzN e.a) ++ (varL (zzN e.b) ++ varL (zzN e.r)))

theorem zzN_lt {n : Int} (h : -1000000 ≤ n ∧ n ≤ 1000000) : zzN n < 2097152 := by unfold zzN; split <;> omega

theorem encL_byte {e : Ev} (h : OkE e) : ∀ x ∈ encL e, x < 256 := by
  intro x hx
  have h1 := h.p; have h2 := h.t; have h3 := h.k; have h4 := h.d
  simp only [encL, List.mem_append, List.mem_cons, List.not_mem_nil, or_false] at hx
  rcases hx with (rfl | rfl | rfl | rfl) | hx | hx | hx
  · omega
  · omega
  · omega
  · omega
  · exact varL_byte _ x hx
  · exact varL_byte _ x hx
  · exact varL_byte _ x hx
theorem encL_len {e : Ev} (h : OkE e) : (encL e).length ≤ 13 := by
  have h1 := varL_len (zzN_lt h.a); have h2 := varL_len (zzN_lt h.b); have h3 := varL_len (zzN_lt h.r)
  simp [encL]; omega
theorem encL_four (e : Ev) : 4 < (encL e).length := by
  have h1 := varL_pos (zzN e.a)
  simp [encL]; omega

/-- The program's way to read a number: bits beyond 64 are lost. -/
def rdN (i u : Nat) : List Nat → Option (Nat × List Nat)
  | [] => none
  | c :: l => if c < 128 then some (u ||| (c % 128 * 2 ^ (7 * i) % 18446744073709551616), l) else rdN (i + 1) (u ||| (c % 128 * 2 ^ (7 * i) % 18446744073709551616)) l

/-- The document's way. -/
def rdD (i u : Nat) : List Nat → Option (Nat × List Nat)
  | [] => none
  | c :: l => if 128 ^ i > 1099511627776 then none else if c < 128 then some (u + c % 128 * 128 ^ i, l) else rdD (i + 1) (u + c % 128 * 128 ^ i) l

theorem or_add (a b i : Nat) (h : a < 2 ^ i) : a ||| b * 2 ^ i = a + b * 2 ^ i := by
  rw [Nat.or_comm, Nat.mul_comm, ← Nat.two_pow_add_eq_or_of_lt h]; omega

theorem rdN_var (l : List Nat) : ∀ (u i a : Nat), a < 2 ^ (7 * i) → a + u * 2 ^ (7 * i) < 18446744073709551616 → rdN i a (varL u ++ l) = some (a + u * 2 ^ (7 * i), l) := by
  intro u
  induction u using Nat.strongRecOn with
  | _ u ih =>
    intro i a ha hu
    have hp : 0 < 2 ^ (7 * i) := Nat.two_pow_pos _
    by_cases h : u < 128
    · rw [varL_small h]
      show rdN i a (u :: l) = _
      rw [rdN, if_pos h, Nat.mod_eq_of_lt h, Nat.mod_eq_of_lt (by omega), or_add _ _ _ ha]
    · rw [varL_great h]
      show rdN i a ((u % 128 + 128) :: (varL (u / 128) ++ l)) = _
      have e1 : (u % 128 + 128) % 128 = u % 128 := by omega
      have e2 : u * 2 ^ (7 * i) = u % 128 * 2 ^ (7 * i) + u / 128 * 2 ^ (7 * (i + 1)) := by
        have : 2 ^ (7 * (i + 1)) = 128 * 2 ^ (7 * i) := by rw [show 7 * (i + 1) = 7 + 7 * i by omega, Nat.pow_add]
        rw [this, ← Nat.mul_assoc, ← Nat.add_mul]
        congr 1; omega
      have e4 : u % 128 * 2 ^ (7 * i) < 2 ^ (7 * (i + 1)) := by
        have : 2 ^ (7 * (i + 1)) = 128 * 2 ^ (7 * i) := by rw [show 7 * (i + 1) = 7 + 7 * i by omega, Nat.pow_add]
        rw [this]; exact Nat.mul_lt_mul_of_pos_right (by omega) hp
      have e5 : a + u % 128 * 2 ^ (7 * i) < 2 ^ (7 * (i + 1)) := by
        have : 2 ^ (7 * (i + 1)) = 128 * 2 ^ (7 * i) := by rw [show 7 * (i + 1) = 7 + 7 * i by omega, Nat.pow_add]
        have h7 : u % 128 * 2 ^ (7 * i) ≤ 127 * 2 ^ (7 * i) := Nat.mul_le_mul_right _ (by omega)
        omega
      rw [rdN, if_neg (by omega), e1, Nat.mod_eq_of_lt (by omega), or_add _ _ _ ha, ih (u / 128) (by omega) (i + 1) _ e5 (by omega)]
      rw [e2]; simp; omega

theorem rdD_var (l : List Nat) : ∀ (u i a : Nat), 128 ^ i ≤ 1099511627776 → u * 128 ^ i < 1099511627776 → rdD i a (varL u ++ l) = some (a + u * 128 ^ i, l) := by
  intro u
  induction u using Nat.strongRecOn with
  | _ u ih =>
    intro i a ha hu
    by_cases h : u < 128
    · rw [varL_small h]
      show rdD i a (u :: l) = _
      rw [rdD, if_neg (by omega), if_pos h, Nat.mod_eq_of_lt h]
    · rw [varL_great h]
      show rdD i a ((u % 128 + 128) :: (varL (u / 128) ++ l)) = _
      have e1 : (u % 128 + 128) % 128 = u % 128 := by omega
      have e3 : 128 ^ (i + 1) = 128 * 128 ^ i := by rw [Nat.pow_succ, Nat.mul_comm]
      have e2 : u * 128 ^ i = u % 128 * 128 ^ i + u / 128 * 128 ^ (i + 1) := by
        rw [e3, ← Nat.mul_assoc, ← Nat.add_mul]
        congr 1; omega
      have e4 : 128 * 128 ^ i ≤ u * 128 ^ i := Nat.mul_le_mul_right _ (by omega)
      rw [rdD, if_neg (by omega), if_neg (by omega), e1, ih (u / 128) (by omega) (i + 1) _ (by omega) (by omega)]
      rw [e2]; simp; omega

/-- What the program reads, whether or not it may be. -/
def readP : List Nat → Option Ev
  | p :: t :: k :: d :: l => match rdN 0 0 l with
    | none => none
    | some (a, l1) => match rdN 0 0 l1 with
      | none => none
      | some (b, l2) => match rdN 0 0 l2 with
        | none => none
        | some (r, _) => some ⟨p, t, k, d, unzN a, unzN b, unzN r⟩
  | _ => none

/-- What the document reads. -/
def readD : List Nat → Option (Ev × List Nat)
  | p :: t :: k :: d :: l => match rdD 0 0 l with
    | none => none
    | some (a, l1) => match rdD 0 0 l1 with
      | none => none
      | some (b, l2) => match rdD 0 0 l2 with
        | none => none
        | some (r, l3) => some (⟨p, t, k, d, unzN a, unzN b, unzN r⟩, l3)
  | _ => none

theorem read_enc {e : Ev} (h : OkE e) : readP (encL e) = some e := by
  have h1 := h.p; have h2 := h.t; have h3 := h.k; have h4 := h.d
  have ha := zzN_lt h.a; have hb := zzN_lt h.b; have hr := zzN_lt h.r
  show (match rdN 0 0 (varL (zzN e.a) ++ (varL (zzN e.b) ++ varL (zzN e.r))) with
    | none => none
    | some (a, l1) => match rdN 0 0 l1 with
      | none => none
      | some (b, l2) => match rdN 0 0 l2 with
        | none => none
        | some (r, _) => some (⟨e.p.toNat, e.t.toNat, e.k.toNat, e.d.toNat, unzN a, unzN b, unzN r⟩ : Ev)) = some e
  rw [rdN_var _ _ 0 0 (by simp) (by simp; omega)]
  simp only [Nat.mul_zero, Nat.pow_zero, Nat.mul_one, Nat.zero_add]
  rw [rdN_var _ _ 0 0 (by simp) (by simp; omega)]
  simp only [Nat.mul_zero, Nat.pow_zero, Nat.mul_one, Nat.zero_add]
  rw [show varL (zzN e.r) = varL (zzN e.r) ++ [] by simp, rdN_var _ _ 0 0 (by simp) (by simp; omega)]
  simp only [Nat.mul_zero, Nat.pow_zero, Nat.mul_one, Nat.zero_add, unz_zz]
  congr 1
  apply Ev.eq_of <;> simp <;> omega

theorem readD_enc {e : Ev} (h : OkE e) : readD (encL e) = some (e, []) := by
  have h1 := h.p; have h2 := h.t; have h3 := h.k; have h4 := h.d
  have ha := zzN_lt h.a; have hb := zzN_lt h.b; have hr := zzN_lt h.r
  show (match rdD 0 0 (varL (zzN e.a) ++ (varL (zzN e.b) ++ varL (zzN e.r))) with
    | none => none
    | some (a, l1) => match rdD 0 0 l1 with
      | none => none
      | some (b, l2) => match rdD 0 0 l2 with
        | none => none
        | some (r, l3) => some ((⟨e.p.toNat, e.t.toNat, e.k.toNat, e.d.toNat, unzN a, unzN b, unzN r⟩ : Ev), l3)) = some (e, [])
  rw [rdD_var _ _ 0 0 (by simp) (by simp; omega)]
  simp only [Nat.pow_zero, Nat.mul_one, Nat.zero_add]
  rw [rdD_var _ _ 0 0 (by simp) (by simp; omega)]
  simp only [Nat.pow_zero, Nat.mul_one, Nat.zero_add]
  rw [show varL (zzN e.r) = varL (zzN e.r) ++ [] by simp, rdD_var _ _ 0 0 (by simp) (by simp; omega)]
  simp only [Nat.pow_zero, Nat.mul_one, Nat.zero_add, unz_zz]
  congr 2
  apply Ev.eq_of <;> simp <;> omega

/-- Bytes as the event of which they are, if they are. -/
def decL (b : List Nat) : Option Ev := match readP b with
  | none => none
  | some e => if fltE e = 0 ∧ encL e = b then some e else none

theorem dec_iff (b : List Nat) (e : Ev) : decL b = some e ↔ fltE e = 0 ∧ encL e = b := by
  unfold decL
  constructor
  · intro h
    split at h
    · cases h
    · rename_i e' _
      split at h
      · rename_i h2; cases h; exact h2
      · cases h
  · rintro ⟨h1, rfl⟩
    rw [read_enc (okE_of h1)]
    show (if fltE e = 0 ∧ encL e = encL e then some e else none) = some e
    rw [if_pos ⟨h1, rfl⟩]

/-- The document's way to the same. -/
def decD (b : List Nat) : Option Ev := match readD b with
  | none => none
  | some (e, l) => if l = [] ∧ fltE e = 0 ∧ encL e = b then some e else none

theorem decD_eq (b : List Nat) : decD b = decL b := by
  apply Option.ext
  intro e
  rw [dec_iff]
  unfold decD
  constructor
  · intro h
    split at h
    · cases h
    · split at h
      · rename_i h2; cases h; exact h2.2
      · cases h
  · rintro ⟨h1, rfl⟩
    rw [readD_enc (okE_of h1)]
    show (if ([] : List Nat) = [] ∧ fltE e = 0 ∧ encL e = encL e then some e else none) = some e
    rw [if_pos ⟨rfl, h1, rfl⟩]

theorem dec_enc {e : Ev} (h : fltE e = 0) : decL (encL e) = some e := (dec_iff _ _).2 ⟨h, rfl⟩

/-- No beginning of a number's bytes is one. -/
theorem varL_no_more : ∀ (u v : Nat) (l : List Nat), varL u = varL v ++ l → l = [] := by
  intro u
  induction u using Nat.strongRecOn with
  | _ u ih =>
    intro v l h
    by_cases h1 : u < 128
    · rw [varL_small h1] at h
      have := congrArg List.length h
      have hv := varL_pos v
      simp at this
      exact List.eq_nil_of_length_eq_zero (by omega)
    · rw [varL_great h1] at h
      by_cases h2 : v < 128
      · rw [varL_small h2] at h
        simp at h; omega
      · rw [varL_great h2] at h
        simp only [List.cons_append, List.cons.injEq] at h
        exact ih (u / 128) (by omega) (v / 128) l h.2

end Go.Proofs.YtdncnljcihblbaaDoor
