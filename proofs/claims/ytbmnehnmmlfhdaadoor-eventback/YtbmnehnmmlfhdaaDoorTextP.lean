/-
  What Text writes, in plain Lean, and that it is read again.
-/
import Derived.Test.YtbmnehnmmlfhdaaDoorFieldsQ
import Derived.Test.YtbmnehnmmlfhdaaDoorEvs
import Derived.Lib.ItoaMem
import Derived.Lib.ParseIntB
import Derived.Lib.IndexMore
namespace Go.Proofs.YtbmnehnmmlfhdaaDoor
open Go.Lib

theorem digit_ok (d : Nat) (h : d < 10) : 48 ≤ (UInt8.ofNat (48 + d)).toNat ∧ (UInt8.ofNat (48 + d)).toNat ≤ 57 ∧ (UInt8.ofNat (48 + d)).toNat - 48 = d := by
  have : (UInt8.ofNat (48 + d)).toNat = 48 + d := by
    rw [UInt8.toNat_ofNat']; omega
  omega

theorem digits_ok (u : Nat) : decDigits u ≠ [] ∧ ∀ c ∈ decDigits u, 48 ≤ c.toNat ∧ c.toNat ≤ 57 := by
  induction u using Nat.strongRecOn with
  | _ u ih =>
    by_cases h : u < 10
    · rw [decDigits_one h]
      refine ⟨by simp, fun c hc => ?_⟩
      rw [List.mem_singleton.1 hc]
      exact ⟨(digit_ok u h).1, (digit_ok u h).2.1⟩
    · rw [decDigits, dif_neg h]
      refine ⟨by simp, fun c hc => ?_⟩
      rcases List.mem_append.1 hc with hc | hc
      · exact (ih (u / 10) (by omega)).2 c hc
      · rw [List.mem_singleton.1 hc]
        exact ⟨(digit_ok (u % 10) (by omega)).1, (digit_ok (u % 10) (by omega)).2.1⟩

theorem parse_snoc (M : Nat) (c : UInt8) (hc : 48 ≤ c.toNat ∧ c.toNat ≤ 57) : ∀ (l : List UInt8) (acc v : Nat), parseUintM M acc l = .ok v → v < 1844674407370955162 → v * 10 + (c.toNat - 48) ≤ M → parseUintM M acc (l ++ [c]) = .ok (v * 10 + (c.toNat - 48))
  | [], acc, v, h, hv, hM => by
    simp only [parseUintM] at h
    obtain rfl : acc = v := by simpa using h
    simp only [List.nil_append, parseUintM]
    rw [if_pos hc, if_neg (by omega), if_neg (by omega)]
  | d :: l, acc, v, h, hv, hM => by
    rw [List.cons_append]
    unfold parseUintM at h ⊢
    split at h
    · rename_i h1
      rw [if_pos h1]
      split at h
      · cases h
      · rename_i h2
        rw [if_neg h2]
        split at h
        · cases h
        · rename_i h3
          rw [if_neg h3]
          exact parse_snoc M c hc l _ v h hv hM
    · cases h

theorem parse_digits (M u : Nat) (hu : u ≤ M) (hu2 : u < 10000000000000000000) : parseUintM M 0 (decDigits u) = .ok u := by
  induction u using Nat.strongRecOn with
  | _ u ih =>
    by_cases h : u < 10
    · rw [decDigits_one h]
      obtain ⟨h1, h2, h3⟩ := digit_ok u h
      simp only [parseUintM]
      rw [if_pos ⟨h1, h2⟩, if_neg (by omega), if_neg (by omega)]
      congr 1; omega
    · rw [decDigits, dif_neg h]
      obtain ⟨h1, h2, h3⟩ := digit_ok (u % 10) (by omega)
      rw [parse_snoc M _ ⟨h1, h2⟩ _ 0 (u / 10) (ih (u / 10) (by omega) (by omega) (by omega)) (by omega) (by omega)]
      congr 1; omega

theorem itoa_ok (n : Int) : itoa n ≠ [] ∧ ∀ c ∈ itoa n, (48 ≤ c.toNat ∧ c.toNat ≤ 57) ∨ c.toNat = 45 := by
  unfold itoa
  split
  · refine ⟨by simp, fun c hc => ?_⟩
    rcases List.mem_cons.1 hc with rfl | hc
    · exact .inr rfl
    · exact .inl ((digits_ok _).2 c hc)
  · exact ⟨(digits_ok _).1, fun c hc => .inl ((digits_ok _).2 c hc)⟩

theorem parse_itoa (n : Int) (h0 : -1000000 ≤ n) (h1 : n ≤ 1000000) : parseIntB 64 (itoa n) = .ok n := by
  unfold itoa
  split
  · rename_i hn
    simp only [parseIntB]
    have e1 : (45 : UInt8).toNat = 45 := rfl
    rw [e1, if_pos (by omega)]
    unfold parseUintB
    rw [if_neg (digits_ok _).1, parse_digits _ _ (by omega) (by omega)]
    simp only
    rw [if_neg (by omega), if_neg (by omega)]
    simp only [if_true]
    congr 1; omega
  · rename_i hn
    obtain ⟨hne, hd⟩ := digits_ok n.toNat
    have hp := parse_digits (2 ^ 64 - 1) n.toNat (by omega) (by omega)
    cases hl : decDigits n.toNat with
    | nil => exact absurd hl hne
    | cons c r =>
      rw [hl] at hd hp
      have hc := hd c (by simp)
      simp only [parseIntB]
      rw [if_neg (by omega)]
      unfold parseUintB
      rw [if_neg (by simp), hp]
      simp only
      rw [if_neg (by omega), if_neg (by omega), if_neg (by omega)]
      congr 1; omega

def typeN (n : Int) : List UInt8 :=
  if n = 1 then [105, 110, 118, 111, 107, 101] else if n = 2 then [111, 107] else if n = 3 then [102, 97, 105, 108] else if n = 4 then [105, 110, 102, 111] else []
def kindN (n : Int) : List UInt8 :=
  if n = 1 then [114, 101, 97, 100] else if n = 2 then [119, 114, 105, 116, 101] else if n = 3 then [115, 119, 97, 112] else if n = 4 then [97, 100, 100] else if n = 5 then [103, 101, 116] else if n = 6 then [112, 117, 116] else if n = 7 then [100, 114, 111, 112] else if n = 8 then [104, 97, 115] else if n = 9 then [112, 117, 115, 104] else if n = 10 then [112, 111, 112] else if n = 11 then [108, 111, 99, 107] else if n = 12 then [117, 110, 108, 111, 99, 107] else []

theorem typeN_ok {n : Int} (h0 : 1 ≤ n) (h1 : n ≤ 4) : typeN n ≠ [] ∧ ∀ c ∈ typeN n, 97 ≤ c.toNat ∧ c.toNat ≤ 122 := by
  have : n = 1 ∨ n = 2 ∨ n = 3 ∨ n = 4 := by omega
  rcases this with rfl | rfl | rfl | rfl <;> decide
theorem kindN_ok {n : Int} (h0 : 1 ≤ n) (h1 : n ≤ 12) : kindN n ≠ [] ∧ ∀ c ∈ kindN n, 97 ≤ c.toNat ∧ c.toNat ≤ 122 := by
  have : n = 1 ∨ n = 2 ∨ n = 3 ∨ n = 4 ∨ n = 5 ∨ n = 6 ∨ n = 7 ∨ n = 8 ∨ n = 9 ∨ n = 10 ∨ n = 11 ∨ n = 12 := by omega
  rcases this with rfl | rfl | rfl | rfl | rfl | rfl | rfl | rfl | rfl | rfl | rfl | rfl <;> decide

def wordsOf (e : Ev) : List (List UInt8) := [itoa e.p, typeN e.t, kindN e.d, itoa e.k, itoa e.a, itoa e.b, itoa e.r]
def lineB (e : Ev) : List UInt8 := Lib.join (wordsOf e) [32]
def textB (l : List Ev) : List UInt8 := l.flatMap fun e => lineB e ++ [10]

/-- An event whose type and kind have names. -/
def NamedE (e : Ev) : Prop := 1 ≤ e.t ∧ e.t ≤ 4 ∧ 1 ≤ e.d ∧ e.d ≤ 12

theorem words_ok {e : Ev} (h : NamedE e) : ∀ w ∈ wordsOf e, w ≠ [] ∧ ∀ c ∈ w, 33 ≤ c.toNat ∧ c.toNat < 128 := by
  have hi : ∀ n : Int, itoa n ≠ [] ∧ ∀ c ∈ itoa n, 33 ≤ c.toNat ∧ c.toNat < 128 := fun n => ⟨(itoa_ok n).1, fun c hc => by have := (itoa_ok n).2 c hc; omega⟩
  have ht := typeN_ok h.1 h.2.1
  have hk := kindN_ok h.2.2.1 h.2.2.2
  intro w hw
  simp only [wordsOf, List.mem_cons, List.not_mem_nil, or_false] at hw
  rcases hw with rfl | rfl | rfl | rfl | rfl | rfl | rfl
  · exact hi _
  · exact ⟨ht.1, fun c hc => by have := ht.2 c hc; omega⟩
  · exact ⟨hk.1, fun c hc => by have := hk.2 c hc; omega⟩
  · exact hi _
  · exact hi _
  · exact hi _
  · exact hi _

theorem join_bytes (p : UInt8 → Prop) (h32 : p 32) : ∀ (ws : List (List UInt8)), (∀ w ∈ ws, ∀ c ∈ w, p c) → ∀ c ∈ Lib.join ws [32], p c
  | [], _ => by simp [Lib.join]
  | [w], h => by
    have e : Lib.join [w] [32] = w := by simp [Lib.join]
    rw [e]; exact h w (by simp)
  | w :: v :: r, h => by
    rw [join_two]
    intro c hc
    rcases List.mem_append.1 hc with hc | hc
    · exact h w (by simp) c hc
    · rcases List.mem_cons.1 hc with rfl | hc
      · exact h32
      · exact join_bytes p h32 (v :: r) (fun x hx => h x (by simp [hx])) c hc

theorem line_bytes {e : Ev} (h : NamedE e) : ∀ c ∈ lineB e, c.toNat ≠ 10 ∧ c.toNat < 128 :=
  join_bytes (fun c => c.toNat ≠ 10 ∧ c.toNat < 128) (by decide) _ fun w hw c hc => by have := (words_ok h w hw).2 c hc; omega

theorem fields_line {e : Ev} (h : NamedE e) : Lib.goFieldsP blankP ⟨(lineB e).toArray⟩ = (wordsOf e).map fun w => ⟨w.toArray⟩ :=
  fields_words _ (fun w hw => ⟨(words_ok h w hw).1, fun c hc => by have := (words_ok h w hw).2 c hc; omega⟩) (fun c hc => (line_bytes h c hc).2)

theorem index_line : ∀ (l r : List UInt8), (∀ c ∈ l, c.toNat ≠ 10) → Lib.index (l ++ 10 :: r) [10] = l.length
  | [], r, _ => by simp [Lib.index, List.isPrefixOf]
  | c :: l, r, h => by
    have hc : (10 == c) = false := by
      have := h c (by simp)
      rw [beq_eq_false_iff_ne]
      intro e; exact this (by rw [← e]; rfl)
    rw [List.cons_append, Lib.index, index_line l r (fun x hx => h x (by simp [hx]))]
    simp [List.isPrefixOf, hc]

theorem cut_line (l r : List UInt8) (h : ∀ c ∈ l, c.toNat ≠ 10) : Lib.cut (l ++ 10 :: r) [10] = (l, r, true) := by
  unfold Lib.cut
  rw [index_line l r h, if_pos (by omega)]
  simp
theorem cut_none : Lib.cut [] [10] = ([], [], false) := rfl

end Go.Proofs.YtbmnehnmmlfhdaaDoor
