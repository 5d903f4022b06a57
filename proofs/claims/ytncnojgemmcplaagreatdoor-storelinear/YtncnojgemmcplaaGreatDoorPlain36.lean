/-
  Numbers in base 36, and names made of them, each number with an end of its own: in plain Lean; no two are alike.
-/
import Derived.WalkKit
namespace Go.Proofs.YtncnojgemmcplaaGreatDoor

def dig (i : Nat) : UInt8 := if i < 10 then UInt8.ofNat (48 + i) else UInt8.ofNat (87 + i)
def undig (b : UInt8) : Nat := if b.toNat < 58 then b.toNat - 48 else b.toNat - 87
theorem dig_nat {i : Nat} (h : i < 36) : (dig i).toNat = if i < 10 then 48 + i else 87 + i := by
  unfold dig
  split <;> simp [UInt8.toNat_ofNat'] <;> omega
theorem undig_dig {i : Nat} (h : i < 36) : undig (dig i) = i := by
  unfold undig
  rw [dig_nat h]
  by_cases h10 : i < 10
  · simp [h10]; omega
  · simp [h10]; omega
theorem dig_ne {i : Nat} (h : i < 36) (b : UInt8) (hb : b.toNat < 48) : dig i ≠ b := by
  intro e
  have := dig_nat h
  rw [e] at this
  split at this <;> omega
theorem dig_ne2 {i : Nat} (h : i < 36) : dig i ≠ 59 := by
  intro e
  have := dig_nat h
  rw [e] at this
  have h59 : (59 : UInt8).toNat = 59 := rfl
  rw [h59] at this
  split at this <;> omega

def d36 (u : Nat) : List UInt8 := if _h : u < 36 then [dig u] else d36 (u / 36) ++ [dig (u % 36)]
decreasing_by omega

theorem d36_small {u : Nat} (h : u < 36) : d36 u = [dig u] := by unfold d36; rw [dif_pos h]
theorem d36_big {u : Nat} (h : ¬ u < 36) : d36 u = d36 (u / 36) ++ [dig (u % 36)] := by rw [d36, dif_neg h]

def val36 (l : List UInt8) : Nat := l.foldl (fun m b => m * 36 + undig b) 0
theorem val_d36 (u : Nat) : val36 (d36 u) = u := by
  induction u using Nat.strongRecOn with
  | ind u ih =>
    by_cases h : u < 36
    · rw [d36_small h]; simp [val36, undig_dig h]
    · rw [d36_big h]
      have := ih (u / 36) (by omega)
      unfold val36 at this ⊢
      rw [List.foldl_append, this]
      simp only [List.foldl_cons, List.foldl_nil]
      rw [undig_dig (by omega)]
      omega
theorem d36_inj {u v : Nat} (h : d36 u = d36 v) : u = v := by rw [← val_d36 u, h, val_d36]
theorem d36_ne (u : Nat) (b : UInt8) (hb : b.toNat < 48) : b ∉ d36 u := by
  induction u using Nat.strongRecOn with
  | ind u ih =>
    by_cases h : u < 36
    · rw [d36_small h]; simp; exact fun e => dig_ne h b hb e.symm
    · rw [d36_big h]; simp; exact ⟨ih (u / 36) (by omega), fun e => dig_ne (by omega) b hb e.symm⟩
theorem d36_ne2 (u : Nat) : (59 : UInt8) ∉ d36 u := by
  induction u using Nat.strongRecOn with
  | ind u ih =>
    by_cases h : u < 36
    · rw [d36_small h]; simp; exact fun e => dig_ne2 h e.symm
    · rw [d36_big h]; simp; exact ⟨ih (u / 36) (by omega), fun e => dig_ne2 (by omega) e.symm⟩

def n36 (x : Int) : List UInt8 := if x < 0 then 45 :: d36 (-x).toNat else d36 x.toNat
theorem n36_inj {x y : Int} (h : n36 x = n36 y) : x = y := by
  unfold n36 at h
  by_cases hx : x < 0
  · by_cases hy : y < 0
    · rw [if_pos hx, if_pos hy] at h
      have := d36_inj (List.cons.inj h).2
      omega
    · rw [if_pos hx, if_neg hy] at h
      exact absurd (by rw [← h]; simp) (d36_ne y.toNat 45 (by decide))
  · by_cases hy : y < 0
    · rw [if_neg hx, if_pos hy] at h
      exact absurd (by rw [h]; simp) (d36_ne x.toNat 45 (by decide))
    · rw [if_neg hx, if_neg hy] at h
      have := d36_inj h
      omega
theorem n36_ne (x : Int) : (44 : UInt8) ∉ n36 x ∧ (59 : UInt8) ∉ n36 x := by
  unfold n36
  split
  · have := d36_ne (-x).toNat 44 (by decide)
    have := d36_ne2 (-x).toNat
    simp; constructor <;> assumption
  · exact ⟨d36_ne _ 44 (by decide), d36_ne2 _⟩

theorem cut_at {s : UInt8} : ∀ {a b x y : List UInt8}, s ∉ a → s ∉ b → a ++ s :: x = b ++ s :: y → a = b ∧ x = y
  | [], [], x, y, _, _, h => by simpa using h
  | [], b :: bs, x, y, _, hb, h => by
    simp only [List.nil_append, List.cons_append] at h
    exact absurd (by rw [(List.cons.inj h).1]; simp) hb
  | a :: as, [], x, y, ha, _, h => by
    simp only [List.nil_append, List.cons_append] at h
    exact absurd (by rw [← (List.cons.inj h).1]; simp) ha
  | a :: as, b :: bs, x, y, ha, hb, h => by
    simp only [List.cons_append] at h
    obtain ⟨e1, e2⟩ := List.cons.inj h
    obtain ⟨e3, e4⟩ := cut_at (fun hm => ha (List.mem_cons_of_mem _ hm)) (fun hm => hb (List.mem_cons_of_mem _ hm)) e2
    exact ⟨by rw [e1, e3], e4⟩

def rowB (st : List Int) : List UInt8 := st.flatMap fun x => n36 x ++ [44]
theorem rowB_cons (x : Int) (st : List Int) : rowB (x :: st) = n36 x ++ 44 :: rowB st := by simp [rowB]
theorem rowB_ne (st : List Int) : (59 : UInt8) ∉ rowB st := by
  intro h
  obtain ⟨x, _, hx⟩ := List.mem_flatMap.1 h
  rcases List.mem_append.1 hx with h | h
  · exact (n36_ne x).2 h
  · simp at h
theorem rowB_inj : ∀ {s t : List Int}, rowB s = rowB t → s = t
  | [], [], _ => rfl
  | [], y :: t, h => by rw [rowB_cons] at h; simp [rowB] at h
  | x :: s, [], h => by rw [rowB_cons] at h; simp [rowB] at h
  | x :: s, y :: t, h => by
    rw [rowB_cons, rowB_cons] at h
    obtain ⟨e1, e2⟩ := cut_at (n36_ne x).1 (n36_ne y).1 h
    rw [n36_inj e1, rowB_inj e2]

def keysB (S : Int → List Int) (ks : List Nat) : List UInt8 := ks.flatMap fun k : Nat => 59 :: rowB (S (k : Int))
theorem keysB_cons (S : Int → List Int) (k : Nat) (ks : List Nat) : keysB S (k :: ks) = 59 :: (rowB (S k) ++ keysB S ks) := by simp [keysB]
theorem keysB_inj {S T : Int → List Int} : ∀ {ks : List Nat} {a b : List UInt8}, (59 : UInt8) ∉ a → (59 : UInt8) ∉ b → a ++ keysB S ks = b ++ keysB T ks → a = b ∧ ∀ k ∈ ks, S k = T k
  | [], a, b, _, _, h => by simpa [keysB] using h
  | k :: ks, a, b, ha, hb, h => by
    rw [keysB_cons, keysB_cons] at h
    obtain ⟨e1, e2⟩ := cut_at ha hb h
    obtain ⟨e3, e4⟩ := keysB_inj (rowB_ne _) (rowB_ne _) e2
    exact ⟨e1, fun m hm => by
      rcases List.mem_cons.1 hm with rfl | hm
      · exact rowB_inj e3
      · exact e4 m hm⟩


theorem d36_length {u : Nat} : ∀ {k : Nat}, 0 < k → u < 36 ^ k → (d36 u).length ≤ k := by
  intro k
  induction k generalizing u with
  | zero => intro h; omega
  | succ k ih =>
    intro _ hu
    by_cases h : u < 36
    · rw [d36_small h]; simp
    · rw [d36_big h]
      have hk : 0 < k := by
        rcases Nat.eq_zero_or_pos k with rfl | h'
        · simp at hu; omega
        · exact h'
      have hu' : u < 36 * 36 ^ k := by rw [Nat.pow_succ] at hu; omega
      have := ih hk (u := u / 36) (by rw [Nat.div_lt_iff_lt_mul (by decide)]; omega)
      simp; exact this
theorem d36_length64 {u : Nat} (h : u < 18446744073709551616) : (d36 u).length ≤ 13 := d36_length (by decide) (Nat.lt_of_lt_of_le h (by decide))
theorem d36_pos (u : Nat) : 0 < (d36 u).length := by
  by_cases h : u < 36
  · rw [d36_small h]; simp
  · rw [d36_big h]; simp
end Go.Proofs.YtncnojgemmcplaaGreatDoor
