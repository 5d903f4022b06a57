/-
  Chapter 18.3, plain: stripes merged by their tickets. Nothing of the program is named here.
-/
import Derived.Test.YtdncnljcihblbaaDoorEvP
namespace Go.Proofs.YtdncnljcihblbaaDoor

/-- An event with its ticket. -/
structure Kp where
  n : Int
  e : Ev

/-- A recorder's own list. -/
structure Spe where
  tk : List Int
  ev : List Ev

def pairL (s : Spe) : List Kp := List.zipWith Kp.mk s.tk s.ev
def pairsL (l : List Spe) : List Kp := l.flatMap pairL
/-- Whether tickets rise. -/
def riseB : List Int → Bool
  | a :: b :: l => decide (a < b) && riseB (b :: l)
  | _ => true
/-- What is wrong with a stripe. -/
def fltS (s : Spe) : Int := if s.tk.length ≠ s.ev.length then 3 else if riseB s.tk then 0 else 10
/-- What is wrong, stripe by stripe. -/
def fltSs : List Spe → Int
  | [] => 0
  | s :: l => if fltS s = 0 then fltSs l else fltS s
/-- Whether two beside each other have one ticket. -/
def twinB : List Kp → Bool
  | a :: b :: l => decide (a.n = b.n) || twinB (b :: l)
  | _ => false

def Srt (l : List Kp) : Prop := l.Pairwise fun x y => x.n ≤ y.n

theorem fltSs_cases : ∀ (l : List Spe), fltSs l = 0 ∨ fltSs l = 3 ∨ fltSs l = 10
  | [] => Or.inl rfl
  | s :: l => by
    unfold fltSs
    split
    · exact fltSs_cases l
    · rename_i h
      unfold fltS at h ⊢
      split
      · exact Or.inr (Or.inl rfl)
      · split
        · rename_i h2 h3; rw [if_neg h2, if_pos h3] at h; exact absurd rfl h
        · exact Or.inr (Or.inr rfl)

theorem srt_strict : ∀ {l : List Kp}, Srt l → twinB l = false → l.Pairwise fun x y => x.n < y.n
  | [], _, _ => List.Pairwise.nil
  | [a], _, _ => List.pairwise_singleton _ _
  | a :: b :: l, h, ht => by
    unfold twinB at ht
    simp only [Bool.or_eq_false_iff, decide_eq_false_iff_not] at ht
    have h1 := List.pairwise_cons.1 h
    have ih := srt_strict h1.2 ht.2
    have hab : a.n < b.n := by have := h1.1 b (by simp); omega
    refine List.pairwise_cons.2 ⟨?_, ih⟩
    intro x hx
    rcases List.mem_cons.1 hx with rfl | hx
    · exact hab
    · have := (List.pairwise_cons.1 ih).1 x hx; omega
theorem twin_of_strict : ∀ {l : List Kp}, (l.Pairwise fun x y => x.n < y.n) → twinB l = false
  | [], _ => rfl
  | [a], _ => rfl
  | a :: b :: l, h => by
    have h1 := List.pairwise_cons.1 h
    unfold twinB
    simp only [Bool.or_eq_false_iff, decide_eq_false_iff_not]
    exact ⟨by have := h1.1 b (by simp); omega, twin_of_strict h1.2⟩

/-- Two strictly rising rows of the same things are one. -/
theorem strict_one : ∀ {l m : List Kp}, (l.Pairwise fun x y => x.n < y.n) → (m.Pairwise fun x y => x.n < y.n) → l.Perm m → l = m
  | [], m, _, _, hp => by rw [List.nil_perm.1 hp]
  | a :: l, [], _, _, hp => by simp at hp
  | a :: l, b :: m, h1, h2, hp => by
    have g1 := List.pairwise_cons.1 h1
    have g2 := List.pairwise_cons.1 h2
    have hab : a = b := by
      have ha : a ∈ b :: m := hp.subset (by simp)
      have hb : b ∈ a :: l := hp.symm.subset (by simp)
      rcases List.mem_cons.1 ha with rfl | ha
      · rfl
      · rcases List.mem_cons.1 hb with rfl | hb
        · rfl
        · have := g1.1 b hb; have := g2.1 a ha; omega
    subst hab
    rw [strict_one g1.2 g2.2 (List.Perm.cons_inv hp)]

/-- What is sorted of the same things: twins in one are twins in the other one, and without twins they are one. -/
theorem srt_same {l m : List Kp} (h1 : Srt l) (h2 : Srt m) (hp : l.Perm m) : twinB l = twinB m ∧ (twinB l = false → l = m) := by
  have key : ∀ {l m : List Kp}, Srt l → Srt m → l.Perm m → twinB l = false → twinB m = false := by
    intro l m h1 h2 hp ht
    have hs := srt_strict h1 ht
    apply twin_of_strict
    have hn : l.Pairwise fun x y => x.n ≠ y.n := hs.imp fun h => by omega
    have hn2 : m.Pairwise fun x y => x.n ≠ y.n := (hp.pairwise_iff (fun h => Ne.symm h)).1 hn
    exact (h2.and hn2).imp fun h => by omega
  have e : twinB l = twinB m := by
    cases hl : twinB l
    · exact (key h1 h2 hp hl).symm
    · cases hm : twinB m
      · rw [key h2 h1 hp.symm hm] at hl; cases hl
      · rfl
  exact ⟨e, fun ht => strict_one (srt_strict h1 ht) (srt_strict h2 (e ▸ ht)) hp⟩

/-- The document's place for a ticket, from behind. -/
def insA (n : Int) : List Kp → Nat → Nat
  | _, 0 => 0
  | l, k + 1 => if (l.getD k ⟨0, ⟨0, 0, 0, 0, 0, 0, 0⟩⟩).n > n then insA n l k else k + 1
def insL (l : List Kp) (x : Kp) : List Kp := l.take (insA x.n l l.length) ++ x :: l.drop (insA x.n l l.length)

theorem insA_le (n : Int) (l : List Kp) : ∀ k, insA n l k ≤ k
  | 0 => Nat.le_refl _
  | k + 1 => by
    unfold insA
    split
    · exact Nat.le_succ_of_le (insA_le n l k)
    · exact Nat.le_refl _
theorem insA_above (n : Int) (l : List Kp) : ∀ k, k ≤ l.length → ∀ i (h : i < l.length), insA n l k ≤ i → i < k → n < l[i].n
  | 0, _, i, _, _, h2 => by omega
  | k + 1, hk, i, hi, h1, h2 => by
    unfold insA at h1
    split at h1
    · rename_i hg
      by_cases hik : i = k
      · subst hik
        rw [List.getD_eq_getElem?_getD, List.getElem?_eq_getElem hi] at hg
        exact hg
      · exact insA_above n l k (by omega) i hi h1 (by omega)
    · omega
theorem insA_below (n : Int) (l : List Kp) : ∀ k, k ≤ l.length → 0 < insA n l k → ∀ (h : insA n l k - 1 < l.length), l[insA n l k - 1].n ≤ n
  | 0, _, h0, _ => by unfold insA at h0; omega
  | k + 1, hk, h0, h => by
    by_cases hg : (l.getD k ⟨0, ⟨0, 0, 0, 0, 0, 0, 0⟩⟩).n > n
    · have e : insA n l (k + 1) = insA n l k := by rw [insA, if_pos hg]
      simp only [e] at h0 h ⊢
      exact insA_below n l k (by omega) h0 h
    · have e : insA n l (k + 1) = k + 1 := by rw [insA, if_neg hg]
      simp only [e, Nat.add_sub_cancel] at h ⊢
      rw [List.getD_eq_getElem?_getD, List.getElem?_eq_getElem h] at hg
      simp at hg; exact hg

theorem ins_perm (l : List Kp) (x : Kp) : (insL l x).Perm (l ++ [x]) := by
  unfold insL
  generalize insA x.n l l.length = k
  have h1 : (l.take k ++ x :: l.drop k).Perm (x :: (l.take k ++ l.drop k)) := List.perm_middle
  rw [List.take_append_drop] at h1
  exact h1.trans (List.perm_append_comm (l₁ := [x]) (l₂ := l))
theorem ins_srt {l : List Kp} (h : Srt l) (x : Kp) : Srt (insL l x) := by
  unfold insL
  have hle := insA_le x.n l l.length
  have hab := insA_above x.n l l.length (Nat.le_refl _)
  have hbe := insA_below x.n l l.length (Nat.le_refl _)
  generalize insA x.n l l.length = k at *
  unfold Srt at h ⊢
  rw [List.pairwise_iff_getElem] at h
  have hlo : ∀ i (hi : i < l.length), i < k → l[i].n ≤ x.n := by
    intro i hi hk
    have h1 := hbe (by omega) (by omega)
    by_cases e : i = k - 1
    · subst e; exact h1
    · have := h i (k - 1) hi (by omega) (by omega); omega
  refine List.pairwise_append.2 ⟨?_, List.pairwise_cons.2 ⟨?_, ?_⟩, ?_⟩
  · exact (List.pairwise_iff_getElem.2 h).sublist (List.take_sublist _ _)
  · intro y hy
    obtain ⟨i, hi, rfl⟩ := List.mem_iff_getElem.1 hy
    rw [List.getElem_drop]
    have hi' : k + i < l.length := by simp at hi; omega
    have := hab (k + i) hi' (by omega) (by omega)
    omega
  · exact (List.pairwise_iff_getElem.2 h).sublist (List.drop_sublist _ _)
  · intro a ha b hb
    obtain ⟨i, hi, rfl⟩ := List.mem_iff_getElem.1 ha
    rw [List.getElem_take]
    have hi' : i < k ∧ i < l.length := by simp at hi; omega
    rcases List.mem_cons.1 hb with rfl | hb
    · exact hlo i hi'.2 hi'.1
    · obtain ⟨j, hj, rfl⟩ := List.mem_iff_getElem.1 hb
      rw [List.getElem_drop]
      have hj' : k + j < l.length := by simp at hj; omega
      exact h i (k + j) hi'.2 hj' (by omega)

/-- Numbered from a number on. -/
def numL (i : Nat) : List Ev → List Kp
  | [] => []
  | e :: l => ⟨i, e⟩ :: numL (i + 1) l
theorem numL_ge : ∀ (l : List Ev) (i : Nat), ∀ x ∈ numL i l, (i : Int) ≤ x.n
  | [], _, x, hx => (List.not_mem_nil hx).elim
  | e :: l, i, x, hx => by
    rcases List.mem_cons.1 hx with rfl | hx
    · exact Int.le_refl _
    · have := numL_ge l (i + 1) x hx; omega
theorem numL_strict : ∀ (l : List Ev) (i : Nat), (numL i l).Pairwise fun x y => x.n < y.n
  | [], _ => List.Pairwise.nil
  | e :: l, i => List.pairwise_cons.2 ⟨fun x hx => by have := numL_ge l (i + 1) x hx; show (i : Int) < _; omega, numL_strict l (i + 1)⟩
theorem numL_snoc : ∀ (l : List Ev) (i : Nat) (e : Ev), numL i (l ++ [e]) = numL i l ++ [⟨((i + l.length : Nat) : Int), e⟩]
  | [], _, _ => by simp [numL]
  | x :: l, i, e => by
    show _ :: numL (i + 1) (l ++ [e]) = _
    rw [numL_snoc l (i + 1) e]
    simp [numL]; omega
theorem numL_ev : ∀ (l : List Ev) (i : Nat), (numL i l).map Kp.e = l
  | [], _ => rfl
  | e :: l, i => by simp [numL, numL_ev l (i + 1)]
theorem numL_len (l : List Ev) (i : Nat) : (numL i l).length = l.length := by
  have := congrArg List.length (numL_ev l i); simpa using this

end Go.Proofs.YtdncnljcihblbaaDoor
