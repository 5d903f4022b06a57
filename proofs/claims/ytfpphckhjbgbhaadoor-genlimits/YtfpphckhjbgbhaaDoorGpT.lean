/-
  A limit's text and a then's: their signs, and what they give.
-/
import Derived.Test.YtfpphckhjbgbhaaDoorGpS
import Derived.Test.YtfpphckhjbgbhaaDoorRdH
namespace Go.Proofs.YtfpphckhjbgbhaaDoor.Gn

theorem indexAny_word {wd : BtP} (h : ∀ b ∈ wd, sepsP.contains b = false) (x : UInt8) (hx : sepsP.contains x = true) (rest : BtP) : Lib.indexAny (wd ++ x :: rest) sepsP = (wd.length : Nat) := by
  refine Lib.indexAny_hit (i := wd.length) (x := x) (fun j b hj hb => ?_) (by simp) hx
  rw [List.getElem?_append_left hj] at hb
  exact h b (List.mem_of_getElem? hb)
theorem sgs_blank (n : Nat) (l : BtP) (hn : l.length + 1 ≤ n) : sgs n (32 :: l) = sgs l.length l := by
  cases n with
  | zero => omega
  | succ n =>
    simp only [sgs, if_true]
    exact sgs_fuel _ _ _ (by omega) (Nat.le_refl _)
theorem sgs_word {wd : BtP} (h : ∀ b ∈ wd, sepsP.contains b = false) (hne : wd ≠ []) (rest : BtP) (n : Nat) (hn : (wd ++ 32 :: rest).length ≤ n) : sgs n (wd ++ 32 :: rest) = wd :: sgs rest.length rest := by
  cases wd with
  | nil => exact absurd rfl hne
  | cons c w' =>
    cases n with
    | zero => simp at hn
    | succ n =>
      have hc : c ≠ 32 := fun e => by have := h c (by simp); rw [e] at this; exact absurd this (by decide)
      have hi := indexAny_word h 32 (by decide) rest
      have hs : sgLen (c :: w' ++ 32 :: rest) = (c :: w').length := by
        unfold sgLen
        rw [hi, if_neg (by omega), if_neg (by simp; omega)]
        simp
      rw [List.cons_append] at hs ⊢
      simp only [sgs]
      rw [if_neg hc, hs, ← List.cons_append, List.take_left, List.drop_left]
      rw [sgs_blank _ _ (by simp at hn; omega)]
theorem sgs_par (rest : BtP) (n : Nat) (hn : rest.length + 1 ≤ n) : sgs n (40 :: rest) = [40] :: sgs rest.length rest := by
  cases n with
  | zero => omega
  | succ n =>
    have hs : sgLen (40 :: rest) = 1 := by
      have := indexAny_word (wd := []) (by simp) 40 (by decide) rest
      unfold sgLen
      rw [List.nil_append] at this
      rw [this]; rfl
    simp only [sgs]
    rw [if_neg (by decide), hs]
    simp only [List.take_succ_cons, List.take_zero, List.drop_succ_cons, List.drop_zero]
    rw [sgs_fuel n rest.length rest (by omega) (Nat.le_refl _)]
theorem indexAny_end : ∀ (l : BtP), Lib.indexAny (l ++ [41]) sepsP = if Lib.indexAny l sepsP = -1 then (l.length : Int) else Lib.indexAny l sepsP
  | [] => by rfl
  | b :: l => by
    have ih := indexAny_end l
    have hge := Lib.indexAny_ge sepsP l
    rw [List.cons_append, Lib.indexAny, Lib.indexAny]
    by_cases hb : sepsP.contains b = true
    · rw [if_pos hb, if_pos hb]; rfl
    · rw [if_neg hb, if_neg hb, ih]
      by_cases h1 : Lib.indexAny l sepsP = -1
      · rw [if_pos h1, h1]
        simp only [beq_self_eq_true, if_true, List.length_cons]
        rw [if_neg (by simp)]
        omega
      · rw [if_neg h1]
        have h2 : (Lib.indexAny l sepsP == -1) = false := by simp [h1]
        rw [h2]
        simp only [Bool.false_eq_true, if_false]
        rw [if_neg (by omega)]
theorem sgLen_end {l : BtP} (h : l ≠ []) : sgLen (l ++ [41]) = sgLen l := by
  have hl : 0 < l.length := List.length_pos_iff.2 h
  have hge := Lib.indexAny_ge sepsP l
  unfold sgLen
  rw [indexAny_end]
  by_cases h1 : Lib.indexAny l sepsP = -1
  · rw [if_pos h1, if_pos h1, if_neg (by omega), if_neg (by omega)]; omega
  · rw [if_neg h1]
    rw [if_neg h1, if_neg h1]
theorem sgs_end : ∀ (n m : Nat) (l : BtP), l.length ≤ n → l.length + 1 ≤ m → sgs m (l ++ [41]) = sgs n l ++ [[41]]
  | n, 0, _, _, h => by omega
  | n, m + 1, [], _, _ => by
    have : sgs n [] = [] := by cases n <;> rfl
    rw [this]
    have hs : sgLen [41] = 1 := by decide
    simp only [List.nil_append, sgs]
    rw [if_neg (by decide), hs]
    have : sgs m ([41].drop 1) = [] := by cases m <;> rfl
    rw [this]; rfl
  | 0, _, _ :: _, h, _ => by simp at h
  | n + 1, m + 1, c :: l, h, h' => by
    have hp := sgLen_pos (l := c :: l) (by simp)
    have he := sgLen_end (l := c :: l) (by simp)
    simp only [List.length_cons] at h h' hp
    rw [List.cons_append] at he ⊢
    simp only [sgs]
    by_cases hc : c = 32
    · rw [if_pos hc, if_pos hc]
      exact sgs_end n m l (by omega) (by omega)
    · rw [if_neg hc, if_neg hc, he, ← List.cons_append, List.take_append_of_le_length (by simp; omega), List.drop_append_of_le_length (by simp; omega)]
      rw [sgs_end n m _ (by simp; omega) (by simp; omega)]
      rfl

def dgT (n : Nat) : BtP := if n < 10 then [UInt8.ofNat (48 + n)] else [UInt8.ofNat (48 + n / 10), UInt8.ofNat (48 + n % 10)]
def limT (n : Nat) (l : BtP) : BtP := nmLimit ++ 32 :: (dgT n ++ 32 :: l)
def thnT (l : BtP) : BtP := nmThen ++ 32 :: 40 :: (l ++ [41])
theorem dg_all : ∀ n, n < 30 → (∀ b ∈ dgT n, sepsP.contains b = false) ∧ dgT n ≠ [] ∧ (numF 0 1000 [dgT n]).map (fun r => r.v) = some (n : Int) := by decide +kernel
theorem numF_one {lo hi : Int} {t : BtP} {s : List BtP} {v : Int} (h : (numF lo hi [t]).map (fun r => r.v) = some v) : numF lo hi (t :: s) = some ⟨v, s⟩ := by
  simp only [numF] at h ⊢
  cases hn : isNum t with
  | false => rw [hn] at h; simp at h
  | true =>
    rw [hn] at h
    simp only [if_true] at h ⊢
    cases hat : Lib.atoiAll t with
    | ok n =>
      rw [hat] at h
      simp only at h ⊢
      split at h
      · simp at h
      · rename_i hb
        rw [if_neg hb]
        simp at h
        rw [h]
    | «syntax» => rw [hat] at h; simp at h
    | range => rw [hat] at h; simp at h

theorem sgs_lim {n : Nat} (hn : n < 30) (l : BtP) : sgs (limT n l).length (limT n l) = nmLimit :: dgT n :: sgs l.length l := by
  obtain ⟨h1, h2, _⟩ := dg_all n hn
  unfold limT
  rw [sgs_word (by decide) (by decide) _ _ (Nat.le_refl _), sgs_word h1 h2 _ _ (Nat.le_refl _)]
theorem sgs_thn (l : BtP) : sgs (thnT l).length (thnT l) = nmThen :: [40] :: (sgs l.length l ++ [[41]]) := by
  unfold thnT
  rw [sgs_word (by decide) (by decide) _ _ (Nat.le_refl _), sgs_par _ _ (by simp), sgs_end l.length _ l (Nat.le_refl _) (by simp)]

theorem parseF_of {l : BtP} {g : Gt} (h : parseF l = some g) : ∃ r, gF 20 (sgs l.length l ++ [[]]) = some r ∧ r.s.headD [] = [] ∧ r.g = g := by
  unfold parseF at h
  split at h
  · cases h
  · split at h
    · cases h
    · rename_i r hr
      split at h
      · rename_i e
        cases h
        exact ⟨r, hr, e, rfl⟩
      · cases h

theorem lim_take {l : BtP} {n : Nat} {g g' : Gt} (hn : n < 30) (h : parseF l = some g) (h' : parseF (limT n l) = some g') (t : Tp) : (takeF 20 60 g' t).l = (takeF 20 60 g t).l.take n := by
  obtain ⟨r, hr, _, rfl⟩ := parseF_of h
  obtain ⟨r', hr', _, rfl⟩ := parseF_of h'
  obtain ⟨_, _, hv⟩ := dg_all n hn
  rw [sgs_lim hn] at hr'
  simp only [List.cons_append, gF] at hr'
  rw [if_neg (by decide), if_neg (by decide), if_pos trivial, numF_one hv] at hr'
  simp only at hr'
  split at hr'
  · cases hr'
  · rename_i q hq
    cases hr'
    have e := gF_mono _ _ _ hq
    rw [e] at hr
    cases hr
    have hh := (gF_reads 19 _ _ hq).1
    show (takeF 20 60 (.lim r.g (n : Int).toNat) t).l = _
    rw [Int.toNat_natCast, takeF_lim, ← takeF_more 19 _ _ _ hh, show min 60 n = n by omega]
    exact takeF_take 20 60 n r.g t (by omega)
theorem thn_take {l : BtP} {g g' : Gt} (h : parseF l = some g) (h' : parseF (thnT l) = some g') (t : Tp) : (takeF 20 60 g' t).l = (takeF 20 60 g t).l := by
  obtain ⟨r, hr, hr0, rfl⟩ := parseF_of h
  obtain ⟨r', hr', _, rfl⟩ := parseF_of h'
  obtain ⟨z, hz, hz2, hz3⟩ := gF_sfx 20 _ _ hr
  have hz0 : z = [] := by
    cases z with
    | nil => rfl
    | cons x z =>
      rw [hz] at hr0
      have h1 := (sgs_mem _ _ _ (hz2 x (by simp))).1
      exact absurd hr0 h1
  subst hz0
  rw [sgs_thn] at hr'
  simp only [List.cons_append, gF] at hr'
  rw [if_neg (by decide), if_neg (by decide), if_neg (by decide), if_neg (by decide), if_pos trivial, listF_eq] at hr'
  simp only [expF, if_true] at hr'
  split at hr'
  · cases hr'
  · rename_i q hq
    cases hr'
    split at hq
    · cases hq
    · rename_i u hu
      obtain ⟨u', k1, k2, k3⟩ := hz3 ([[41]] ++ [[]])
      have e := gF_mono _ _ _ hu
      rw [List.append_assoc] at e
      rw [k1] at e
      cases e
      have hh := (gF_reads 19 _ _ hu).1
      rw [k3] at hq
      simp only [List.nil_append, List.cons_append, List.length_cons, List.length_nil, moreF, finL, expF] at hq
      rw [if_neg (by decide)] at hq
      simp at hq
      have hql : q.l = [u.g] := by rw [← hq]
      show (takeF 20 60 (.thn q.l) t).l = _
      rw [hql, takeF_thn, ← takeF_more 19 _ _ _ hh, k2]
end Go.Proofs.YtfpphckhjbgbhaaDoor.Gn
