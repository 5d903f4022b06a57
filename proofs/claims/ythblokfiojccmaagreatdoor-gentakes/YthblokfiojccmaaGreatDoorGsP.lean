/-
  The signs of a text, as the document finds them: the same ones.
-/
import Derived.Test.YthblokfiojccmaaGreatDoorGpP
import Derived.Test.YthblokfiojccmaaGreatDoorRdG
namespace Go.Proofs.YthblokfiojccmaaGreatDoor.Gn

def isMk (c : UInt8) : Bool := c == 40 || (c == 41 || c == 44)
def emitD (cur : BtP) : List BtP := if cur = [] then [] else [cur]
/-- One pass over the bytes, with the word that stands open. -/
def dsF : BtP → BtP → List BtP
  | cur, [] => emitD cur
  | cur, c :: l => if c = 32 then emitD cur ++ dsF [] l else if isMk c = true then emitD cur ++ [c] :: dsF [] l else dsF (cur ++ [c]) l

theorem seps_has (c : UInt8) : c ∈ sepsP ↔ c = 32 ∨ isMk c = true := by
  simp only [sepsP, isMk, List.mem_cons, List.not_mem_nil, or_false, Bool.or_eq_true, beq_iff_eq]
  constructor
  · rintro (e | e | e | e) <;> simp [e]
  · rintro (e | e | e | e) <;> simp [e]
theorem dsF_word : ∀ (u cur rest : BtP), (∀ c ∈ u, c ∉ sepsP) → dsF cur (u ++ rest) = dsF (cur ++ u) rest
  | [], cur, rest, _ => by simp
  | c :: u, cur, rest, h => by
    have hc := h c (by simp)
    rw [seps_has] at hc
    rw [List.cons_append, dsF, if_neg (fun e => hc (.inl e)), if_neg (fun e => hc (.inr e)), dsF_word u _ rest (fun x hx => h x (by simp [hx]))]
    simp
theorem dsF_cut (cur rest : BtP) (hc : cur ≠ []) (hr : ∀ c l, rest = c :: l → c ∈ sepsP) : dsF cur rest = cur :: dsF [] rest := by
  cases rest with
  | nil => simp [dsF, emitD, hc]
  | cons c l =>
    have h := hr c l rfl
    rw [seps_has] at h
    rw [dsF, dsF]
    by_cases h1 : c = 32
    · rw [if_pos h1, if_pos h1]; simp [emitD, hc]
    · have h2 : isMk c = true := h.resolve_left h1
      rw [if_neg h1, if_neg h1, if_pos h2, if_pos h2]; simp [emitD, hc]

theorem sgLen_mark {c : UInt8} (l : BtP) (h : isMk c = true) : sgLen (c :: l) = 1 := by
  have hm : c ∈ sepsP := (seps_has c).2 (.inr h)
  have : Lib.indexAny (c :: l) sepsP = (0 : Nat) := Lib.indexAny_hit (Lib.NoAny.zero _ _) (i := 0) rfl (by simpa using hm)
  unfold sgLen
  rw [this]
  rfl
theorem sgLen_word (u rest : BtP) (hu : u ≠ []) (h : ∀ c ∈ u, c ∉ sepsP) (hr : ∀ c l, rest = c :: l → c ∈ sepsP) : sgLen (u ++ rest) = u.length := by
  have hno : Lib.NoAny (u ++ rest) sepsP u.length := fun j b hj hb => by
    rw [List.getElem?_append_left hj] at hb
    have := h b (List.mem_of_getElem? hb)
    simpa using this
  have hpos : 0 < u.length := List.length_pos_iff.2 hu
  unfold sgLen
  cases rest with
  | nil =>
    have : Lib.indexAny (u ++ []) sepsP = -1 := Lib.indexAny_none (by simpa using hno)
    rw [if_pos this]; simp
  | cons c l =>
    have hc := hr c l rfl
    have : Lib.indexAny (u ++ c :: l) sepsP = (u.length : Nat) := Lib.indexAny_hit hno (x := c) (by simp) (by simpa using hc)
    rw [this, if_neg (by omega), if_neg (by omega)]
    simp
theorem split_word : ∀ l : BtP, ∃ u rest, l = u ++ rest ∧ (∀ c ∈ u, c ∉ sepsP) ∧ ∀ c r, rest = c :: r → c ∈ sepsP
  | [] => ⟨[], [], rfl, by simp, by simp⟩
  | c :: l => by
    by_cases h : c ∈ sepsP
    · exact ⟨[], c :: l, rfl, by simp, fun x r e => by injection e with e _; rw [← e]; exact h⟩
    · obtain ⟨u, rest, h1, h2, h3⟩ := split_word l
      refine ⟨c :: u, rest, by rw [h1]; rfl, fun x hx => ?_, h3⟩
      rcases List.mem_cons.1 hx with e | e
      · rw [e]; exact h
      · exact h2 x e
theorem sgs_dsF : ∀ (n : Nat) (l : BtP), l.length ≤ n → sgs n l = dsF [] l
  | 0, l, h => by
    have : l = [] := List.eq_nil_of_length_eq_zero (by omega)
    subst this; rfl
  | n + 1, [], _ => rfl
  | n + 1, c :: l, h => by
    simp only [List.length_cons] at h
    rw [sgs]
    by_cases h1 : c = 32
    · rw [if_pos h1, dsF, if_pos h1, sgs_dsF n l (by omega)]; simp [emitD]
    · rw [if_neg h1]
      by_cases h2 : isMk c = true
      · rw [sgLen_mark l h2, dsF, if_neg h1, if_pos h2, sgs_dsF n _ (by simp; omega)]
        simp [emitD]
      · have hc : c ∉ sepsP := fun e => ((seps_has c).1 e).elim h1 h2
        obtain ⟨u, rest, e1, e2, e3⟩ := split_word l
        have e4 : c :: l = (c :: u) ++ rest := by rw [e1]; rfl
        have e5 : ∀ x ∈ c :: u, x ∉ sepsP := fun x hx => by
          rcases List.mem_cons.1 hx with e | e
          · rw [e]; exact hc
          · exact e2 x e
        have hl : l.length = u.length + rest.length := by rw [e1, List.length_append]
        rw [e4, sgLen_word (c :: u) rest (by simp) e5 e3, dsF_word (c :: u) [] rest e5, List.nil_append, dsF_cut (c :: u) rest (by simp) e3]
        rw [List.take_left' rfl, List.drop_left' rfl, sgs_dsF n rest (by omega)]
end Go.Proofs.YthblokfiojccmaaGreatDoor.Gn
