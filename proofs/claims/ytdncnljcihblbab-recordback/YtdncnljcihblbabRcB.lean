/-
  Chapter 18, plain: no byte more or less. Nothing of the program is named here.
-/
import Derived.Test.YtdncnljcihblbabRcQ
namespace Go.Proofs.Ytdncnljcihblbab

theorem read_tail {e : Ev} (h : OkE e) (t : List Nat) : readP (encL e ++ t) = some e := by
  have h1 := h.p; have h2 := h.t; have h3 := h.k; have h4 := h.d
  have ha := zzN_lt h.a; have hb := zzN_lt h.b; have hr := zzN_lt h.r
  have e1 : encL e ++ t = [e.p.toNat, e.t.toNat, e.k.toNat, e.d.toNat] ++ (varL (zzN e.a) ++ (varL (zzN e.b) ++ (varL (zzN e.r) ++ t))) := by simp [encL]
  rw [e1]
  show (match rdN 0 0 (varL (zzN e.a) ++ (varL (zzN e.b) ++ (varL (zzN e.r) ++ t))) with
    | none => none
    | some (a, l1) => match rdN 0 0 l1 with
      | none => none
      | some (b, l2) => match rdN 0 0 l2 with
        | none => none
        | some (r, _) => some (⟨e.p.toNat, e.t.toNat, e.k.toNat, e.d.toNat, unzN a, unzN b, unzN r⟩ : Ev)) = some e
  rw [rdN_var _ _ 0 0 (by simp) (by simp; omega)]
  simp only [Nat.mul_zero, Nat.pow_zero, Nat.mul_one, Nat.zero_add]
  rw [rdN_var _ _ 0 0 (by simp) (by simp; omega)]
  simp only [Nat.mul_zero, Nat.pow_zero, Nat.mul_one, Nat.zero_add]
  rw [rdN_var _ _ 0 0 (by simp) (by simp; omega)]
  simp only [Nat.mul_zero, Nat.pow_zero, Nat.mul_one, Nat.zero_add, unz_zz]
  congr 1
  apply Ev.eq_of <;> simp <;> omega
theorem dec_more {e : Ev} (h : fltE e = 0) (x : Nat) : decL (encL e ++ [x]) = none := by
  cases hd : decL (encL e ++ [x]) with
  | none => rfl
  | some e' =>
    obtain ⟨h1, h2⟩ := (dec_iff _ _).1 hd
    have r1 := read_tail (okE_of h) [x]
    rw [← h2, read_enc (okE_of h1)] at r1
    cases r1
    have := congrArg List.length h2
    simp at this
theorem dec_less {e : Ev} (h : fltE e = 0) : decL ((encL e).take ((encL e).length - 1)) = none := by
  cases hd : decL ((encL e).take ((encL e).length - 1)) with
  | none => rfl
  | some e' =>
    obtain ⟨h1, h2⟩ := (dec_iff _ _).1 hd
    have r1 := read_tail (okE_of h1) ((encL e).drop ((encL e).length - 1))
    rw [h2, List.take_append_drop, read_enc (okE_of h)] at r1
    cases r1
    have := congrArg List.length h2
    have h4 := encL_four e
    simp at this
    omega

end Go.Proofs.Ytdncnljcihblbab
