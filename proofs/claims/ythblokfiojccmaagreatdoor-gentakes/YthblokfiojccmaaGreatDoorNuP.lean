/-
  A number of 64 bits, written so again, is one by the reader's own look.
-/
import Derived.Test.YthblokfiojccmaaGreatDoorGpP
import Derived.Lib.ItoaNum
import Derived.Lib.ParseIntBTie
namespace Go.Proofs.YthblokfiojccmaaGreatDoor.Gn

/-- The document's number. -/
def numD (t : BtP) : Option Int := match Lib.atoiAll t with
  | .ok n => if Lib.itoa n = t then some n else none
  | _ => none

def isDig (c : UInt8) : Bool := decide (48 ≤ c.toNat ∧ c.toNat ≤ 57)
theorem digs_fin : ∀ n : Fin 256, digsP.contains (UInt8.ofNat n.val) = isDig (UInt8.ofNat n.val) := by decide +kernel
theorem digs_has (c : UInt8) : digsP.contains c = isDig c := by
  have h := digs_fin ⟨c.toNat, c.toNat_lt⟩
  simpa using h
theorem dw_nil (p : UInt8 → Bool) : ∀ l : BtP, l.dropWhile p = [] ↔ ∀ c ∈ l, p c = true
  | [] => by simp
  | c :: l => by
    rw [List.dropWhile_cons]
    split
    · rename_i h
      rw [dw_nil p l]
      constructor
      · intro k x hx
        rcases List.mem_cons.1 hx with e | e
        · rw [e]; exact h
        · exact k x e
      · intro k x hx
        exact k x (List.mem_cons_of_mem _ hx)
    · rename_i h
      constructor
      · intro k; cases k
      · intro k; exact absurd (k c (by simp)) h
theorem dw_head (p : UInt8 → Bool) : ∀ (l : BtP) (c : UInt8) (r : BtP), l.dropWhile p = c :: r → p c = false
  | [], _, _, h => by cases h
  | x :: l, c, r, h => by
    rw [List.dropWhile_cons] at h
    split at h
    · exact dw_head p l c r h
    · rename_i k
      injection h with h1 _
      rw [← h1]; simpa using k
theorem trimS_nil {l : BtP} : Lib.trimS l digsP = [] ↔ ∀ c ∈ l, isDig c = true := by
  unfold Lib.trimS Lib.trimLeftS Lib.trimRightS
  rw [dw_nil]
  constructor
  · intro h
    have h2 : l.reverse.dropWhile (digsP.contains ·) = [] := by
      cases hd : l.reverse.dropWhile (digsP.contains ·) with
      | nil => rfl
      | cons c r =>
        have h3 := dw_head _ _ _ _ hd
        have h4 := h c (by rw [hd]; simp)
        rw [h4] at h3; cases h3
    intro c hc
    have := (dw_nil _ _).1 h2 c (List.mem_reverse.2 hc)
    rw [← digs_has]; exact this
  · intro h
    have h2 : l.reverse.dropWhile (digsP.contains ·) = [] := (dw_nil _ _).2 fun c hc => by
      show digsP.contains c = true
      rw [digs_has]; exact h c (List.mem_reverse.1 hc)
    rw [h2]; simp

theorem dec_ten {a d : Nat} (h : 0 < a) (hd : d < 10) : Lib.decDigits (a * 10 + d) = Lib.decDigits a ++ [UInt8.ofNat (48 + d)] := by
  rw [Lib.decDigits, dif_neg (by omega)]
  rw [show (a * 10 + d) / 10 = a by omega, show (a * 10 + d) % 10 = d by omega]
theorem u8_back (c : UInt8) (h : 48 ≤ c.toNat) : UInt8.ofNat (48 + (c.toNat - 48)) = c := by
  rw [show 48 + (c.toNat - 48) = c.toNat by omega]; simp
theorem dec_parse : ∀ (l : BtP) (a u : Nat), 0 < a → Lib.parseUint10 a l = .ok u → Lib.decDigits u = Lib.decDigits a ++ l
  | [], a, u, _, h => by
    simp only [Lib.parseUint10] at h
    injection h with h
    rw [h, List.append_nil]
  | c :: l, a, u, ha, h => by
    simp only [Lib.parseUint10] at h
    split at h
    · rename_i hc
      split at h
      · cases h
      · split at h
        · cases h
        · have ih := dec_parse l (a * 10 + (c.toNat - 48)) u (by omega) h
          rw [ih, dec_ten ha (by omega), u8_back c hc.1, List.append_assoc, List.singleton_append]
    · cases h
theorem parse_digs : ∀ (l : BtP) (a u : Nat), Lib.parseUint10 a l = .ok u → ∀ c ∈ l, isDig c = true
  | [], _, _, _, c, hc => by cases hc
  | x :: l, a, u, h, c, hc => by
    simp only [Lib.parseUint10] at h
    split at h
    · rename_i hx
      split at h
      · cases h
      · split at h
        · cases h
        · rcases List.mem_cons.1 hc with e | e
          · rw [e]; exact decide_eq_true hx
          · exact parse_digs l _ u h c e
    · cases h

/-- Digits that are a number, without a nought ahead (or one alone). -/
def fineD (l : BtP) : Bool := l = [48] || (l ≠ [] && l.headD 0 != 48)
theorem dec_mag {l : BtP} {u : Nat} (h : Lib.parseMag l = .ok u) : Lib.decDigits u = l ↔ fineD l = true := by
  unfold Lib.parseMag at h
  split at h
  · cases h
  · rename_i hne
    cases l with
    | nil => exact absurd rfl hne
    | cons c l =>
      simp only [Lib.parseUint10] at h
      split at h
      · rename_i hc
        split at h
        · omega
        · split at h
          · omega
          · rw [Nat.zero_mul, Nat.zero_add] at h
            by_cases h0 : c = 48
            · subst h0
              have e0 : (48 : UInt8).toNat - 48 = 0 := rfl
              rw [e0] at h
              cases l with
              | nil =>
                simp only [Lib.parseUint10] at h
                injection h with h
                subst h
                simp [fineD, Lib.decDigits]
              | cons d l =>
                have hf : fineD (48 :: d :: l) = false := by simp [fineD]
                rw [hf]
                refine ⟨fun he => ?_, fun e => by cases e⟩
                exfalso
                by_cases hu : u < 10
                · rw [Lib.decDigits_one hu] at he
                  injection he with _ he
                  cases he
                · have h1 := lead_pos u (by omega)
                  rw [he] at h1
                  exact h1 rfl
            · have hp : 0 < c.toNat - 48 := by
                have : c.toNat ≠ 48 := fun e => h0 (by apply UInt8.toNat_inj.1; rw [e]; rfl)
                omega
              have hd := dec_parse l _ u hp h
              rw [Lib.decDigits_one (show c.toNat - 48 < 10 by omega), u8_back c hc.1] at hd
              have hf : fineD (c :: l) = true := by simp [fineD, h0]
              rw [hf]
              exact ⟨fun _ => rfl, fun _ => hd⟩
      · cases h
where
  lead_pos : ∀ (u : Nat), 0 < u → (Lib.decDigits u).headD 0 ≠ 48 := by
    intro u
    induction u using Nat.strongRecOn with
    | ind u ih =>
      intro hu
      rw [Lib.decDigits]
      split
      · rename_i h
        show UInt8.ofNat (48 + u) ≠ 48
        intro e
        have := congrArg UInt8.toNat e
        simp at this
        omega
      · rename_i h
        have := ih (u / 10) (by omega) (by omega)
        cases hd : Lib.decDigits (u / 10) with
        | nil =>
          have := Lib.decDigits_length (u / 10)
          have h2 := Lib.nDigits_pos (u / 10)
          rw [hd] at this
          simp at this
          omega
        | cons a b => rw [hd] at this; exact this

theorem dig_not {c : UInt8} (h : isDig c = true) : c.toNat ≠ 43 ∧ c.toNat ≠ 45 := by
  have := of_decide_eq_true h
  omega
theorem mag_digs {l : BtP} {u : Nat} (h : Lib.parseMag l = .ok u) : ∀ c ∈ l, isDig c = true := by
  unfold Lib.parseMag at h
  split at h
  · cases h
  · exact parse_digs l 0 u h
theorem dec_digs (u : Nat) : ∀ c ∈ Lib.decDigits u, isDig c = true := by
  induction u using Nat.strongRecOn with
  | ind u ih =>
    intro c hc
    have one : ∀ d, d < 10 → isDig (UInt8.ofNat (48 + d)) = true := by
      intro d hd
      have : ∀ d : Fin 10, isDig (UInt8.ofNat (48 + d.val)) = true := by decide +kernel
      exact this ⟨d, hd⟩
    rw [Lib.decDigits] at hc
    split at hc
    · rename_i h
      rw [List.mem_singleton] at hc
      rw [hc]; exact one u h
    · rename_i h
      rcases List.mem_append.1 hc with e | e
      · exact ih (u / 10) (by omega) c e
      · rw [List.mem_singleton] at e
        rw [e]; exact one _ (by omega)
theorem isNum_pos {l : BtP} (h : ∀ c ∈ l, isDig c = true) : isNum l = fineD l := by
  have hp : Lib.trimPrefix l [45] = l := by
    cases l with
    | nil => rfl
    | cons c l =>
      have := dig_not (h c (by simp))
      have hc : c ≠ 45 := fun e => this.2 (by rw [e]; rfl)
      simp [Lib.trimPrefix, Lib.hasPrefix, Ne.symm hc]
  unfold isNum fineD
  rw [hp, if_neg (fun k => k (trimS_nil.2 h))]
theorem isNum_neg {l : BtP} (h : ∀ c ∈ l, isDig c = true) : isNum (45 :: l) = (l ≠ [] && l.headD 0 != 48) := by
  have hp : Lib.trimPrefix (45 :: l) [45] = l := by simp [Lib.trimPrefix, Lib.hasPrefix]
  unfold isNum
  rw [hp, if_neg (fun k => k (trimS_nil.2 h))]
  simp
/-- A number of 64 bits is written again as it was just if it looks like one. -/
theorem num_same {t : BtP} {n : Int} (h : Lib.atoiAll t = .ok n) : Lib.itoa n = t ↔ isNum t = true := by
  cases t with
  | nil => cases h
  | cons c l =>
    by_cases h43 : c.toNat = 43
    · have hc : c = 43 := UInt8.toNat_inj.1 (by rw [h43]; rfl)
      subst hc
      constructor
      · intro e
        unfold Lib.itoa at e
        split at e
        · injection e with e _; cases e
        · have := dec_digs n.toNat 43 (by rw [e]; simp)
          cases this
      · intro e
        have : isNum (43 :: l) = false := by
          unfold isNum
          have hp : Lib.trimPrefix (43 :: l) [45] = 43 :: l := by simp [Lib.trimPrefix, Lib.hasPrefix]
          rw [hp, if_pos (fun k => by have := trimS_nil.1 k 43 (by simp); cases this)]
        rw [this] at e; cases e
    · by_cases h45 : c.toNat = 45
      · have hc : c = 45 := UInt8.toNat_inj.1 (by rw [h45]; rfl)
        subst hc
        rw [Lib.atoiAll_minus] at h
        cases hm : Lib.parseMag l with
        | «syntax» => rw [hm] at h; cases h
        | range => rw [hm] at h; cases h
        | ok u =>
          rw [hm] at h
          have hn : n = -(u : Int) := by
            unfold Lib.signed at h
            simp only at h
            split at h
            · cases h
            · injection h with h; exact h.symm
          rw [isNum_neg (mag_digs hm)]
          have hd := dec_mag hm
          by_cases hu : u = 0
          · subst hu
            subst hn
            constructor
            · intro e
              exfalso
              have : Lib.itoa (-((0 : Nat) : Int)) = [48] := by simp [Lib.itoa, Lib.decDigits]
              rw [this] at e
              injection e with e _
              cases e
            · intro e
              exfalso
              rw [show Lib.decDigits 0 = [48] by simp [Lib.decDigits]] at hd
              have hf : fineD l = true := by unfold fineD; rw [e]; simp
              have := hd.2 hf
              rw [← this] at e
              simp at e
          · have hi : Lib.itoa n = 45 :: Lib.decDigits u := by
              unfold Lib.itoa
              rw [if_pos (by omega), hn]
              congr 2
              omega
            rw [hi]
            constructor
            · intro e
              injection e with _ e
              have hf := hd.1 e
              unfold fineD at hf
              rw [Bool.or_eq_true] at hf
              rcases hf with hf | hf
              · exfalso
                have hf : l = [48] := by simpa using hf
                rw [hf] at hm
                simp [Lib.parseMag, Lib.parseUint10] at hm
                omega
              · exact hf
            · intro e
              have hf : fineD l = true := by unfold fineD; rw [e]; simp
              rw [hd.2 hf]
      · rw [Lib.atoiAll_plain c l h43 h45] at h
        cases hm : Lib.parseMag (c :: l) with
        | «syntax» => rw [hm] at h; cases h
        | range => rw [hm] at h; cases h
        | ok u =>
          rw [hm] at h
          have hn : n = (u : Int) := by
            unfold Lib.signless at h
            simp only at h
            split at h
            · cases h
            · injection h with h; exact h.symm
          rw [isNum_pos (mag_digs hm), ← dec_mag hm]
          have hi : Lib.itoa n = Lib.decDigits u := by
            unfold Lib.itoa
            rw [if_neg (by omega), hn]
            congr 1
          rw [hi]
/-- The document's number is the reader's. -/
theorem numF_numD (lo hi : Int) (t : BtP) (s : List BtP) : numF lo hi (t :: s) = match numD t with
    | some n => if n < lo ∨ hi < n then none else some ⟨n, s⟩
    | none => none := by
  unfold numD
  simp only [numF]
  cases h : Lib.atoiAll t with
  | «syntax» => simp
  | range => simp
  | ok n =>
    by_cases k : isNum t = true
    · rw [if_pos k]
      simp only
      rw [if_pos ((num_same h).2 k)]
    · rw [if_neg k]
      simp only
      rw [if_neg (fun e => k ((num_same h).1 e))]
end Go.Proofs.YthblokfiojccmaaGreatDoor.Gn
