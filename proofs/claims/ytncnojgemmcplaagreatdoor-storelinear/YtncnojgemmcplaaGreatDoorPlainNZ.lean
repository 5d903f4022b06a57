/-
  How a state of the search is named, in plain Lean: numbers in base 36, each with an end of its own; no two states have one name.
  Some ops as the bits of a number, in plain Lean.
-/
import Derived.Test.YtncnojgemmcplaaGreatDoorPlainTZ
import Derived.Test.YtncnojgemmcplaaGreatDoorPlain36
namespace Go.Proofs.YtncnojgemmcplaaGreatDoor

def maskN (ord : List Nat) : Nat := ord.foldl (fun m n => m ||| 2 ^ n) 0
theorem maskN_snoc (ord : List Nat) (n : Nat) : maskN (ord ++ [n]) = maskN ord ||| 2 ^ n := by simp [maskN]
theorem foldl_bit : ∀ (ord : List Nat) (m k : Nat), (ord.foldl (fun m n => m ||| 2 ^ n) m).testBit k = (m.testBit k || ord.contains k)
  | [], m, k => by simp
  | n :: r, m, k => by
    rw [List.foldl_cons, foldl_bit r, Nat.testBit_or, Nat.testBit_two_pow, List.contains_cons]
    have : (n = k : Bool) = (k == n) := by
      rw [Bool.eq_iff_iff]; simp; exact eq_comm
    rw [this]
    cases m.testBit k <;> simp
theorem maskN_bit (ord : List Nat) (k : Nat) : (maskN ord).testBit k = ord.contains k := by
  unfold maskN; rw [foldl_bit]; simp

def nameB (ord : List Nat) (S : Int → List Int) : List UInt8 := d36 (maskN ord) ++ keysB S (List.range 8)

theorem nameB_inj {ord ord' : List Nat} {S S' : Int → List Int} (h : nameB ord S = nameB ord' S') : (∀ n, n ∈ ord ↔ n ∈ ord') ∧ ∀ k : Nat, k < 8 → S k = S' k := by
  obtain ⟨e1, e2⟩ := keysB_inj (d36_ne2 _) (d36_ne2 _) h
  have e := d36_inj e1
  refine ⟨fun n => ?_, fun k hk => e2 k (List.mem_range.2 hk)⟩
  have h1 := maskN_bit ord n
  have h2 := maskN_bit ord' n
  rw [e, h2] at h1
  have := Bool.eq_iff_iff.1 h1
  simpa using this.symm

theorem reach_out {c : Sr} (hk : ∀ n, n < c.ops.length → 0 ≤ (opN c.ops n).k ∧ (opN c.ops n).k < 8) {ord : List Nat} {S : Int → List Int} (h : Reach c ord S) : ∀ q : Int, ¬ (0 ≤ q ∧ q < 8) → S q = startL c.o := by
  induction h with
  | start => intro q _; rfl
  | step h hn hs ih =>
    intro q hq
    have := hk _ hn
    rw [setK_other _ _ _ _ (fun e => hq (by omega))]
    exact ih q hq

theorem own_of_names {c : Sr} (hn : c.nm = nameB) (hk : ∀ n, n < c.ops.length → 0 ≤ (opN c.ops n).k ∧ (opN c.ops n).k < 8) : OwnNm c := by
  intro ord S ord' S' h h' e
  rw [hn] at e
  obtain ⟨e1, e2⟩ := nameB_inj e
  refine ⟨e1, funext fun q => ?_⟩
  by_cases hq : 0 ≤ q ∧ q < 8
  · have := e2 q.toNat (by omega)
    rwa [Int.toNat_of_nonneg hq.1] at this
  · rw [reach_out hk h q hq, reach_out hk h' q hq]

end Go.Proofs.YtncnojgemmcplaaGreatDoor

namespace Go.Proofs.YtncnojgemmcplaaGreatDoor

theorem maskN_lt {ord : List Nat} (h : ∀ n ∈ ord, n < 64) : maskN ord < 18446744073709551616 := by
  have : maskN ord < 2 ^ 64 := by
    apply Nat.lt_pow_two_of_testBit
    intro i hi
    rw [maskN_bit]
    cases hc : ord.contains i with
    | false => rfl
    | true => have := h i (by simpa using hc); omega
  simpa using this

def coversN (m p : Nat) : Bool := (p &&& (18446744073709551615 - m)) == 0
theorem not_bit {m : Nat} (hm : m < 18446744073709551616) (i : Nat) : (18446744073709551615 - m).testBit i = (decide (i < 64) && !m.testBit i) := by
  have := Nat.testBit_two_pow_sub_succ (n := 64) (x := m) (by simpa using hm) i
  rw [← this]
  congr 1
  omega
theorem coversN_mask {a b : List Nat} (ha : ∀ n ∈ a, n < 64) (hb : ∀ n ∈ b, n < 64) : coversN (maskN a) (maskN b) = b.all a.contains := by
  have hm := maskN_lt ha
  rw [Bool.eq_iff_iff]
  unfold coversN
  rw [beq_iff_eq, List.all_eq_true]
  constructor
  · intro h x hx
    have := congrArg (fun m : Nat => m.testBit x) h
    simp only [Nat.testBit_and, Nat.zero_testBit, not_bit hm, maskN_bit] at this
    have hx64 := hb x hx
    have hc : b.contains x = true := by simpa using hx
    rw [hc] at this
    simp [hx64] at this
    simpa using this
  · intro h
    apply Nat.eq_of_testBit_eq
    intro i
    simp only [Nat.testBit_and, Nat.zero_testBit, not_bit hm, maskN_bit]
    cases hc : b.contains i with
    | false => simp
    | true =>
      have := h i (by simpa using hc)
      rw [this]; simp
theorem or_bit {ord : List Nat} {n : Nat} : maskN ord ||| 2 ^ n = maskN (ord ++ [n]) := (maskN_snoc ord n).symm
theorem andNot_bit {ord : List Nat} {n : Nat} (hn : n < 64) (h : n ∉ ord) (ho : ∀ m ∈ ord, m < 64) : maskN (ord ++ [n]) &&& (18446744073709551615 - 2 ^ n) = maskN ord := by
  have hm : 2 ^ n < 18446744073709551616 := by
    have : 2 ^ n < 2 ^ 64 := Nat.pow_lt_pow_right (by decide) hn
    simpa using this
  apply Nat.eq_of_testBit_eq
  intro i
  rw [Nat.testBit_and, not_bit hm, maskN_bit, maskN_bit, Nat.testBit_two_pow]
  by_cases hi : i = n
  · subst hi
    simp [h]
  · have h1 : (ord ++ [n]).contains i = ord.contains i := by
      rw [Bool.eq_iff_iff]; simp [hi]
    rw [h1]
    cases hc : ord.contains i with
    | false => simp
    | true =>
      have := ho i (by simpa using hc)
      simp [this]; omega

/-- Those that came to their ends. -/
def endL (ops : List Opn) : List Nat := (List.range ops.length).filter fun n => decide (0 ≤ (opN ops n).e)
/-- Those that must be ahead of one. -/
def waitL (ops : List Opn) (ah : Opn → Opn → Bool) (b : Nat) : List Nat := (List.range ops.length).filter fun a => a != b && ah (opN ops a) (opN ops b)
theorem endL_lt {ops : List Opn} : ∀ n ∈ endL ops, n < ops.length := fun _ h => List.mem_range.1 (List.mem_filter.1 h).1
theorem waitL_lt {ops : List Opn} {ah : Opn → Opn → Bool} {b : Nat} : ∀ n ∈ waitL ops ah b, n < ops.length := fun _ h => List.mem_range.1 (List.mem_filter.1 h).1
theorem over_all (ops : List Opn) (ord : List Nat) : (endL ops).all ord.contains = overB ops ord := by
  unfold endL overB
  rw [List.all_filter]
  congr 1
  funext n
  by_cases h : (opN ops n).e < 0
  · have : ¬ 0 ≤ (opN ops n).e := by omega
    simp [h, this]
  · have : 0 ≤ (opN ops n).e := by omega
    simp [h, this]
theorem free_all (c : Sr) (ord : List Nat) (n : Nat) : (!ord.contains n && (waitL c.ops c.ah n).all ord.contains) = freeB c ord n := by
  unfold waitL freeB
  rw [List.all_filter]
  congr 2
  funext a
  cases h1 : (a == n) <;> cases h2 : c.ah (opN c.ops a) (opN c.ops n) <;> simp [bne, h1]

end Go.Proofs.YtncnojgemmcplaaGreatDoor
