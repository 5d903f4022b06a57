/-
  Package net's rules, walked: who can talk to whom.
-/
import Derived.Test.YtncnojgemmcplaaBsGZ
import Derived.Test.YtncnojgemmcplaaAbL
namespace Go.Proofs.Ytncnojgemmcplaa
open Go.RowKit

/-- A rule in memory: a function, and what it has caught. -/
def RuleQ (w : World) (f : Nat) (caps : Array Value) (n : Nat) (r : Nat → Nat → Bool) : Prop :=
  ∀ Z, Below w.heap.size w Z → ∀ a b : Nat, a < n → b < n → Calls Try.prog f (#[.int .i64 (a : Int), .int .i64 (b : Int)] ++ caps) Z fun e w' => e = .returned (.bool (r a b)) ∧ w' = Z
def linkN (what : Int) (n : Nat) (who : Int) (a b : Nat) : Bool := linkedB what n who a b

set_option maxRecDepth 100000 in
theorem whole_rule (w : World) (n : Nat) (who : Int) : RuleQ w 56 #[] n (linkN 0 n who) := by
  intro Z _ a b _ _
  have e : linkN 0 n who a b = true := by unfold linkN linkedB; split <;> rfl
  rw [e]
  show Calls Try.prog 56 #[.int .i64 (a : Int), .int .i64 (b : Int)] Z _
  go_enter Try.func56, Try.ntmps56
  go_wp2
  go_ret
  exact ⟨rfl, rfl⟩

set_option maxRecDepth 100000 in
set_option maxHeartbeats 1000000 in
theorem half_any (n a b : Nat) (hn : 1 ≤ n ∧ n ≤ 7) (ha : a < n) (_hb : b < n) (Z : World) :
    Calls Try.prog 58 #[.int .i64 (n : Int), .int .i64 (a : Int), .int .i64 (b : Int)] Z fun e w' => e = .returned (.bool (decide ((a : Int) < (n : Int) / 2) == decide ((b : Int) < (n : Int) / 2))) ∧ w' = Z := by
  have q1 : (n : Int).tdiv 2 = (n : Int) / 2 := Int.tdiv_eq_ediv_of_nonneg (by omega)
  have w1 : IntKind.i64.wrap ((n : Int) / 2) = (n : Int) / 2 := IntWalk.i64_in _ (by omega)
  go_enter Try.func58, Try.ntmps58
  go_wp2
  go_ret
  exact ⟨rfl, rfl⟩

set_option maxRecDepth 100000 in
set_option maxHeartbeats 1000000 in
theorem halves_rule (w : World) (n : Nat) (hn : 1 ≤ n ∧ n ≤ 7) (who : Int) (Bc : Nat) (hB : w.heap[Bc]? = some (.cells #[.int .i64 (n : Int)] 3)) : RuleQ w 57 #[.pointer (some ⟨Bc, 0, none⟩)] n (linkN 1 n who) := by
  intro Z hZ a b ha hb
  have c0 : Z.cell? ⟨Bc, 0, none⟩ = some (.int .i64 (n : Int)) := (hZ.cell (p := ⟨Bc, 0, none⟩) (Array.getElem?_eq_some_iff.1 hB).1).trans (cell_of_row _ _ _ _ 3 _ hB)
  have HC := hideIt (half_any n a b hn ha hb Z)
  have HE : Hid (linkN 1 n who a b = (decide ((a : Int) < (n : Int) / 2) == decide ((b : Int) < (n : Int) / 2))) := by
    show _ = _
    unfold linkN linkedB
    split
    · rename_i e; rw [e]; simp
    · rw [if_neg (by decide), if_pos rfl]
  generalize linkN 1 n who a b = r at HE ⊢
  generalize (decide ((a : Int) < (n : Int) / 2) == decide ((b : Int) < (n : Int) / 2)) = q at HE HC
  clear hB hn
  show Calls Try.prog 57 #[.int .i64 (a : Int), .int .i64 (b : Int), .pointer (some ⟨Bc, 0, none⟩)] Z _
  go_enter Try.func57, Try.ntmps57
  go_wp2_with fail
  refine HC.out.mono ?_
  rintro e w1 ⟨rfl, rfl⟩
  go_wp2
  go_ret
  exact ⟨ret_bool HE.out.symm, rfl⟩

set_option maxRecDepth 100000 in
set_option maxHeartbeats 1000000 in
theorem bridge_rule (w : World) (n : Nat) (hn : 1 ≤ n ∧ n ≤ 7) (who : Int) (Bc : Nat) (hB : w.heap[Bc]? = some (.cells #[.int .i64 (n : Int)] 3)) : RuleQ w 59 #[.pointer (some ⟨Bc, 0, none⟩)] n (linkN 2 n who) := by
  intro Z hZ a b ha hb
  have c0 : Z.cell? ⟨Bc, 0, none⟩ = some (.int .i64 (n : Int)) := (hZ.cell (p := ⟨Bc, 0, none⟩) (Array.getElem?_eq_some_iff.1 hB).1).trans (cell_of_row _ _ _ _ 3 _ hB)
  have q1 : (n : Int).tdiv 2 = (n : Int) / 2 := Int.tdiv_eq_ediv_of_nonneg (by omega)
  have w1 : IntKind.i64.wrap ((n : Int) / 2) = (n : Int) / 2 := IntWalk.i64_in _ (by omega)
  have HC := hideIt (half_any n a b hn ha hb Z)
  have HE : Hid (linkN 2 n who a b = ((decide ((a : Int) < (n : Int) / 2) == decide ((b : Int) < (n : Int) / 2)) || decide ((a : Int) = (n : Int) / 2) || decide ((b : Int) = (n : Int) / 2))) := by
    show _ = _
    unfold linkN linkedB
    split
    · rename_i e; rw [e]; simp
    · rw [if_neg (by decide), if_neg (by decide), if_pos rfl]
  generalize linkN 2 n who a b = r at HE ⊢
  generalize (decide ((a : Int) < (n : Int) / 2) == decide ((b : Int) < (n : Int) / 2)) = q at HE HC
  clear hB hn
  show Calls Try.prog 59 #[.int .i64 (a : Int), .int .i64 (b : Int), .pointer (some ⟨Bc, 0, none⟩)] Z _
  generalize (n : Int) / 2 = h at *
  generalize (a : Int) = x at *
  generalize (b : Int) = y at *
  by_cases h1 : x = h
  · have h1' : (x == h) = true := by simp [h1]
    have H1 := hideIt h1
    clear h1
    go_enter Try.func59, Try.ntmps59
    go_wp2
    go_ret
    exact ⟨ret_bool (by rw [HE.out, H1.out]; simp), rfl⟩
  have h1' : (x == h) = false := by simp [h1]
  by_cases h2 : y = h
  · have h2' : (y == h) = true := by simp [h2]
    have H2 := hideIt h2
    clear h2
    go_enter Try.func59, Try.ntmps59
    go_wp2
    go_ret
    exact ⟨ret_bool (by rw [HE.out, H2.out]; simp), rfl⟩
  have h2' : (y == h) = false := by simp [h2]
  have H1 := hideIt h1
  have H2 := hideIt h2
  clear h1 h2
  go_enter Try.func59, Try.ntmps59
  go_wp2_with fail
  refine HC.out.mono ?_
  rintro e w2 ⟨rfl, rfl⟩
  go_wp2
  go_ret
  exact ⟨ret_bool (by rw [HE.out]; simp [H1.out, H2.out]), rfl⟩

set_option maxRecDepth 100000 in
set_option maxHeartbeats 1000000 in
theorem ring_rule (w : World) (n : Nat) (hn : 1 ≤ n ∧ n ≤ 7) (who : Int) (Bc : Nat) (hB : w.heap[Bc]? = some (.cells #[.int .i64 (n : Int)] 3)) : RuleQ w 60 #[.pointer (some ⟨Bc, 0, none⟩)] n (linkN 3 n who) := by
  intro Z hZ a b ha hb
  have c0 : Z.cell? ⟨Bc, 0, none⟩ = some (.int .i64 (n : Int)) := (hZ.cell (p := ⟨Bc, 0, none⟩) (Array.getElem?_eq_some_iff.1 hB).1).trans (cell_of_row _ _ _ _ 3 _ hB)
  have q1 : (n : Int).tdiv 2 = (n : Int) / 2 := Int.tdiv_eq_ediv_of_nonneg (by omega)
  have q2 : ((n : Int) / 2 + 1).tdiv 2 = ((n : Int) / 2 + 1) / 2 := Int.tdiv_eq_ediv_of_nonneg (by omega)
  have w1 : IntKind.i64.wrap ((n : Int) / 2) = (n : Int) / 2 := IntWalk.i64_in _ (by omega)
  have w2 : IntKind.i64.wrap ((n : Int) / 2 + 1) = (n : Int) / 2 + 1 := IntWalk.i64_in _ (by omega)
  have w3 : IntKind.i64.wrap (((n : Int) / 2 + 1) / 2) = ((n : Int) / 2 + 1) / 2 := IntWalk.i64_in _ (by omega)
  have HE : Hid (linkN 3 n who a b = decide (min (if (a : Int) - b < 0 then -((a : Int) - b) else (a : Int) - b) ((n : Int) - (if (a : Int) - b < 0 then -((a : Int) - b) else (a : Int) - b)) ≤ ((n : Int) / 2 + 1) / 2)) := by
    show _ = _
    unfold linkN linkedB
    split
    · rename_i e; rw [e]; simp; omega
    · rw [if_neg (by decide), if_neg (by decide), if_neg (by decide), if_pos rfl]
  generalize linkN 3 n who a b = r at HE ⊢
  clear hB
  show Calls Try.prog 60 #[.int .i64 (a : Int), .int .i64 (b : Int), .pointer (some ⟨Bc, 0, none⟩)] Z _
  go_enter Try.func60, Try.ntmps60
  go_wp2
  all_goals (go_ret; exact ⟨ret_bool (by rw [HE.out]; refine decide_eq_decide.2 ?_; omega), rfl⟩)

set_option maxRecDepth 100000 in
set_option maxHeartbeats 1000000 in
theorem alone_rule (w : World) (n : Nat) (what who : Int) (hw : what < 0 ∨ 4 ≤ what) (Bc : Nat) (hB : w.heap[Bc]? = some (.cells #[.int .i64 who] 3)) : RuleQ w 61 #[.pointer (some ⟨Bc, 0, none⟩)] n (linkN what n who) := by
  intro Z hZ a b ha hb
  have c0 : Z.cell? ⟨Bc, 0, none⟩ = some (.int .i64 who) := (hZ.cell (p := ⟨Bc, 0, none⟩) (Array.getElem?_eq_some_iff.1 hB).1).trans (cell_of_row _ _ _ _ 3 _ hB)
  have HE : Hid (linkN what n who a b = (decide ((a : Int) = (b : Int)) || (decide ((a : Int) ≠ who) && decide ((b : Int) ≠ who)))) := by
    show _ = _
    unfold linkN linkedB
    split
    · rename_i e; rw [e]; simp
    · rename_i e
      rw [if_neg (by omega), if_neg (by omega), if_neg (by omega), if_neg (by omega), decide_eq_false e, Bool.false_or]
  generalize linkN what n who a b = r at HE ⊢
  clear hB hw
  show Calls Try.prog 61 #[.int .i64 (a : Int), .int .i64 (b : Int), .pointer (some ⟨Bc, 0, none⟩)] Z _
  generalize (a : Int) = x at *
  generalize (b : Int) = y at *
  by_cases h1 : x = y
  · have h1' : (x == y) = true := by simp [h1]
    have H1 := hideIt h1
    clear h1
    go_enter Try.func61, Try.ntmps61
    go_wp2
    go_ret
    exact ⟨ret_bool (by rw [HE.out, H1.out]; simp), rfl⟩
  have h1' : (x == y) = false := by simp [h1]
  by_cases h2 : x = who
  · have h2' : (x != who) = false := by simp [h2]
    have H1 := hideIt h1
    have H2 := hideIt h2
    clear h1 h2
    go_enter Try.func61, Try.ntmps61
    go_wp2
    go_ret
    exact ⟨ret_bool (by rw [HE.out, decide_eq_false H1.out, H2.out]; simp), rfl⟩
  have h2' : (x != who) = true := by simp [h2]
  have H1 := hideIt h1
  have H2 := hideIt h2
  clear h1 h2
  go_enter Try.func61, Try.ntmps61
  go_wp2
  go_ret
  exact ⟨ret_bool (by rw [HE.out]; by_cases h3 : y = who <;> simp [H1.out, H2.out, h3]), rfl⟩
end Go.Proofs.Ytncnojgemmcplaa
