/-
  GenTakes: the program's refusal of a number of calls, and the document's calls one behind the other.
-/
import Derived.Test.YthblokfiojccmaaGreatDoorTkW
import Derived.Test.YthblokfiojccmaaGreatDoorDnC
namespace Go.Proofs.YthblokfiojccmaaGreatDoor.Gn
open Go.RowKit

set_option maxHeartbeats 1000000 in
theorem take_bad (T : TypeId) (x : Value) (a : Addr) (n : Int) (w : World) (h : n < 0 ∨ 1000 < n) :
    Calls Tryz.prog 6 #[.iface T x, .pointer (some a), .int .i64 n] w fun e w' => e = .returned (.tuple #[.slice none 0 0, .iface 24 (.int .i64 2)]) ∧ w' = w := by
  by_cases h1 : n < 0
  · have hd : decide (n < 0) = true := decide_eq_true h1
    go_enter Tryz.func6, Tryz.ntmps6
    go_wp2
    go_ret2
    exact ⟨rfl, rfl⟩
  · have h2 : 1000 < n := by omega
    have hd : decide (n < 0) = false := decide_eq_false h1
    have hd2 : decide (1000 < n) = true := decide_eq_true h2
    go_enter Tryz.func6, Tryz.ntmps6
    go_wp2
    go_ret2
    exact ⟨rfl, rfl⟩
end Go.Proofs.YthblokfiojccmaaGreatDoor.Gn
