/-
  Rows of numbers in memory: a matrix that is one's own; the stages of a pass of shortest ways.
-/
import Derived.Test.YtaopigjhdkdklaaDoorMatP
import Derived.Deep.QuietTactic
import Derived.BigQuiet
import Derived.ArgAppend
import Derived.Lib.JoinLaws
import Derived.Test.YtaopigjhdkdklaaDoorGhPZ
import Derived.Deep.RegionHeld3
namespace Go.Proofs.YtaopigjhdkdklaaDoor
open Go.RowKit


theorem info26N : (Tryd.prog.info? 52).map (fun i => (i.zero, i.size, i.bytes)) = some (some (.slice none 0 0), 1, 24) := by kernel_rfl
theorem made_nums (w : World) (n : Nat) (hn : n ≤ 60) : (Instr.makeSlice 52 (.int .i64 (n : Int)) (.int .i64 (n : Int))).run Tryd.prog w = .ok (.slice (some ⟨w.heap.size, 0, none⟩) n n) (w.alloc (.cells (madeCells #[.int .i64 0] n) 3)) := by
  obtain ⟨i, hi, hz, hs, hb⟩ := info_parts' info3
  have := run_make (P := Tryd.prog) w 52 3 i (.int .i64 0) Tryd.underlying52 hi hz .i64 .i64 (n : Int) (n : Int) (by omega) (Int.le_refl _) (by rw [hb]; omega) (by omega)
  have e : (Value.int .i64 0).cells = #[.int .i64 0] := rfl
  rw [e] at this
  simpa [hs] using this
theorem made_lists (w : World) (n : Nat) (hn : n ≤ 60) : (Instr.makeSlice 42 (.int .i64 (n : Int)) (.int .i64 (n : Int))).run Tryd.prog w = .ok (.slice (some ⟨w.heap.size, 0, none⟩) n n) (w.alloc (.cells (madeCells #[.slice none 0 0] n) 52)) := by
  obtain ⟨i, hi, hz, hs, hb⟩ := info_parts' info26N
  have := run_make (P := Tryd.prog) w 42 52 i (.slice none 0 0) Tryd.underlying42 hi hz .i64 .i64 (n : Int) (n : Int) (by omega) (Int.le_refl _) (by rw [hb]; omega) (by omega)
  have e : (Value.slice none 0 0).cells = #[.slice none 0 0] := rfl
  rw [e] at this
  simpa [hs] using this


section
variable {w : World} {base B n m : Nat} {rb : Nat → Nat} {M : Nat → Nat → Nat}
end


/-! ### the stages of a pass -/
end Go.Proofs.YtaopigjhdkdklaaDoor
