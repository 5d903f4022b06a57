/-
  Two vectors held against each other.
-/
import Derived.Test.YtmonbkoelehdlaaDoorVeW
import Derived.DeepKeys
namespace Go.Proofs.YtmonbkoelehdlaaDoor
open Go.RowKit

def eqB (v u : Nat → Int) : Bool := (List.range 8).all fun q => v q == u q
theorem eqB_iff {v u : Nat → Int} : eqB v u = true ↔ ∀ q, q < 8 → v q = u q := by simp [eqB]
theorem part8 (v : Nat → Int) (w : World) : ∀ q : Nat, q < 8 → (part 3 #[Value.int .i64 (v 0), .int .i64 (v 1), .int .i64 (v 2), .int .i64 (v 3), .int .i64 (v 4), .int .i64 (v 5), .int .i64 (v 6), .int .i64 (v 7)] (q * 1)).run Tryd.prog w = .ok (.int .i64 (v q)) w := by
  have he : Tryd.prog.plainKey 3 = true := by kernel_rfl
  exact all8 (run_part_plain w he rfl) (run_part_plain w he rfl) (run_part_plain w he rfl) (run_part_plain w he rfl) (run_part_plain w he rfl) (run_part_plain w he rfl) (run_part_plain w he rfl) (run_part_plain w he rfl)
theorem eqInt (w : World) (x y : Int) : (Op.equalIn 9999 3 (.int .i64 x) (.int .i64 y)).run Tryd.prog w = .ok (x == y) w := by
  rw [show (9999 : Nat) = 9998 + 1 from rfl, run_equalIn_int w 9998 3 .i64 .i64 x y Tryd.underlying3]
theorem eqItems8 (v u : Nat → Int) (w : World) : ∀ L : List Nat, (∀ q ∈ L, q < 8) → (Op.eqItems 9999 3 1 #[Value.int .i64 (v 0), .int .i64 (v 1), .int .i64 (v 2), .int .i64 (v 3), .int .i64 (v 4), .int .i64 (v 5), .int .i64 (v 6), .int .i64 (v 7)] #[Value.int .i64 (u 0), .int .i64 (u 1), .int .i64 (u 2), .int .i64 (u 3), .int .i64 (u 4), .int .i64 (u 5), .int .i64 (u 6), .int .i64 (u 7)] L).run Tryd.prog w = .ok (L.all fun q => v q == u q) w
  | [], _ => by simp [Op.eqItems]
  | q :: L, h => by
    have hv := part8 v w q (h q (by simp))
    have hu := part8 u w q (h q (by simp))
    have ih := eqItems8 v u w L (fun q hq => h q (by simp [hq]))
    simp only [Op.eqItems, Sem.run_bind, hv, hu, eqInt, Result.andThen_ok]
    cases e : (v q == u q)
    · simp [e]
    · simp [e, ih]
theorem eq45 (w : World) (v u : Nat → Int) (t : TypeId) (ht : t = 44 ∨ t = 45) : (Op.equalIn 10000 t (vecA v) (vecA u)).run Tryd.prog w = .ok (eqB v u) w := by
  obtain ⟨i, hi⟩ : ∃ i, Tryd.prog.info? 3 = some i := by
    have h3 : (Tryd.prog.info? 3).map (fun i => (i.zero, i.size, i.bytes)) = some (some (Value.int .i64 0), 1, 8) := by kernel_rfl
    cases hq : Tryd.prog.info? 3 with
    | none => simp [hq] at h3
    | some i => exact ⟨i, rfl⟩
  have hc : Tryd.prog.cellsOf 3 = 1 := by kernel_rfl
  unfold vecA
  rw [show (10000 : Nat) = 9999 + 1 from rfl, run_equalIn_array (P := Tryd.prog) w 9999 (t := t) (e := 3) (n := 8) _ _ (by rcases ht with rfl | rfl <;> kernel_rfl) hi, hc]
  exact eqItems8 v u w (List.range 8) (fun q hq => by simpa using hq)
end Go.Proofs.YtmonbkoelehdlaaDoor
