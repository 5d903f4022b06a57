/-
  Chapter 16 in plain Lean: who can talk to whom; it is told both ways; two who each talk to more than half meet.
-/

namespace Go.Proofs.YtncnojgemmcplaaGreatDoor

/-- 16.1: who can talk to whom: 0 whole, 1 halves, 2 bridge, 3 ring, else alone. -/
def linkedB (what n who a b : Int) : Bool :=
  if a = b then true
  else if what = 0 then true
  else if what = 1 then decide (a < n / 2) == decide (b < n / 2)
  else if what = 2 then (decide (a < n / 2) == decide (b < n / 2)) || decide (a = n / 2) || decide (b = n / 2)
  else if what = 3 then decide (min (if a - b < 0 then -(a - b) else a - b) (n - (if a - b < 0 then -(a - b) else a - b)) ≤ (n / 2 + 1) / 2)
  else decide (a ≠ who) && decide (b ≠ who)
theorem linked_refl (what n who a : Int) : linkedB what n who a a = true := by unfold linkedB; rw [if_pos rfl]
end Go.Proofs.YtncnojgemmcplaaGreatDoor
