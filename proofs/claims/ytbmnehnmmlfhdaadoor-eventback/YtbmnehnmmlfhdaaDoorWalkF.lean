/-
  What opFault and CheckOps of package event do.
-/
import Derived.Test.YtbmnehnmmlfhdaaDoorWalkE
import Derived.Test.YtbmnehnmmlfhdaaDoorWalkAZ
import Derived.Deep.RegionWith
namespace Go.Proofs.YtbmnehnmmlfhdaaDoor
open Go.RowKit

theorem opFaultN_range (l : List Opn) (x : Opn) (h : rangeB x = false) : opFaultN l x = 2 := by simp [opFaultN, h]
theorem opFaultN_kind (l : List Opn) (x : Opn) (h : rangeB x = true) (h2 : kindB x.d = false) : opFaultN l x = 1 := by simp [opFaultN, h, h2]
theorem opFaultN_order (l : List Opn) (x : Opn) (h : rangeB x = true) (h2 : kindB x.d = true) (h3 : orderB l x = false) : opFaultN l x = 10 := by simp [opFaultN, h, h2, h3]
theorem opFaultN_twice (l : List Opn) (x : Opn) (h : rangeB x = true) (h2 : kindB x.d = true) (h3 : orderB l x = true) (h4 : l.any (fun y => shareB y x) = true) : opFaultN l x = 9 := by unfold opFaultN; rw [h, h2, h3, h4]; rfl
theorem opFaultN_rest (l : List Opn) (x : Opn) (h : rangeB x = true) (h2 : kindB x.d = true) (h3 : orderB l x = true) (h4 : l.any (fun y => shareB y x) = false) : opFaultN l x = if l.any (fun y => clashB y x) then 6 else 0 := by unfold opFaultN; rw [h, h2, h3, h4]; rfl

theorem hideIt {p : Prop} (h : p) : Hid p := h

/-- What a new block of an op holds. -/
theorem opAt_new (w : World) (x : Opn) : OpAt (w.alloc (.cells #[.int .i64 x.p, .int .i64 x.k, .int .i64 x.d, .int .i64 x.a, .int .i64 x.b, .int .i64 x.r, .int .i64 x.c, .int .i64 x.e] 51)) w.heap.size 0 x :=
  ⟨by simp, by simp, by simp, by simp, by simp, by simp, by simp, by simp⟩

end Go.Proofs.YtbmnehnmmlfhdaaDoor
