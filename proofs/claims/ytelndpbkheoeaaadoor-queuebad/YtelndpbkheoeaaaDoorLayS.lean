/-
  Four functions of package slices laid at this program: numbers of its functions and types, and a fact a field.
-/
import Derived.Shelf.Slices.SearchI
import Derived.Shelf.Slices.Clone
import Derived.Shelf.Slices.Delete
import Derived.Shelf.Slices.Empties
import Derived.Shelf.Spec.SlicesInsertGrow
import Derived.Test.YtelndpbkheoeaaaDoorProg
namespace Go.Proofs.YtelndpbkheoeaaaDoor
open Go.Shelf
def sl_ren : Go.Shelf.Ren := ⟨fun | 25 => 127 | 31 => 132 | 32 => 133 | 37 => 55 | 21 => 128 | 27 => 134 | 28 => 135 | 35 => 136 | 39 => 137 | 23 => 129 | 15 => 112 | n => n, fun | 22 => 48 | 40 => 111 | 0 => 0 | 3 => 3 | 4 => 4 | n => n, fun | n => n⟩
theorem laySearch : Go.Proofs.Lays2.n25 Tryd.prog sl_ren := {
  mixed := by kernel_rfl
  f25 := Tryd.func127.trans (congrArg some (by kernel_rfl))
  f31 := Tryd.func132.trans (congrArg some (by kernel_rfl))
  f32 := Tryd.func133.trans (congrArg some (by kernel_rfl))
  f37 := Tryd.func55.trans (congrArg some (by kernel_rfl))
  t0 := Tryd.underlying0
  a0 := Tryd.isAgg0
  z0 := Tryd.sizeOf0
  v0 := Tryd.zeroValue0
  t3 := Tryd.underlying3
  a3 := Tryd.isAgg3
  z3 := Tryd.sizeOf3
  v3 := Tryd.zeroValue3
  t4 := Tryd.underlying4
  a4 := Tryd.isAgg4
  z4 := Tryd.sizeOf4
  v4 := Tryd.zeroValue4
  t22 := Tryd.underlying48
  a22 := Tryd.isAgg48
  z22 := Tryd.sizeOf48
  v22 := Tryd.zeroValue48
  t40 := Tryd.underlying111
  a40 := Tryd.isAgg111
  z40 := Tryd.sizeOf111
  v40 := Tryd.zeroValue111
}
theorem layInsert : Go.Proofs.Lays2.n21 Tryd.prog sl_ren := {
  mixed := by kernel_rfl
  f21 := Tryd.func128.trans (congrArg some (by kernel_rfl))
  f27 := Tryd.func134.trans (congrArg some (by kernel_rfl))
  f28 := Tryd.func135.trans (congrArg some (by kernel_rfl))
  f35 := Tryd.func136.trans (congrArg some (by kernel_rfl))
  f39 := Tryd.func137.trans (congrArg some (by kernel_rfl))
  t0 := Tryd.underlying0
  a0 := Tryd.isAgg0
  z0 := Tryd.sizeOf0
  v0 := Tryd.zeroValue0
  t3 := Tryd.underlying3
  a3 := Tryd.isAgg3
  z3 := Tryd.sizeOf3
  v3 := Tryd.zeroValue3
  t4 := Tryd.underlying4
  a4 := Tryd.isAgg4
  z4 := Tryd.sizeOf4
  v4 := Tryd.zeroValue4
  t22 := Tryd.underlying48
  a22 := Tryd.isAgg48
  z22 := Tryd.sizeOf48
  v22 := Tryd.zeroValue48
  i3 := by kernel_rfl
}
theorem layDelete : Go.Proofs.Lays2.n23 Tryd.prog sl_ren := {
  mixed := by kernel_rfl
  f23 := Tryd.func129.trans (congrArg some (by kernel_rfl))
  t0 := Tryd.underlying0
  a0 := Tryd.isAgg0
  z0 := Tryd.sizeOf0
  v0 := Tryd.zeroValue0
  t3 := Tryd.underlying3
  a3 := Tryd.isAgg3
  z3 := Tryd.sizeOf3
  v3 := Tryd.zeroValue3
  t4 := Tryd.underlying4
  a4 := Tryd.isAgg4
  z4 := Tryd.sizeOf4
  v4 := Tryd.zeroValue4
  t22 := Tryd.underlying48
  a22 := Tryd.isAgg48
  z22 := Tryd.sizeOf48
  v22 := Tryd.zeroValue48
  i3 := by kernel_rfl
}
theorem layClone : Go.Proofs.Lays2.n15 Tryd.prog sl_ren := {
  mixed := by kernel_rfl
  f15 := Tryd.func112.trans (congrArg some (by kernel_rfl))
  t3 := Tryd.underlying3
  a3 := Tryd.isAgg3
  z3 := Tryd.sizeOf3
  v3 := Tryd.zeroValue3
  t4 := Tryd.underlying4
  a4 := Tryd.isAgg4
  z4 := Tryd.sizeOf4
  v4 := Tryd.zeroValue4
  t22 := Tryd.underlying48
  a22 := Tryd.isAgg48
  z22 := Tryd.sizeOf48
  v22 := Tryd.zeroValue48
  i3 := by kernel_rfl
}
end Go.Proofs.YtelndpbkheoeaaaDoor
