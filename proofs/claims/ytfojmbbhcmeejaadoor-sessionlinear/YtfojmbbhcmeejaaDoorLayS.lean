/-
  Four functions of package slices laid at this program: numbers of its functions and types, and a fact a field.
-/
import Derived.Shelf.Slices.SearchI
import Derived.Shelf.Slices.Clone
import Derived.Shelf.Slices.Delete
import Derived.Shelf.Slices.Empties
import Derived.Shelf.Spec.SlicesInsertGrow
import Derived.Test.YtfojmbbhcmeejaaDoorProg
namespace Go.Proofs.YtfojmbbhcmeejaaDoor
open Go.Shelf
def sl_ren : Go.Shelf.Ren := ⟨fun | 25 => 119 | 31 => 124 | 32 => 125 | 37 => 128 | 21 => 120 | 27 => 126 | 28 => 127 | 35 => 129 | 39 => 130 | 23 => 121 | 15 => 103 | n => n, fun | 22 => 41 | 40 => 102 | 0 => 0 | 3 => 3 | 4 => 4 | n => n, fun | n => n⟩
theorem laySearch : Go.Proofs.Lays2.n25 Tryd.prog sl_ren := {
  mixed := by kernel_rfl
  f25 := Tryd.func119.trans (congrArg some (by kernel_rfl))
  f31 := Tryd.func124.trans (congrArg some (by kernel_rfl))
  f32 := Tryd.func125.trans (congrArg some (by kernel_rfl))
  f37 := Tryd.func128.trans (congrArg some (by kernel_rfl))
  t0 := Tryd.underlying0
  a0 := Tryd.isAgg0
  z0 := Tryd.sizeOf0
  v0 := Tryd.zeroValue0
  t3 := Tryd.underlying3
  a3 := Tryd.isAgg3
  z3 := Tryd.sizeOf3
  v3 := Tryd.zeroValue3
  t4 := Tryd.underlying4
  a4 := Tryd.isAgg4
  z4 := Tryd.sizeOf4
  v4 := Tryd.zeroValue4
  t22 := Tryd.underlying41
  a22 := Tryd.isAgg41
  z22 := Tryd.sizeOf41
  v22 := Tryd.zeroValue41
  t40 := Tryd.underlying102
  a40 := Tryd.isAgg102
  z40 := Tryd.sizeOf102
  v40 := Tryd.zeroValue102
}
theorem layInsert : Go.Proofs.Lays2.n21 Tryd.prog sl_ren := {
  mixed := by kernel_rfl
  f21 := Tryd.func120.trans (congrArg some (by kernel_rfl))
  f27 := Tryd.func126.trans (congrArg some (by kernel_rfl))
  f28 := Tryd.func127.trans (congrArg some (by kernel_rfl))
  f35 := Tryd.func129.trans (congrArg some (by kernel_rfl))
  f39 := Tryd.func130.trans (congrArg some (by kernel_rfl))
  t0 := Tryd.underlying0
  a0 := Tryd.isAgg0
  z0 := Tryd.sizeOf0
  v0 := Tryd.zeroValue0
  t3 := Tryd.underlying3
  a3 := Tryd.isAgg3
  z3 := Tryd.sizeOf3
  v3 := Tryd.zeroValue3
  t4 := Tryd.underlying4
  a4 := Tryd.isAgg4
  z4 := Tryd.sizeOf4
  v4 := Tryd.zeroValue4
  t22 := Tryd.underlying41
  a22 := Tryd.isAgg41
  z22 := Tryd.sizeOf41
  v22 := Tryd.zeroValue41
  i3 := by kernel_rfl
}
theorem layDelete : Go.Proofs.Lays2.n23 Tryd.prog sl_ren := {
  mixed := by kernel_rfl
  f23 := Tryd.func121.trans (congrArg some (by kernel_rfl))
  t0 := Tryd.underlying0
  a0 := Tryd.isAgg0
  z0 := Tryd.sizeOf0
  v0 := Tryd.zeroValue0
  t3 := Tryd.underlying3
  a3 := Tryd.isAgg3
  z3 := Tryd.sizeOf3
  v3 := Tryd.zeroValue3
  t4 := Tryd.underlying4
  a4 := Tryd.isAgg4
  z4 := Tryd.sizeOf4
  v4 := Tryd.zeroValue4
  t22 := Tryd.underlying41
  a22 := Tryd.isAgg41
  z22 := Tryd.sizeOf41
  v22 := Tryd.zeroValue41
  i3 := by kernel_rfl
}
theorem layClone : Go.Proofs.Lays2.n15 Tryd.prog sl_ren := {
  mixed := by kernel_rfl
  f15 := Tryd.func103.trans (congrArg some (by kernel_rfl))
  t3 := Tryd.underlying3
  a3 := Tryd.isAgg3
  z3 := Tryd.sizeOf3
  v3 := Tryd.zeroValue3
  t4 := Tryd.underlying4
  a4 := Tryd.isAgg4
  z4 := Tryd.sizeOf4
  v4 := Tryd.zeroValue4
  t22 := Tryd.underlying41
  a22 := Tryd.isAgg41
  z22 := Tryd.sizeOf41
  v22 := Tryd.zeroValue41
  i3 := by kernel_rfl
}
end Go.Proofs.YtfojmbbhcmeejaaDoor
