/-
  What the small functions on ops do: contracts over the translated program.
-/
import Derived.Test.YtkedbcfejcakaaaDoorWalkA
import Derived.Test.YtkedbcfejcakaaaDoorPlainB
namespace Go.Proofs.YtkedbcfejcakaaaDoor
open Go.RowKit

theorem belJ {w W w1 : World} (h : Below w.heap.size w W) (hb : Below W.heap.size W w1) : Below w.heap.size w w1 := h.trans (hb.mono h.size)
theorem belA {w W : World} (h : Below w.heap.size w W) (o : Obj) : Below w.heap.size w (W.alloc o) := h.alloc h.size o

def Opn.agg (x : Opn) : Value := .agg #[.int .i64 x.p, .int .i64 x.k, .int .i64 x.d, .int .i64 x.a, .int .i64 x.b, .int .i64 x.r, .int .i64 x.c, .int .i64 x.e]
def Opn.obj (x : Opn) : Obj := .cells #[.int .i64 x.p, .int .i64 x.k, .int .i64 x.d, .int .i64 x.a, .int .i64 x.b, .int .i64 x.r, .int .i64 x.c, .int .i64 x.e] 47

set_option maxHeartbeats 400000 in
theorem before_any (x y : Opn) (w : World) : Calls Tryd.prog 15 #[x.agg, y.agg] w fun e w' => e = .returned (.bool (beforeB x y)) ∧ Below w.heap.size w w' := by
  unfold Opn.agg
  by_cases h1 : 0 ≤ x.e
  · by_cases h2 : x.e < y.c
    · have e : beforeB x y = true := by simp [beforeB, h1, h2]
      rw [e]; clear e
      go_enter Tryd.func15, Tryd.ntmps15
      go_wp2
      go_ret
      exact ⟨rfl, belA (belA (Below.refl _ _) _) _⟩
    · have e : beforeB x y = false := by simp [beforeB, h2]
      rw [e]; clear e
      go_enter Tryd.func15, Tryd.ntmps15
      go_wp2
      go_ret
      exact ⟨rfl, belA (belA (Below.refl _ _) _) _⟩
  · have e : beforeB x y = false := by simp [beforeB, h1]
    rw [e]; clear e
    go_enter Tryd.func15, Tryd.ntmps15
    go_wp2
    go_ret
    exact ⟨rfl, belA (belA (Below.refl _ _) _) _⟩

set_option maxHeartbeats 400000 in
theorem refBefore_any (x y : Opn) (w : World) : Calls Tryd.prog 16 #[x.agg, y.agg] w fun e w' => e = .returned (.bool (beforeB x y)) ∧ Below w.heap.size w w' := by
  unfold Opn.agg
  by_cases h1 : 0 ≤ x.e
  · by_cases h2 : x.e < y.c
    · have e : beforeB x y = true := by simp [beforeB, h1, h2]
      rw [e]; clear e
      go_enter Tryd.func16, Tryd.ntmps16
      go_wp2
      go_ret
      exact ⟨rfl, belA (belA (Below.refl _ _) _) _⟩
    · have e : beforeB x y = false := by simp [beforeB, h2]
      rw [e]; clear e
      go_enter Tryd.func16, Tryd.ntmps16
      go_wp2
      go_ret
      exact ⟨rfl, belA (belA (Below.refl _ _) _) _⟩
  · have e : beforeB x y = false := by simp [beforeB, h1]
    rw [e]; clear e
    go_enter Tryd.func16, Tryd.ntmps16
    go_wp2
    go_ret
    exact ⟨rfl, belA (belA (Below.refl _ _) _) _⟩

set_option maxHeartbeats 400000 in
theorem hasTime_any (x : Opn) (t : Int) (w : World) : Calls Tryd.prog 66 #[x.agg, .int .i64 t] w fun e w' => e = .returned (.bool (hasB x t)) ∧ w' = w.alloc x.obj := by
  unfold Opn.agg Opn.obj
  cases h1 : x.c == t
  · cases h2 : x.e == t
    · have e : hasB x t = false := by simp [hasB, h1, h2]
      rw [e]; clear e
      go_enter Tryd.func66, Tryd.ntmps66
      go_wp2
      go_ret
      exact ⟨rfl, rfl⟩
    · have e : hasB x t = true := by simp [hasB, h1, h2]
      rw [e]; clear e
      go_enter Tryd.func66, Tryd.ntmps66
      go_wp2
      go_ret
      exact ⟨rfl, rfl⟩
  · have e : hasB x t = true := by simp [hasB, h1]
    rw [e]; clear e
    go_enter Tryd.func66, Tryd.ntmps66
    go_wp2
    go_ret
    exact ⟨rfl, rfl⟩

set_option maxHeartbeats 400000 in
theorem share_any (x y : Opn) (w : World) : Calls Tryd.prog 48 #[x.agg, y.agg] w fun e w' => e = .returned (.bool (shareB x y)) ∧ Below w.heap.size w w' := by
  cases h1 : hasB x y.c
  · cases h2 : y.e != -1
    · have e : shareB x y = false := by simp [shareB, h1, h2]
      rw [e]; clear e
      have H1 : Hid (hasB x y.c = false) := h1
      clear h1
      unfold Opn.agg
      go_enter Tryd.func48, Tryd.ntmps48
      go_wp2_with fail
      refine (hasTime_any x y.c _).mono ?_
      rw [H1.out]
      rintro e w1 ⟨rfl, rfl⟩
      unfold Opn.obj
      go_wp2
      go_ret
      exact ⟨rfl, belA (belA (belA (Below.refl _ _) _) _) _⟩
    · have e : shareB x y = hasB x y.e := by simp [shareB, h1, h2]
      rw [e]; clear e
      have H1 : Hid (hasB x y.c = false) := h1
      clear h1
      unfold Opn.agg
      go_enter Tryd.func48, Tryd.ntmps48
      go_wp2_with fail
      refine (hasTime_any x y.c _).mono ?_
      rw [H1.out]
      rintro e w1 ⟨rfl, rfl⟩
      unfold Opn.obj
      go_wp2_with fail
      refine (hasTime_any x y.e _).mono ?_
      rintro e w1 ⟨rfl, rfl⟩
      unfold Opn.obj
      go_wp2
      go_ret
      exact ⟨rfl, belA (belA (belA (belA (Below.refl _ _) _) _) _) _⟩
  · have e : shareB x y = true := by simp [shareB, h1]
    rw [e]; clear e
    have H1 : Hid (hasB x y.c = true) := h1
    clear h1
    unfold Opn.agg
    go_enter Tryd.func48, Tryd.ntmps48
    go_wp2_with fail
    refine (hasTime_any x y.c _).mono ?_
    rw [H1.out]
    rintro e w1 ⟨rfl, rfl⟩
    unfold Opn.obj
    go_wp2
    go_ret
    exact ⟨rfl, belA (belA (belA (Below.refl _ _) _) _) _⟩

end Go.Proofs.YtkedbcfejcakaaaDoor
