/-
  What the sort of the library does with ops, by their calls.
-/
import Derived.Test.YtbmnehnmmlfhdaaDoorSortLay
import Derived.Test.YtbmnehnmmlfhdaaDoorHistB
namespace Go.Proofs.YtbmnehnmmlfhdaaDoor
open Go.Shelf Go.RowKit Go.Lib Go.Sort

/-- How two ops are compared: by their calls. -/
def cmpO (x y : Opn) : Int := if x.c < y.c then -1 else if y.c < x.c then 1 else 0

theorem ltO (x y : Opn) : ltOf cmpO x y = decide (x.c < y.c) := by
  unfold ltOf cmpO
  by_cases h1 : x.c < y.c
  · simp [h1]
  · by_cases h2 : y.c < x.c <;> simp [h1, h2]

theorem swoO : SWO (ltOf cmpO) where
  irrefl x := by rw [ltO]; simp
  trans x y z h1 h2 := by rw [ltO] at *; simp at *; omega
  ntrans x y z h1 h2 := by rw [ltO] at *; simp at *; omega

set_option maxHeartbeats 400000 in
theorem compare_any (a b : Int) (w : World) : Calls Tryd.prog 39 #[.int .i64 a, .int .i64 b] w fun e w' => e = .returned (.int .i64 (if a < b then -1 else if b < a then 1 else 0)) ∧ w' = w := by
  by_cases h1 : a < b
  · rw [if_pos h1]
    go_enter Tryd.func39, Tryd.ntmps39
    go_wp2
    go_ret
    exact ⟨rfl, rfl⟩
  · by_cases h2 : b < a
    · rw [if_neg h1, if_pos h2]
      go_enter Tryd.func39, Tryd.ntmps39
      go_wp2
      go_ret
      exact ⟨rfl, rfl⟩
    · rw [if_neg h1, if_neg h2]
      go_enter Tryd.func39, Tryd.ntmps39
      go_wp2
      go_ret
      exact ⟨rfl, rfl⟩

set_option maxHeartbeats 400000 in
theorem closure14 (x y : Opn) (W : World) : Calls Tryd.prog 38 #[x.agg, y.agg] W fun e w' => e = .returned (.int .i64 (cmpO x y)) ∧ ∃ q os', w' = grow (W.drewN q) os' := by
  have hcon := hideIt (fun W' => compare_any x.c y.c W')
  unfold cmpO
  generalize (if x.c < y.c then (-1 : Int) else if y.c < x.c then 1 else 0) = r at hcon ⊢
  unfold Opn.agg
  go_enter Tryd.func38, Tryd.ntmps38
  go_wp2_with (go_at_call 39; refine (hcon.out _).mono ?_; rintro e w' ⟨rfl, rfl⟩)
  go_ret
  exact ⟨rfl, 0, _, by rw [alloc_eq_grow, alloc_eq_grow, grow_grow]; rfl⟩

theorem sort_any (blk off cap : Nat) (d : Array Opn) (w : World) [Inhabited Opn] (hH : HoldsK Opn.list 8 w blk off d) (hblk : blk < w.heap.size) (hsz : d.size < 4611686018427387904) :
    Calls Tryd.prog 37 #[.slice (some ⟨blk, off, none⟩) d.size cap, .func (.func 38) #[] #[]] w fun e w' => e = .returned (.tuple #[]) ∧ ∃ d' n os, PermIn 0 d.size d d' ∧ SortedIn (ltOf cmpO) 0 d.size d' ∧ w' = sortWorldK Opn.list 8 w blk off n d' os := by
  have eg : ∀ args w, (callFunc 38 args).run Tryd.prog w = .ok (.enter 38 args) w := enters_of Tryd.func38 (by kernel_rfl) rfl
  have hcon := AnyQ.slices_SortFunc sortOp 8 Tryd.isAgg51 Tryd.sizeOf51 Opn.list (fun _ => rfl) (fun x v hv => by simp [Opn.list] at hv; rcases hv with rfl | rfl | rfl | rfl | rfl | rfl | rfl | rfl <;> rfl) cmpO swoO 38 #[] blk off cap d w eg (fun _ _ _ _ x y => closure14 x y _) hH hblk hsz
  exact hcon

end Go.Proofs.YtbmnehnmmlfhdaaDoor
