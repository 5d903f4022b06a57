/-
  The document's Step of a register, a counter, a mutex: walked.
-/
import Derived.Test.YtcfomkogojggnaaDoorStepW
namespace Go.Proofs.YtcfomkogojggnaaDoor
open Go.RowKit

theorem q47 (w : World) (a : Option Addr) (n c n' c' : Nat) : (binOp .eql 47 (.slice a n c) (.slice none n' c')).run Tryd.prog w = .ok (.bool a.isNone) w := Lib.run_eql_slice_nil w _ _ a n c n' c' Tryd.underlying47

theorem rowAt_one (w : World) (x : Int) {n : Nat} (h : n = w.heap.size) {base : Nat} (hb : base ≤ n) : RowAt (w.alloc (.cells #[.int .i64 x] 3)) base (.slice (some ⟨n, 0, none⟩) 1 1) [x] := by
  subst h
  refine .inr ⟨w.heap.size, 0, 1, #[.int .i64 x], rfl, hb, heap_alloc_new w _, Nat.le_refl _, Nat.le_refl _, by decide, fun j hj => ?_⟩
  obtain rfl : j = 0 := by simp at hj; omega
  simp

set_option maxRecDepth 100000 in
set_option maxHeartbeats 1000000 in
theorem refStep_unknown (o k a b : Int) (st : List Int) (v : Value) (w : World) (h : knowsB o k = false) :
    Calls Tryd.prog 23 #[.int .i64 o, v, .int .i64 k, .int .i64 a, .int .i64 b] w fun e w' => StepTold w (stepM o st k a b) e w' := by
  rw [stepM_unknown h]
  have HS := hideIt (refKnows_any o k w)
  rw [h] at HS
  clear h
  go_enter Tryd.func23, Tryd.ntmps23
  go_wp2_with (go_at_call 18; refine HS.out.mono ?_; rintro e w1 ⟨rfl, rfl⟩)
  go_ret3
  exact ⟨Below.refl _ _, rfl⟩

set_option maxRecDepth 100000 in
set_option maxHeartbeats 1000000 in
theorem refStep_len (o k a b : Int) (st : List Int) (A : Option Addr) (cap : Nat) (w : World) (h : knowsB o k = true) (h1 : oneB o = true) (hl : st.length ≠ 1) :
    Calls Tryd.prog 23 #[.int .i64 o, .slice A st.length cap, .int .i64 k, .int .i64 a, .int .i64 b] w fun e w' => StepTold w (stepM o st k a b) e w' := by
  rw [stepM_len h1 hl]
  have HS := hideIt (refKnows_any o k w)
  have HT := hideIt (refStart_any o w)
  have HB := hideIt (below_grown (startGrown w o))
  simp only [startV, startW, h1, if_true] at HT HB
  rw [h] at HS
  have hn : ((st.length : Int) != 1) = true := by simp; omega
  have q := q47
  clear h h1 hl
  go_enter Tryd.func23, Tryd.ntmps23
  go_wp2_with (first | (go_at_call 18; refine HS.out.mono ?_; rintro e w1 ⟨rfl, rfl⟩) | (go_at_call 21; refine HT.out.mono ?_; rintro e w2 ⟨rfl, rfl⟩))
  go_ret3
  exact ⟨HB.out, rfl⟩

set_option maxRecDepth 100000 in
set_option maxHeartbeats 1000000 in
theorem refStep_read (a b x : Int) (g off cap : Nat) (w : World) (hc : w.cell? ⟨g, off, none⟩ = some (.int .i64 x)) :
    Calls Tryd.prog 23 #[.int .i64 1, .slice (some ⟨g, off, none⟩) 1 cap, .int .i64 1, .int .i64 a, .int .i64 b] w fun e w' => StepTold w (some ([x], x)) e w' := by
  have HS := hideIt (refKnows_any 1 1 w)
  have HT := hideIt (refStart_any 1 w)
  have HG := hideIt (startGrown w 1)
  have hc1 := (startGrown w 1).cell hc (by simp)
  rw [show knowsB 1 1 = true from rfl] at HS
  simp only [startV, startW, show oneB 1 = true from rfl, if_true] at HT HG hc1
  have q := q47
  have hc2 := (World.grownBy_alloc _ (.cells #[.int .i64 x] 3) none).cell hc1 (by simp)
  clear hc
  go_enter Tryd.func23, Tryd.ntmps23
  go_wp2_with (first | (go_at_call 18; refine HS.out.mono ?_; rintro e w1 ⟨rfl, rfl⟩) | (go_at_call 21; refine HT.out.mono ?_; rintro e w2 ⟨rfl, rfl⟩) | fail)
  go_region
  go_wp2
  go_ret3
  exact ⟨below_grown ((HG.out.trans (World.grownBy_alloc _ _ _)).trans (grown_drew _ _)), _, rfl, (rowAt_one _ _ (by simp) (by simp)).kept (grown_drew _ none) (Classical.em _)⟩

set_option maxRecDepth 100000 in
set_option maxHeartbeats 1000000 in
theorem refStep_write (a b x : Int) (g off cap : Nat) (w : World) (hc : w.cell? ⟨g, off, none⟩ = some (.int .i64 x)) :
    Calls Tryd.prog 23 #[.int .i64 1, .slice (some ⟨g, off, none⟩) 1 cap, .int .i64 2, .int .i64 a, .int .i64 b] w fun e w' => StepTold w (some ([a], 0)) e w' := by
  have HS := hideIt (refKnows_any 1 2 w)
  have HT := hideIt (refStart_any 1 w)
  have HG := hideIt (startGrown w 1)
  have hc1 := (startGrown w 1).cell hc (by simp)
  rw [show knowsB 1 2 = true from rfl] at HS
  simp only [startV, startW, show oneB 1 = true from rfl, if_true] at HT HG hc1
  have q := q47
  clear hc
  go_enter Tryd.func23, Tryd.ntmps23
  go_wp2_with (first | (go_at_call 18; refine HS.out.mono ?_; rintro e w1 ⟨rfl, rfl⟩) | (go_at_call 21; refine HT.out.mono ?_; rintro e w2 ⟨rfl, rfl⟩) | fail)
  go_ret3
  exact ⟨below_grown (HG.out.trans (World.grownBy_alloc _ _ _)), _, rfl, rowAt_one _ _ (by simp) (by simp)⟩

set_option maxRecDepth 100000 in
set_option maxHeartbeats 1000000 in
theorem refStep_swap (a b x : Int) (g off cap : Nat) (w : World) (hc : w.cell? ⟨g, off, none⟩ = some (.int .i64 x)) (hx : (x != a) = false) :
    Calls Tryd.prog 23 #[.int .i64 1, .slice (some ⟨g, off, none⟩) 1 cap, .int .i64 3, .int .i64 a, .int .i64 b] w fun e w' => StepTold w (some ([b], 1)) e w' := by
  have HS := hideIt (refKnows_any 1 3 w)
  have HT := hideIt (refStart_any 1 w)
  have HG := hideIt (startGrown w 1)
  have hc1 := (startGrown w 1).cell hc (by simp)
  rw [show knowsB 1 3 = true from rfl] at HS
  simp only [startV, startW, show oneB 1 = true from rfl, if_true] at HT HG hc1
  have q := q47
  clear hc
  go_enter Tryd.func23, Tryd.ntmps23
  go_wp2_with (first | (go_at_call 18; refine HS.out.mono ?_; rintro e w1 ⟨rfl, rfl⟩) | (go_at_call 21; refine HT.out.mono ?_; rintro e w2 ⟨rfl, rfl⟩) | fail)
  go_ret3
  exact ⟨below_grown (HG.out.trans (World.grownBy_alloc _ _ _)), _, rfl, rowAt_one _ _ (by simp) (by simp)⟩

set_option maxRecDepth 100000 in
set_option maxHeartbeats 1000000 in
theorem refStep_stay (a b x : Int) (g off cap : Nat) (w : World) (hc : w.cell? ⟨g, off, none⟩ = some (.int .i64 x)) (hx : (x != a) = true) :
    Calls Tryd.prog 23 #[.int .i64 1, .slice (some ⟨g, off, none⟩) 1 cap, .int .i64 3, .int .i64 a, .int .i64 b] w fun e w' => StepTold w (some ([x], 0)) e w' := by
  have HS := hideIt (refKnows_any 1 3 w)
  have HT := hideIt (refStart_any 1 w)
  have HG := hideIt (startGrown w 1)
  have hc1 := (startGrown w 1).cell hc (by simp)
  rw [show knowsB 1 3 = true from rfl] at HS
  simp only [startV, startW, show oneB 1 = true from rfl, if_true] at HT HG hc1
  have q := q47
  clear hc
  go_enter Tryd.func23, Tryd.ntmps23
  go_wp2_with (first | (go_at_call 18; refine HS.out.mono ?_; rintro e w1 ⟨rfl, rfl⟩) | (go_at_call 21; refine HT.out.mono ?_; rintro e w2 ⟨rfl, rfl⟩) | fail)
  go_ret3
  exact ⟨below_grown (HG.out.trans (World.grownBy_alloc _ _ _)), _, rfl, rowAt_one _ _ (by simp) (by simp)⟩

set_option maxRecDepth 100000 in
set_option maxHeartbeats 1000000 in
theorem refStep_lock (a b x : Int) (g off cap : Nat) (w : World) (hc : w.cell? ⟨g, off, none⟩ = some (.int .i64 x)) (hx : (x != 0) = false) :
    Calls Tryd.prog 23 #[.int .i64 6, .slice (some ⟨g, off, none⟩) 1 cap, .int .i64 11, .int .i64 a, .int .i64 b] w fun e w' => StepTold w (some ([1], 0)) e w' := by
  have HS := hideIt (refKnows_any 6 11 w)
  have HT := hideIt (refStart_any 6 w)
  have HG := hideIt (startGrown w 6)
  have hc1 := (startGrown w 6).cell hc (by simp)
  rw [show knowsB 6 11 = true from rfl] at HS
  simp only [startV, startW, show oneB 6 = true from rfl, if_true] at HT HG hc1
  have q := q47
  clear hc
  go_enter Tryd.func23, Tryd.ntmps23
  go_wp2_with (first | (go_at_call 18; refine HS.out.mono ?_; rintro e w1 ⟨rfl, rfl⟩) | (go_at_call 21; refine HT.out.mono ?_; rintro e w2 ⟨rfl, rfl⟩) | fail)
  go_ret3
  exact ⟨below_grown (HG.out.trans (World.grownBy_alloc _ _ _)), _, rfl, rowAt_one _ _ (by simp) (by simp)⟩

set_option maxRecDepth 100000 in
set_option maxHeartbeats 1000000 in
theorem refStep_locked (a b x : Int) (g off cap : Nat) (w : World) (hc : w.cell? ⟨g, off, none⟩ = some (.int .i64 x)) (hx : (x != 0) = true) :
    Calls Tryd.prog 23 #[.int .i64 6, .slice (some ⟨g, off, none⟩) 1 cap, .int .i64 11, .int .i64 a, .int .i64 b] w fun e w' => StepTold w none e w' := by
  have HS := hideIt (refKnows_any 6 11 w)
  have HT := hideIt (refStart_any 6 w)
  have HG := hideIt (startGrown w 6)
  have hc1 := (startGrown w 6).cell hc (by simp)
  rw [show knowsB 6 11 = true from rfl] at HS
  simp only [startV, startW, show oneB 6 = true from rfl, if_true] at HT HG hc1
  have q := q47
  clear hc
  go_enter Tryd.func23, Tryd.ntmps23
  go_wp2_with (first | (go_at_call 18; refine HS.out.mono ?_; rintro e w1 ⟨rfl, rfl⟩) | (go_at_call 21; refine HT.out.mono ?_; rintro e w2 ⟨rfl, rfl⟩) | fail)
  go_ret3
  exact ⟨below_grown HG.out, rfl⟩

set_option maxRecDepth 100000 in
set_option maxHeartbeats 1000000 in
theorem refStep_unlock (a b x : Int) (g off cap : Nat) (w : World) (hc : w.cell? ⟨g, off, none⟩ = some (.int .i64 x)) (hx : (x != 1) = false) :
    Calls Tryd.prog 23 #[.int .i64 6, .slice (some ⟨g, off, none⟩) 1 cap, .int .i64 12, .int .i64 a, .int .i64 b] w fun e w' => StepTold w (some ([0], 0)) e w' := by
  have HS := hideIt (refKnows_any 6 12 w)
  have HT := hideIt (refStart_any 6 w)
  have HG := hideIt (startGrown w 6)
  have hc1 := (startGrown w 6).cell hc (by simp)
  rw [show knowsB 6 12 = true from rfl] at HS
  simp only [startV, startW, show oneB 6 = true from rfl, if_true] at HT HG hc1
  have q := q47
  clear hc
  go_enter Tryd.func23, Tryd.ntmps23
  go_wp2_with (first | (go_at_call 18; refine HS.out.mono ?_; rintro e w1 ⟨rfl, rfl⟩) | (go_at_call 21; refine HT.out.mono ?_; rintro e w2 ⟨rfl, rfl⟩) | fail)
  go_ret3
  exact ⟨below_grown (HG.out.trans (World.grownBy_alloc _ _ _)), _, rfl, rowAt_one _ _ (by simp) (by simp)⟩

set_option maxRecDepth 100000 in
set_option maxHeartbeats 1000000 in
theorem refStep_unlocked (a b x : Int) (g off cap : Nat) (w : World) (hc : w.cell? ⟨g, off, none⟩ = some (.int .i64 x)) (hx : (x != 1) = true) :
    Calls Tryd.prog 23 #[.int .i64 6, .slice (some ⟨g, off, none⟩) 1 cap, .int .i64 12, .int .i64 a, .int .i64 b] w fun e w' => StepTold w none e w' := by
  have HS := hideIt (refKnows_any 6 12 w)
  have HT := hideIt (refStart_any 6 w)
  have HG := hideIt (startGrown w 6)
  have hc1 := (startGrown w 6).cell hc (by simp)
  rw [show knowsB 6 12 = true from rfl] at HS
  simp only [startV, startW, show oneB 6 = true from rfl, if_true] at HT HG hc1
  have q := q47
  clear hc
  go_enter Tryd.func23, Tryd.ntmps23
  go_wp2_with (first | (go_at_call 18; refine HS.out.mono ?_; rintro e w1 ⟨rfl, rfl⟩) | (go_at_call 21; refine HT.out.mono ?_; rintro e w2 ⟨rfl, rfl⟩) | fail)
  go_ret3
  exact ⟨below_grown HG.out, rfl⟩

set_option maxRecDepth 100000 in
set_option maxHeartbeats 1000000 in
theorem refStep_add (a b x : Int) (g off cap : Nat) (w : World) (hc : w.cell? ⟨g, off, none⟩ = some (.int .i64 x)) :
    Calls Tryd.prog 23 #[.int .i64 2, .slice (some ⟨g, off, none⟩) 1 cap, .int .i64 4, .int .i64 a, .int .i64 b] w fun e w' => StepTold w (some ([wrap64 (x + a)], wrap64 (x + a))) e w' := by
  have HS := hideIt (refKnows_any 2 4 w)
  have HT := hideIt (refStart_any 2 w)
  have HG := hideIt (startGrown w 2)
  have hc1 := (startGrown w 2).cell hc (by simp)
  rw [show knowsB 2 4 = true from rfl] at HS
  simp only [startV, startW, show oneB 2 = true from rfl, if_true] at HT HG hc1
  have q := q47
  have hc2 := (World.grownBy_alloc _ (.cells #[.int .i64 (wrap64 (x + a))] 3) none).cell hc1 (by simp)
  clear hc
  go_enter Tryd.func23, Tryd.ntmps23
  go_wp2_with (first | (go_at_call 18; refine HS.out.mono ?_; rintro e w1 ⟨rfl, rfl⟩) | (go_at_call 21; refine HT.out.mono ?_; rintro e w2 ⟨rfl, rfl⟩) | fail)
  go_region
  go_wp2
  go_ret3
  exact ⟨below_grown ((HG.out.trans (World.grownBy_alloc _ _ _)).trans (grown_drew _ _)), _, rfl, (rowAt_one _ _ (by simp) (by simp)).kept (grown_drew _ none) (Classical.em _)⟩

set_option maxRecDepth 100000 in
set_option maxHeartbeats 1000000 in
theorem refStep_get (a b x : Int) (g off cap : Nat) (w : World) (hc : w.cell? ⟨g, off, none⟩ = some (.int .i64 x)) :
    Calls Tryd.prog 23 #[.int .i64 2, .slice (some ⟨g, off, none⟩) 1 cap, .int .i64 5, .int .i64 a, .int .i64 b] w fun e w' => StepTold w (some ([x], x)) e w' := by
  have HS := hideIt (refKnows_any 2 5 w)
  have HT := hideIt (refStart_any 2 w)
  have HG := hideIt (startGrown w 2)
  have hc1 := (startGrown w 2).cell hc (by simp)
  rw [show knowsB 2 5 = true from rfl] at HS
  simp only [startV, startW, show oneB 2 = true from rfl, if_true] at HT HG hc1
  have q := q47
  have hc2 := (World.grownBy_alloc _ (.cells #[.int .i64 x] 3) none).cell hc1 (by simp)
  clear hc
  go_enter Tryd.func23, Tryd.ntmps23
  go_wp2_with (first | (go_at_call 18; refine HS.out.mono ?_; rintro e w1 ⟨rfl, rfl⟩) | (go_at_call 21; refine HT.out.mono ?_; rintro e w2 ⟨rfl, rfl⟩) | fail)
  go_region
  go_wp2
  go_ret3
  exact ⟨below_grown ((HG.out.trans (World.grownBy_alloc _ _ _)).trans (grown_drew _ _)), _, rfl, (rowAt_one _ _ (by simp) (by simp)).kept (grown_drew _ none) (Classical.em _)⟩

end Go.Proofs.YtcfomkogojggnaaDoor
