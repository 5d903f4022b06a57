/-
  The statements' own word 'lattice' at Last, walked.
-/
import Derived.Test.YthphoiadhddggaaAlL
namespace Go.Proofs.Ythphoiadhddggaa
open Go.RowKit

theorem lst_ext {a b : Lst} (h1 : a.t = b.t) (h2 : a.p = b.p) (h3 : a.v = b.v) : a = b := by
  cases a; cases b; simp_all
theorem joinL_comm (a b : Lst) : joinL a b = joinL b a := by
  have h1 := lexB_iff a b
  have h2 := lexB_iff b a
  unfold joinL
  cases e1 : lexB a b <;> cases e2 : lexB b a
  · rw [e1] at h1
    rw [e2] at h2
    simp only [Bool.false_eq_true, false_iff, if_false] at *
    exact lst_ext (by omega) (by omega) (by omega)
  · rfl
  · rfl
  · rw [e1] at h1
    rw [e2] at h2
    simp only [true_iff, if_true] at *
    omega
theorem joinL_self (a : Lst) : joinL a a = a := by unfold joinL; split <;> rfl
theorem joinL_assoc (a b c : Lst) : joinL (joinL a b) c = joinL a (joinL b c) := by
  have h1 := lexB_iff a b
  have h2 := lexB_iff b c
  have h3 := lexB_iff a c
  unfold joinL
  cases e1 : lexB a b <;> cases e2 : lexB b c <;> cases e3 : lexB a c <;> simp [e1, e2, e3]
  · rw [e1] at h1; rw [e2] at h2; rw [e3] at h3
    simp only [Bool.false_eq_true, false_iff, true_iff] at h1 h2 h3
    omega
  · rw [e1] at h1; rw [e2] at h2; rw [e3] at h3
    simp only [Bool.false_eq_true, false_iff, true_iff] at h1 h2 h3
    omega
theorem four_of {E : Type} {jn : E → E → E} (hc : ∀ a b, jn a b = jn b a) (ha : ∀ a b c, jn (jn a b) c = jn a (jn b c)) (hi : ∀ a, jn a a = a) (A B C : E) : [B, C].foldl jn A = [A, B, A].foldl jn C := by
  simp only [List.foldl_cons, List.foldl_nil]
  rw [ha C A B, ha C (jn A B) A, hc (jn A B) A, ← ha A A B, hi, hc C (jn A B)]
theorem buildL2 (a b : Lst) (w : World) : (Instr.buildSlice 54 2 #[(0, lA a), (1, lA b)]).run Try.prog w = .ok (.slice (some ⟨w.heap.size, 0, none⟩) 2 2) (w.alloc (.cells #[.int .i64 a.t, .int .i64 a.p, .int .i64 a.v, .int .i64 b.t, .int .i64 b.p, .int .i64 b.v] 23)) := by kernel_rfl
theorem buildL3 (a b c : Lst) (w : World) : (Instr.buildSlice 54 3 #[(0, lA a), (1, lA b), (2, lA c)]).run Try.prog w = .ok (.slice (some ⟨w.heap.size, 0, none⟩) 3 3) (w.alloc (.cells #[.int .i64 a.t, .int .i64 a.p, .int .i64 a.v, .int .i64 b.t, .int .i64 b.p, .int .i64 b.v, .int .i64 c.t, .int .i64 c.p, .int .i64 c.v] 23)) := by kernel_rfl
theorem latOkL : LatOk RepL RepLS joinL (fun a b => decide (a = b)) Try.prog 23 54 7 8 9 where
  stab := fun _ _ _ _ h _ => h
  stabS := fun _ _ _ _ h hb => h.bel hb
  mJ := fun _ _ _ => by kernel_rfl
  mS := fun _ _ _ => by kernel_rfl
  cA := fun _ _ => by kernel_rfl
  mkI := fun _ _ => by kernel_rfl
  join := fun x y u v w hx hy => by
    obtain rfl : u = lA x := hx
    obtain rfl : v = lA y := hy
    exact (joinL_any x y w).mono fun e w' ⟨he, hb⟩ => ⟨_, he, rfl, hb⟩
  same := fun x y u v w hx hy => by
    obtain rfl : u = lA x := hx
    obtain rfl : v = lA y := hy
    exact sameL_any x y w
  b2 := fun x y u v w hx hy => by
    obtain rfl : u = lA x := hx
    obtain rfl : v = lA y := hy
    refine ⟨_, _, buildL2 x y w, ⟨w.heap.size, rfl, by simp, by simp, fun i hi => ?_⟩, belA (Below.refl _ w) _⟩
    match i, hi with
    | 0, _ => exact ⟨by rw [cell_of_row _ _ _ _ 23 _ (heap_alloc_new w _)]; rfl, by rw [cell_of_row _ _ _ _ 23 _ (heap_alloc_new w _)]; rfl, by rw [cell_of_row _ _ _ _ 23 _ (heap_alloc_new w _)]; rfl⟩
    | 1, _ => exact ⟨by rw [cell_of_row _ _ _ _ 23 _ (heap_alloc_new w _)]; rfl, by rw [cell_of_row _ _ _ _ 23 _ (heap_alloc_new w _)]; rfl, by rw [cell_of_row _ _ _ _ 23 _ (heap_alloc_new w _)]; rfl⟩
  b3 := fun x y z u v t w hx hy hz => by
    obtain rfl : u = lA x := hx
    obtain rfl : v = lA y := hy
    obtain rfl : t = lA z := hz
    refine ⟨_, _, buildL3 x y z w, ⟨w.heap.size, rfl, by simp, by simp, fun i hi => ?_⟩, belA (Below.refl _ w) _⟩
    match i, hi with
    | 0, _ => exact ⟨by rw [cell_of_row _ _ _ _ 23 _ (heap_alloc_new w _)]; rfl, by rw [cell_of_row _ _ _ _ 23 _ (heap_alloc_new w _)]; rfl, by rw [cell_of_row _ _ _ _ 23 _ (heap_alloc_new w _)]; rfl⟩
    | 1, _ => exact ⟨by rw [cell_of_row _ _ _ _ 23 _ (heap_alloc_new w _)]; rfl, by rw [cell_of_row _ _ _ _ 23 _ (heap_alloc_new w _)]; rfl, by rw [cell_of_row _ _ _ _ 23 _ (heap_alloc_new w _)]; rfl⟩
    | 2, _ => exact ⟨by rw [cell_of_row _ _ _ _ 23 _ (heap_alloc_new w _)]; rfl, by rw [cell_of_row _ _ _ _ 23 _ (heap_alloc_new w _)]; rfl, by rw [cell_of_row _ _ _ _ 23 _ (heap_alloc_new w _)]; rfl⟩
  all := fun x xs u s w hx hs => allL_any x xs u s w hx hs

def lO (a : Lst) : Obj := .cells #[.int .i64 a.t, .int .i64 a.p, .int .i64 a.v] 23
set_option maxRecDepth 100000 in
set_option maxHeartbeats 4000000 in
theorem latticeL_any (a b c : Lst) (w : World) : Calls Try.prog 13 #[lA a, lA b, lA c] w fun e w' => e = .returned (.bool true) ∧ Below w.heap.size w w' := by
  have e1 : Hid (decide (joinL a b = joinL b a) = true) := decide_eq_true (joinL_comm a b)
  have e2 : Hid (decide (joinL a a = a) = true) := decide_eq_true (joinL_self a)
  have e3 : Hid (decide (joinL (joinL a b) c = joinL a (joinL b c)) = true) := decide_eq_true (joinL_assoc a b c)
  have e4 : Hid (decide ([b, c].foldl joinL a = [a, b, a].foldl joinL c) = true) := decide_eq_true (four_of joinL_comm joinL_assoc joinL_self a b c)
  have HB : Hid (Below w.heap.size w (((w.alloc (lO a)).alloc (lO b)).alloc (lO c))) := belA (belA (belA (Below.refl _ _) _) _) _
  have HC0 : Hid ((((w.alloc (lO a)).alloc (lO b)).alloc (lO c)).heap[w.heap.size]? = some (lO a)) := blkA (blkA (heap_alloc_new w _))
  have HC1 : Hid ((((w.alloc (lO a)).alloc (lO b)).alloc (lO c)).heap[w.heap.size + 1]? = some (lO b)) := blkA (by simpa using heap_alloc_new (w.alloc (lO a)) (lO b))
  have HC2 : Hid ((((w.alloc (lO a)).alloc (lO b)).alloc (lO c)).heap[w.heap.size + 1 + 1]? = some (lO c)) := by
    have := heap_alloc_new ((w.alloc (lO a)).alloc (lO b)) (lO c)
    simp only [World.size_alloc] at this
    exact this
  unfold lA
  unfold lO at HB HC0 HC1 HC2
  go_enter Try.func13, Try.ntmps13
  go_upto_region 1 with fail
  generalize ((w.alloc _).alloc _).alloc _ = W at HB HC0 HC1 HC2 ⊢
  have hld : ∀ (g : Nat) (X : Lst), W.heap[g]? = some (.cells #[.int .i64 X.t, .int .i64 X.p, .int .i64 X.v] 23) → ∀ w', Below W.heap.size W w' → ∃ u, (Instr.loadAt 23 (.pointer (some ⟨g, 0, none⟩))).run Try.prog w' = .ok u w' ∧ RepL X u w' := fun g X hb w' hw' => by
    obtain ⟨x0, x1, x2, _⟩ := blk3 (blkB hb hw' (Array.getElem?_eq_some_iff.1 hb).1)
    refine ⟨lA X, ?_, rfl⟩
    simp only [Instr.loadAt, Instr.sureAddr, Sem.run_bind, Sem.run_pure, Result.andThen_ok, loadL x0 x1 x2]
  refine lat_region RepL RepLS joinL (fun a b => decide (a = b)) latOkL e1.out e2.out e3.out e4.out (by kernel_rfl) w.heap.size (w.heap.size + 1) (w.heap.size + 1 + 1) W (hld _ a HC0.out) (hld _ b HC1.out) (hld _ c HC2.out) _ rfl rfl rfl rfl (fun a' w' hb hd ht => ?_)
  go_wp2
  refine bodyPost_ret (results_tmp rfl a'.tmps _ w') hd ⟨?_, belJ HB.out hb⟩
  rw [ht]
end Go.Proofs.Ythphoiadhddggaa
