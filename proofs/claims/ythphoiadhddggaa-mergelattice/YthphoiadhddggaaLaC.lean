/-
  The statements' own word 'lattice' at Count, walked.
-/
import Derived.Test.YthphoiadhddggaaAlC
namespace Go.Proofs.Ythphoiadhddggaa
open Go.RowKit

theorem joinC_comm (c d : Nat → Int) : joinC c d = joinC d c := by
  funext i
  unfold joinC
  split <;> split <;> omega
theorem joinC_self (c : Nat → Int) : joinC c c = c := by
  funext i
  unfold joinC
  split <;> rfl
theorem joinC_assoc (a b c : Nat → Int) : joinC (joinC a b) c = joinC a (joinC b c) := by
  funext i
  unfold joinC
  by_cases h1 : a i < b i <;> by_cases h2 : b i < c i <;> by_cases h3 : a i < c i <;> simp [h1, h2, h3] <;> omega
theorem eqN_of {n : Nat} {c d : Nat → Int} (h : c = d) : eqN n c d = true := by rw [eqN_iff, h]; exact fun _ _ => rfl
theorem buildC2 (a b : Nat → Int) (w : World) : (Instr.buildSlice 71 2 #[(0, nA 14 a), (1, nA 14 b)]).run Try.prog w = .ok (.slice (some ⟨w.heap.size, 0, none⟩) 2 2) (w.alloc (.cells (nL 14 a ++ nL 14 b).toArray 33)) := by kernel_rfl
theorem buildC3 (a b c : Nat → Int) (w : World) : (Instr.buildSlice 71 3 #[(0, nA 14 a), (1, nA 14 b), (2, nA 14 c)]).run Try.prog w = .ok (.slice (some ⟨w.heap.size, 0, none⟩) 3 3) (w.alloc (.cells (nL 14 a ++ (nL 14 b ++ nL 14 c)).toArray 33)) := by kernel_rfl
theorem range_of (w : World) (pre cs post : List Value) (o : Nat) (ho : pre.length = o) : (w.alloc (.cells (pre ++ (cs ++ post)).toArray 33)).rangeAt w.heap.size o cs := fun j v hv => by
  rw [cell_of_row _ _ _ _ 33 _ (heap_alloc_new w _), List.getElem?_toArray, List.getElem?_append_right (by omega), show o + j - pre.length = j by omega, List.getElem?_append_left (List.getElem?_eq_some_iff.1 hv).1]
  exact hv
theorem latOkC : LatOk RepC RepCS joinC (eqN 14) Try.prog 33 71 25 27 28 where
  stab := fun _ _ _ _ h _ => h
  stabS := fun _ _ _ _ h hb => h.bel hb
  mJ := fun _ _ _ => by kernel_rfl
  mS := fun _ _ _ => by kernel_rfl
  cA := fun _ _ => by kernel_rfl
  mkI := fun _ _ => by kernel_rfl
  join := fun x y u v w hx hy => by
    obtain rfl : u = nA 14 x := hx
    obtain rfl : v = nA 14 y := hy
    exact (joinC_any x y w).mono fun e w' ⟨he, hb⟩ => ⟨_, he, rfl, hb⟩
  same := fun x y u v w hx hy => by
    obtain rfl : u = nA 14 x := hx
    obtain rfl : v = nA 14 y := hy
    exact sameC_any x y w
  b2 := fun x y u v w hx hy => by
    obtain rfl : u = nA 14 x := hx
    obtain rfl : v = nA 14 y := hy
    refine ⟨_, _, buildC2 x y w, ⟨w.heap.size, rfl, by simp, by simp, fun i hi => ?_⟩, belA (Below.refl _ w) _⟩
    match i, hi with
    | 0, _ => exact range_of w [] (nL 14 x) (nL 14 y) 0 rfl
    | 1, _ => simpa using range_of w (nL 14 x) (nL 14 y) [] 14 (nL_len 14 x)
  b3 := fun x y z u v t w hx hy hz => by
    obtain rfl : u = nA 14 x := hx
    obtain rfl : v = nA 14 y := hy
    obtain rfl : t = nA 14 z := hz
    refine ⟨_, _, buildC3 x y z w, ⟨w.heap.size, rfl, by simp, by simp, fun i hi => ?_⟩, belA (Below.refl _ w) _⟩
    match i, hi with
    | 0, _ => exact range_of w [] (nL 14 x) (nL 14 y ++ nL 14 z) 0 rfl
    | 1, _ => exact range_of w (nL 14 x) (nL 14 y) (nL 14 z) 14 (nL_len 14 x)
    | 2, _ => simpa using range_of w (nL 14 x ++ nL 14 y) (nL 14 z) [] 28 (by rw [List.length_append, nL_len, nL_len])
  all := fun x xs u s w hx hs => allC_any x xs u s w hx hs

set_option maxRecDepth 100000 in
set_option maxHeartbeats 4000000 in
theorem latticeC_any (a b c : Nat → Int) (w : World) : Calls Try.prog 11 #[nA 14 a, nA 14 b, nA 14 c] w fun e w' => e = .returned (.bool true) ∧ Below w.heap.size w w' := by
  have e1 : Hid (eqN 14 (joinC a b) (joinC b a) = true) := eqN_of (joinC_comm a b)
  have e2 : Hid (eqN 14 (joinC a a) a = true) := eqN_of (joinC_self a)
  have e3 : Hid (eqN 14 (joinC (joinC a b) c) (joinC a (joinC b c)) = true) := eqN_of (joinC_assoc a b c)
  have e4 : Hid (eqN 14 ([b, c].foldl joinC a) ([a, b, a].foldl joinC c) = true) := eqN_of (four_of joinC_comm joinC_assoc joinC_self a b c)
  have HB : Hid (Below w.heap.size w (((w.alloc (.cells (nL 14 a).toArray 33)).alloc (.cells (nL 14 b).toArray 33)).alloc (.cells (nL 14 c).toArray 33))) := belA (belA (belA (Below.refl _ _) _) _) _
  have HC0 : Hid (NumB (((w.alloc (.cells (nL 14 a).toArray 33)).alloc (.cells (nL 14 b).toArray 33)).alloc (.cells (nL 14 c).toArray 33)) w.heap.size 14 a) := ((numB_new w 14 a 33).alloc _).alloc _
  have HC1 : Hid (NumB (((w.alloc (.cells (nL 14 a).toArray 33)).alloc (.cells (nL 14 b).toArray 33)).alloc (.cells (nL 14 c).toArray 33)) (w.heap.size + 1) 14 b) := by
    have := (numB_new (w.alloc (.cells (nL 14 a).toArray 33)) 14 b 33).alloc (.cells (nL 14 c).toArray 33)
    rw [World.size_alloc] at this
    exact this
  have HC2 : Hid (NumB (((w.alloc (.cells (nL 14 a).toArray 33)).alloc (.cells (nL 14 b).toArray 33)).alloc (.cells (nL 14 c).toArray 33)) (w.heap.size + 1 + 1) 14 c) := by
    have := numB_new ((w.alloc (.cells (nL 14 a).toArray 33)).alloc (.cells (nL 14 b).toArray 33)) 14 c 33
    rw [World.size_alloc, World.size_alloc] at this
    exact this
  unfold nA
  go_enter Try.func11, Try.ntmps11
  go_upto_region 1 with fail
  generalize ((w.alloc _).alloc _).alloc _ = W at HB HC0 HC1 HC2 ⊢
  have hld : ∀ (g : Nat) (X : Nat → Int), NumB W g 14 X → ∀ w', Below W.heap.size W w' → ∃ u, (Instr.loadAt 33 (.pointer (some ⟨g, 0, none⟩))).run Try.prog w' = .ok u w' ∧ RepC X u w' := fun g X hb w' hw' =>
    ⟨nA 14 X, run_loadAt_mid w' g 0 33 (nL 14 X) _ (hb.below hw' hb.lt).range Try.underlying33 rfl (hi33 X), rfl⟩
  refine lat_region RepC RepCS joinC (eqN 14) latOkC e1.out e2.out e3.out e4.out (by kernel_rfl) w.heap.size (w.heap.size + 1) (w.heap.size + 1 + 1) W (hld _ a HC0.out) (hld _ b HC1.out) (hld _ c HC2.out) _ rfl rfl rfl rfl (fun a' w' hb hd ht => ?_)
  go_wp2
  refine bodyPost_ret (results_tmp rfl a'.tmps _ w') hd ⟨?_, belJ HB.out hb⟩
  rw [ht]
end Go.Proofs.Ythphoiadhddggaa
