/-
  merge.All at Count, walked; the statements' own word 'lattice' at Count.
-/
import Derived.Test.YthphoiadhddggaaCtY
import Derived.Test.YthphoiadhddggaaLaL
namespace Go.Proofs.Ythphoiadhddggaa
open Go.RowKit

def RepC (c : Nat → Int) (v : Value) (_ : World) : Prop := v = nA 14 c
def RepCS (xs : List (Nat → Int)) (v : Value) (w : World) : Prop :=
  ∃ b, v = .slice (some ⟨b, 0, none⟩) xs.length xs.length ∧ xs.length ≤ 1000 ∧ b < w.heap.size ∧ ∀ i (h : i < xs.length), w.rangeAt b (i * 14) (nL 14 xs[i])
theorem RepCS.bel {xs : List (Nat → Int)} {v : Value} {w w' : World} (h : RepCS xs v w) (hb : Below w.heap.size w w') : RepCS xs v w' := by
  obtain ⟨b, h1, h2, h3, h4⟩ := h
  exact ⟨b, h1, h2, Nat.lt_of_lt_of_le h3 hb.size, fun i hi j v hv => (hb.cell (p := ⟨b, i * 14 + j, none⟩) h3).trans (h4 i hi j v hv)⟩
theorem hi33 (c : Nat → Int) : (Try.prog.info? 33).map (·.size) = some (nL 14 c).length := by rw [nL_len]; exact size33

set_option maxRecDepth 100000 in
set_option maxHeartbeats 8000000 in
theorem allC_any (a : Nat → Int) (xs : List (Nat → Int)) (u s : Value) (w : World) (hu : RepC a u w) (hs : RepCS xs s w) :
    Calls Try.prog 28 #[u, s] w fun e w' => ∃ r, e = .returned r ∧ RepC (xs.foldl joinC a) r w' ∧ Below w.heap.size w w' := by
  have HS := hideIt hs
  obtain rfl : u = nA 14 a := hu
  obtain ⟨b, rfl, hn, hb, hx⟩ := hs
  clear hx
  unfold nA
  have hmJ : ∀ (v : Value) (w : World), (method (Try.prog.types.size + 100) 33 v "Join").run Try.prog w = .ok (25, v) w := fun _ _ => by kernel_rfl
  have HV0 : Hid (NumB ((w.alloc (.cells (nL 14 a).toArray 33)).alloc (.cells (nL 14 fun _ => 0).toArray 33)) w.heap.size 14 a) := (numB_new w 14 a 33).alloc _
  have HV1 : Hid (NumB ((w.alloc (.cells (nL 14 a).toArray 33)).alloc (.cells (nL 14 fun _ => 0).toArray 33)) (w.heap.size + 1) 14 (fun _ => 0)) := by
    have := numB_new (w.alloc (.cells (nL 14 a).toArray 33)) 14 (fun _ => 0) 33
    rw [World.size_alloc] at this
    exact this
  have HB0 : Hid (Below w.heap.size w ((w.alloc (.cells (nL 14 a).toArray 33)).alloc (.cells (nL 14 fun _ => 0).toArray 33))) := belA (belA (Below.refl _ _) _) _
  have hz0 : ((w.alloc (.cells (nL 14 a).toArray 33)).alloc (.cells (nL 14 fun _ => 0).toArray 33)).heap.size = w.heap.size + 1 + 1 := by simp
  go_enter Try.func28, Try.ntmps28
  go_upto_region 1 with fail
  rw [zero33]
  generalize (w.alloc _).alloc _ = W0 at HV0 HV1 HB0 hz0 ⊢
  have hJl : w.heap.size + 1 < W0.heap.size := by omega
  clear hz0
  have HVn : Hid (NumB (W0.alloc (.cells (nL 14 fun _ => 0).toArray 33)) W0.heap.size 14 (fun _ => 0)) := numB_new W0 14 (fun _ => 0) 33
  have HVm := hideIt (HV1.out.alloc (.cells (nL 14 fun _ => 0).toArray 33))
  have HBm := hideIt (belA HB0.out (.cells (nL 14 fun _ => 0).toArray 33))
  go_upto_region 2 with (first | (refine wpList_loadN rfl 33 (.tmp 2) rfl w.heap.size 14 a rfl HV0.out _ Try.underlying33 rfl size33 ?_) | (rw [zero33]; refine wpList_storeN rfl 33 (.tmp 5) (.tmp 8) rfl W0.heap.size 14 _ a rfl rfl HVn.out size33 ?_; intro w2 hn2 hg2; go_frame))
  have HJ := hideIt hn2
  have HR : Hid (NumB w2 (w.heap.size + 1) 14 (fun _ => 0)) := HVm.out.block (hg2.block _ HVm.out.lt (fun e => by have := Option.some.inj e; omega))
  have HB2 : Hid (Below w.heap.size w w2) := HBm.out.grown hg2 HBm.out.size (fun k hk => by cases hk; omega)
  clear hn2 hg2 HVn HVm HBm HV0 HV1 HB0
  generalize W0.heap.size = J0 at *
  go_wp2
  go_loopw [11] (fun v wr => ∃ (k : Nat) (F : Nat → Int), k ≤ xs.length ∧ v = .int .i64 k ∧ F = (xs.take k).foldl joinC a ∧ NumB wr (w.heap.size + 1) 14 (fun _ => 0) ∧ NumB wr J0 14 F ∧ Below w.heap.size w wr) (fun v _ => xs.length - (intOf v).toNat)
  case atStart => exact ⟨0, a, Nat.zero_le _, rfl, rfl, HR.out, HJ.out, HB2.out⟩
  case round =>
    clear HJ HR HB2
    obtain ⟨k, F, hk, rfl, hF, hr, hj, hbe⟩ := hrel
    have HF := hideIt hF
    have HR := hideIt hr
    have HJ := hideIt hj
    have HB := hideIt hbe
    clear hF hr hj hbe
    by_cases hkn : k < xs.length
    · have hkn' : (k : Int) < xs.length := by omega
      obtain ⟨b', hb', hn', hbl, hel⟩ := HS.out.bel HB.out
      injection hb' with hb1
      injection hb1 with hb1
      injection hb1 with hb1
      subst hb1
      have HEl := hideIt (hel k hkn)
      have HTk : Hid ((xs.take (k + 1)).foldl joinC a = joinC F xs[k]) := by
        show _ = _
        rw [List.take_succ_eq_append_getElem hkn, List.foldl_append, ← HF.out]; rfl
      clear hel
      generalize xs[k] = g at *
      have HVn : Hid (NumB (wr.alloc (.cells (nL 14 fun _ => 0).toArray 33)) wr.heap.size 14 (fun _ => 0)) := numB_new wr 14 (fun _ => 0) 33
      have HRm := hideIt (HR.out.alloc (.cells (nL 14 fun _ => 0).toArray 33))
      have HJm := hideIt (HJ.out.alloc (.cells (nL 14 fun _ => 0).toArray 33))
      have HBm := hideIt (belA HB.out (.cells (nL 14 fun _ => 0).toArray 33))
      have h1l := HR.out.lt
      have h2l := HJ.out.lt
      go_upto_region 5 with (first | (refine wpList_load_mid rfl 33 (.tmp 13) rfl b (k * 14) rfl (nL 14 g) _ HEl.out Try.underlying33 rfl (hi33 g) ?_) | (rw [zero33]; refine wpList_storeN rfl 33 (.tmp 7) (.tmp 14) rfl wr.heap.size 14 _ g rfl rfl HVn.out size33 ?_; intro w2 hn2 hg2; go_frame))
      have HO2 := hideIt hn2
      have HR2 : Hid (NumB w2 (w.heap.size + 1) 14 (fun _ => 0)) := HRm.out.block (hg2.block _ HRm.out.lt (fun e => by have := Option.some.inj e; omega))
      have HJ2 : Hid (NumB w2 J0 14 F) := HJm.out.block (hg2.block _ HJm.out.lt (fun e => by have := Option.some.inj e; omega))
      have HB2 : Hid (Below w.heap.size w w2) := HBm.out.grown hg2 HBm.out.size (fun k hk => by cases hk; have := HB.out.size; omega)
      clear hn2 hg2 HVn HRm HJm HBm HEl
      go_wp2_with (first | (refine wpList_loadN rfl 33 (.tmp 5) rfl J0 14 F rfl HJ2.out _ Try.underlying33 rfl size33 ?_) | (refine wpList_loadN rfl 33 (.tmp 7) rfl wr.heap.size 14 g rfl HO2.out _ Try.underlying33 rfl size33 ?_))
      refine (joinC_any F g w2).mono fun e w3 ⟨he, hb3⟩ => ?_
      subst he
      unfold nA
      have HR3 := hideIt (HR2.out.below hb3 HR2.out.lt)
      have HJ3 := hideIt (HJ2.out.below hb3 HJ2.out.lt)
      have HB3 := hideIt (belJ HB2.out hb3)
      clear hb3
      go_wp2_with (refine wpList_storeN rfl 33 (.tmp 5) (.tmp 18) rfl J0 14 _ (joinC F g) rfl rfl HJ3.out size33 ?_; intro w4 hn4 hg4; go_frame)
      go_roundw
      case rel => exact ⟨k + 1, _, by omega, by go_num, HTk.out.symm, HR3.out.block (hg4.block _ HR3.out.lt (fun e => by have := Option.some.inj e; omega)), hn4, HB3.out.grown hg4 HB3.out.size (fun k hk => by cases hk; omega)⟩
      case measure => simp [intOf]; omega
    · have hkn' : ¬ (k : Int) < xs.length := by omega
      have HE : Hid (F = xs.foldl joinC a) := by show _ = _; rw [HF.out, List.take_of_length_le (by omega)]
      go_wp2_with (first | (refine wpList_loadN rfl 33 (.tmp 5) rfl J0 14 F rfl HJ.out _ Try.underlying33 rfl size33 ?_) | (refine wpList_storeN rfl 33 (.tmp 4) (.tmp 20) rfl (w.heap.size + 1) 14 _ F rfl rfl HR.out size33 ?_; intro w4 hn4 hg4; go_frame))
      exact bodyPost_ret (results_one rfl _ _ _ _ rfl (hn4.load Try.underlying33 rfl size33)) rfl ⟨_, rfl, by rw [HE.out]; rfl, HB.out.grown hg4 HB.out.size (fun k hk => by cases hk; omega)⟩
end Go.Proofs.Ythphoiadhddggaa
