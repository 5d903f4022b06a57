/-
  The statement GenTapes: walked.
-/
import Derived.Test.YtfpphckhjbgbhaaTdW
import Derived.Test.YtfpphckhjbgbhaaUsW
import Derived.Deep.RegionHeld3
namespace Go.Proofs.Ytfpphckhjbgbhaa.Gn
open Go.RowKit

theorem wpAnyH_more {P : Program} {md : Region.Mode} {ops : Array Oper} {Q : Exit → Act → World → Prop} {S S' : World → Prop} (hS : ∀ w, S' w → S w) : ∀ (fuel : Nat) (listed : Array Bool) (a : Act) (w : World), wpAnyH P md ops Q S' fuel listed a w → wpAnyH P md ops Q S fuel listed a w
  | 0, _, _, _, h => h
  | fuel + 1, _, _, _, h => ⟨h.1, fun i hi => wpOp_mono (fun a' w' h' => ⟨hS w' h'.1, wpAnyH_more hS fuel _ a' w' h'.2⟩) (h.2 i hi)⟩

/-- Two tapes alike, in blocks of their own. -/
structure TwoT (w W : World) (t : Tp) : Prop where
  bel : Below w.heap.size w W
  a : TpAt W w.heap.size w.heap.size 0 t
  b : TpAt W w.heap.size (w.heap.size + 1) 0 t
theorem TwoT.drewN {w W : World} {t : Tp} (h : TwoT w W t) (k : Nat) : TwoT w (W.drewN k) t := ⟨below_drewN h.bel k, h.a.drewN k, h.b.drewN k⟩
theorem tpAt_new {w : World} {B : Nat} {a : Option Addr} {cap : Nat} {l : List Int} {W : World} (hq : InQ w (.slice a l.length cap) l) (hb : Below w.heap.size w W) (hB : w.heap.size ≤ B)
    (c0 : W.cell? ⟨B, 0, none⟩ = some (.slice a l.length cap)) (c1 : W.cell? ⟨B, 1, none⟩ = some (.int .i64 0)) (hf : W.frozen? ⟨B, 1, none⟩ = false) : TpAt W w.heap.size B 0 ⟨l, 0⟩ := by
  obtain ⟨a', cap', e, hc, h⟩ := hq
  cases e
  refine ⟨⟨a, cap, c0, hc, h.imp id fun ⟨b, off, e, hb2, hcc⟩ => ⟨b, off, e, hb2, fun i hi => (hb.cell (p := ⟨b, off + i, none⟩) hb2).trans (hcc i hi)⟩⟩, c1, hf, hB⟩

set_option maxHeartbeats 4000000 in
set_option maxRecDepth 100000 in
theorem tapes_any (va vb : Value) (l bl : List Int) (w : World) (hl : InQ w va l) (hb : InQ w vb bl) (hbd : ∀ n ∈ bl, n < 9223372036854775808) :
    Calls Try.prog 3 #[va, vb] w fun r w' => r = .returned (.bool true) ∧ Below w.heap.size w w' := by
  have HL := hideIt hl
  obtain ⟨al, cl, rfl, hcl, hA⟩ := hl
  obtain ⟨ab, cb, rfl, hcb, hB⟩ := hb
  have HB := hideIt hB
  clear hA hB
  have HBD := hideIt hbd
  clear hbd
  by_cases h60 : (60 : Int) < (l.length : Int)
  · have d60 : decide ((60 : Int) < (l.length : Int)) = true := decide_eq_true h60
    go_enter Try.func3, Try.ntmps3
    go_wp2
    go_ret
    exact ⟨rfl, Below.refl _ _⟩
  by_cases h80 : (80 : Int) < (bl.length : Int)
  · have d60 : decide ((60 : Int) < (l.length : Int)) = false := decide_eq_false h60
    have d80 : decide ((80 : Int) < (bl.length : Int)) = true := decide_eq_true h80
    go_enter Try.func3, Try.ntmps3
    go_wp2
    go_ret
    exact ⟨rfl, Below.refl _ _⟩
  have d60 : decide ((60 : Int) < (l.length : Int)) = false := decide_eq_false h60
  have d80 : decide ((80 : Int) < (bl.length : Int)) = false := decide_eq_false h80
  have hbl : bl.length ≤ 80 := by omega
  clear h60 h80
  go_enter Try.func3, Try.ntmps3
  go_wp2
  go_loopw [7] (fun i wr => ∃ (k : Nat) (t : Tp), k ≤ bl.length ∧ i = .int .i64 k ∧ t.l = l ∧ t.u ≤ k ∧ TwoT w wr t) (fun i _ => bl.length - (intOf i).toNat)
  case atStart =>
    refine ⟨0, ⟨l, 0⟩, Nat.zero_le _, rfl, rfl, Nat.le_refl _, below_alloc (below_alloc (Below.refl _ _) _) _, ?_, ?_⟩
    · exact tpAt_new HL.out (below_alloc (below_alloc (Below.refl _ _) _) _) (Nat.le_refl _) (by simp [go_sem]) (by simp [go_sem]) (by simp [go_sem])
    · exact tpAt_new HL.out (below_alloc (below_alloc (Below.refl _ _) _) _) (by omega) (by simp [go_sem]) (by simp [go_sem]) (by simp [go_sem])
  case round =>
    obtain ⟨k, t, hk, rfl, htl, htu, hT⟩ := hrel
    have HT := hideIt hT
    have hlo := hT.bel.size
    clear hT
    by_cases hlt : k < bl.length
    · have hki : (k : Int) < (bl.length : Int) := by omega
      rcases HB.out with h0 | ⟨b, o, rfl, hbz, hcell⟩
      · rw [h0] at hlt; exact absurd hlt (Nat.not_lt_zero _)
      have HC := hideIt (hcell k hlt)
      have hn := HBD.out _ (List.getElem_mem hlt)
      clear hcell
      generalize bl[k] = x at *
      have HA1 := hideIt (fun W (h : TpAt W w.heap.size w.heap.size 0 t) => tBelow_any w.heap.size w.heap.size 0 x t W h (by omega) hn)
      have HA2 := hideIt (fun W (h : TpAt W w.heap.size (w.heap.size + 1) 0 t) => dBelow_any w.heap.size (w.heap.size + 1) 0 x t W h (by omega) hn)
      clear hn
      go_wp2_with fail
      refine wp_region_held_drew (S := fun W => Below w.heap.size w W) (by kernel_rfl) (below_drewN HT.out.bel 1) (fun hHeld => ?_)
      refine wpAnyH_take (i := 0) (v := ?_) rfl (by kernel_rfl) (by kernel_rfl) (by kernel_rfl) (fun _ _ _ h => h) (Or.inl ⟨by rfl, ?_⟩) (by assumption) ?_
      rotate_left 1
      · intro wz hwz
        go_simp
        all_goals with_reducible rfl
      simp only [Act.put, List.setIfInBounds_toArray, List.set_cons_zero, List.set_cons_succ, List.getElem_toArray, List.getElem_cons_zero]
      refine wpAnyH_take (i := 1) (v := ?_) rfl (by kernel_rfl) (by kernel_rfl) (by kernel_rfl) (fun _ _ _ h => h) (Or.inl ⟨by rfl, ?_⟩) (by assumption) ?_
      rotate_left 1
      · intro wz hwz
        go_simp
        all_goals with_reducible rfl
      simp only [Act.put, List.setIfInBounds_toArray, List.set_cons_zero, List.set_cons_succ, List.getElem_toArray, List.getElem_cons_zero, List.getElem_cons_succ]
      refine wpAnyH_take (i := 2) (v := ?_) rfl (by kernel_rfl) (by kernel_rfl) (by kernel_rfl) (fun _ _ _ h => h) (Or.inl ⟨by rfl, ?_⟩) (by assumption) ?_
      rotate_left 1
      · intro wz hwz
        go_simp
        all_goals with_reducible rfl
      simp only [Act.put, List.setIfInBounds_toArray, List.set_cons_zero, List.set_cons_succ, List.getElem_toArray, List.getElem_cons_zero, List.getElem_cons_succ]
      refine wpAnyH_take (i := 3) (v := ?_) rfl (by kernel_rfl) (by kernel_rfl) (by kernel_rfl) (fun _ _ _ h => h) (Or.inl ⟨by rfl, ?_⟩) (by assumption) ?_
      rotate_left 1
      · intro wz hwz
        go_simp
        all_goals with_reducible rfl
      simp only [Act.put, List.setIfInBounds_toArray, List.set_cons_zero, List.set_cons_succ, List.getElem_toArray, List.getElem_cons_zero, List.getElem_cons_succ]
      refine wpAnyH_take (i := 4) (v := ?_) rfl (by kernel_rfl) (by kernel_rfl) (by kernel_rfl) (fun _ _ _ h => h) (Or.inl ⟨by rfl, ?_⟩) (by assumption) ?_
      rotate_left 1
      · intro wz hwz
        have hcx := (hwz.cell (p := ⟨b, o + k, none⟩) hbz).trans HC.out
        go_simp
        all_goals with_reducible rfl
      simp only [Act.put, List.setIfInBounds_toArray, List.set_cons_zero, List.set_cons_succ, List.getElem_toArray, List.getElem_cons_zero, List.getElem_cons_succ]
      refine wpAnyH_take (i := 6) (v := ?_) rfl (by kernel_rfl) (by kernel_rfl) (by kernel_rfl) (fun _ _ _ h => h) (Or.inl ⟨by rfl, ?_⟩) (by assumption) ?_
      rotate_left 1
      · intro wz hwz
        go_simp
        all_goals with_reducible rfl
      simp only [Act.put, List.setIfInBounds_toArray, List.set_cons_zero, List.set_cons_succ, List.getElem_toArray, List.getElem_cons_zero, List.getElem_cons_succ]
      refine wpAnyH_take (i := 7) (v := ?_) rfl (by kernel_rfl) (by kernel_rfl) (by kernel_rfl) (fun _ _ _ h => h) (Or.inl ⟨by rfl, ?_⟩) (by assumption) ?_
      rotate_left 1
      · intro wz hwz
        go_simp
        all_goals with_reducible rfl
      simp only [Act.put, List.setIfInBounds_toArray, List.set_cons_zero, List.set_cons_succ, List.getElem_toArray, List.getElem_cons_zero, List.getElem_cons_succ]
      refine wpAnyH_take (i := 8) (v := ?_) rfl (by kernel_rfl) (by kernel_rfl) (by kernel_rfl) (fun _ _ _ h => h) (Or.inl ⟨by rfl, ?_⟩) (by assumption) ?_
      rotate_left 1
      · intro wz hwz
        go_simp
        all_goals with_reducible rfl
      simp only [Act.put, List.setIfInBounds_toArray, List.set_cons_zero, List.set_cons_succ, List.getElem_toArray, List.getElem_cons_zero, List.getElem_cons_succ]
      refine wpAnyH_take (i := 9) (v := ?_) rfl (by kernel_rfl) (by kernel_rfl) (by kernel_rfl) (fun _ _ _ h => h) (Or.inl ⟨by rfl, ?_⟩) (by assumption) ?_
      rotate_left 1
      · intro wz hwz
        go_simp
        all_goals with_reducible rfl
      simp only [Act.put, List.setIfInBounds_toArray, List.set_cons_zero, List.set_cons_succ, List.getElem_toArray, List.getElem_cons_zero, List.getElem_cons_succ]
      refine wpAnyH_take (i := 10) (v := ?_) rfl (by kernel_rfl) (by kernel_rfl) (by kernel_rfl) (fun _ _ _ h => h) (Or.inl ⟨by rfl, ?_⟩) (by assumption) ?_
      rotate_left 1
      · intro wz hwz
        have hcx := (hwz.cell (p := ⟨b, o + k, none⟩) hbz).trans HC.out
        go_simp
        all_goals with_reducible rfl
      simp only [Act.put, List.setIfInBounds_toArray, List.set_cons_zero, List.set_cons_succ, List.getElem_toArray, List.getElem_cons_zero, List.getElem_cons_succ]
      refine wpAnyH_ready (rs := [5]) (by kernel_rfl) (by simp) (AllReadyH.cons rfl (fun K hK => ?_) AllReadyH.nil)
      go_simp
      refine (HA1.out _ (HT.out.a.drewN 1)).mono ?_
      rintro y w1 ⟨rfl, n1, rfl⟩
      have HA := hideIt ((HT.out.a.drewN 1).turn x n1)
      have HD := hideIt ((HT.out.b.drewN 1).other (grown_turn _ w.heap.size 0 t x n1) (fun b e => by cases e; exact ⟨by omega, Nat.le_refl _⟩))
      have HZ := hideIt (below_grown (below_drewN HT.out.bel 1) (grown_turn _ w.heap.size 0 t x n1) (Nat.le_refl _))
      generalize tpTurn _ w.heap.size 0 t x = W1 at *
      refine hK.out _ _ ?_ (fun hHeld => ?_)
      · exact HZ.out
      clear hK K
      refine wpAnyH_ready (rs := [11]) (by kernel_rfl) (by simp) (AllReadyH.cons rfl (fun K hK => ?_) AllReadyH.nil)
      go_simp
      refine (HA2.out _ HD.out).mono ?_
      rintro y w2 ⟨rfl, n2, rfl⟩
      have HD2 := hideIt (HD.out.turn x n2)
      have HA3 := hideIt (HA.out.other (grown_turn _ (w.heap.size + 1) 0 t x n2) (fun b e => by cases e; exact ⟨by omega, by omega⟩))
      have HZ2 := hideIt (below_grown HZ.out (grown_turn _ (w.heap.size + 1) 0 t x n2) (by omega))
      clear HA HD
      refine hK.out _ _ ?_ (fun hHeld => ?_)
      · exact HZ2.out
      clear hK K
      have hHeld2 : Below w.heap.size w (tpTurn (W1.drewN n2) (w.heap.size + 1) 0 t x) ∧ (tpTurn (W1.drewN n2) (w.heap.size + 1) 0 t x).cell? ⟨w.heap.size + 1, 0 + 1, none⟩ = some (.int .i64 (t.on x).u) := ⟨HZ2.out, HD2.out.used⟩
      generalize tpTurn _ (w.heap.size + 1) 0 t x = W2 at *
      have hon : (t.on x).u ≤ k + 1 := by
        unfold Tp.on; split
        · omega
        · exact Nat.succ_le_succ htu
      have honl : (t.on x).l = l := by rw [Tp.on_l]; exact htl
      refine wpAnyH_more (S' := fun W => Below w.heap.size w W ∧ W.cell? ⟨w.heap.size + 1, 0 + 1, none⟩ = some (.int .i64 (t.on x).u)) (fun W h => h.1) _ _ _ _ ?_
      generalize t.on x = t' at *
      generalize t.below x = y at *
      refine wpAnyH_take (i := 12) (v := ?_) rfl (by kernel_rfl) (by kernel_rfl) (by kernel_rfl) (fun _ _ _ h => h) (Or.inl ⟨by rfl, ?_⟩) (by assumption) ?_
      rotate_left 1
      · intro wz hwz
        go_simp
        all_goals with_reducible rfl
      simp only [Act.put, List.setIfInBounds_toArray, List.set_cons_zero, List.set_cons_succ, List.getElem_toArray, List.getElem_cons_zero, List.getElem_cons_succ]
      refine wpAnyH_take (i := 13) (v := ?_) rfl (by kernel_rfl) (by kernel_rfl) (by kernel_rfl) (fun _ _ _ h => h) (Or.inl ⟨by rfl, ?_⟩) (by assumption) ?_
      rotate_left 1
      · intro wz hwz
        go_simp
        all_goals with_reducible rfl
      simp only [Act.put, List.setIfInBounds_toArray, List.set_cons_zero, List.set_cons_succ, List.getElem_toArray, List.getElem_cons_zero, List.getElem_cons_succ]
      refine wpAnyH_take (i := 14) (v := ?_) rfl (by kernel_rfl) (by kernel_rfl) (by kernel_rfl) (fun _ _ _ h => h) (Or.inl ⟨by rfl, ?_⟩) (by assumption) ?_
      rotate_left 1
      · intro wz hwz
        go_simp
        all_goals with_reducible rfl
      simp only [Act.put, List.setIfInBounds_toArray, List.set_cons_zero, List.set_cons_succ, List.getElem_toArray, List.getElem_cons_zero, List.getElem_cons_succ]
      refine wpAnyH_take (i := 16) (v := ?_) rfl (by kernel_rfl) (by kernel_rfl) (by kernel_rfl) (fun _ _ _ h => h) (Or.inl ⟨by rfl, ?_⟩) (by assumption) ?_
      rotate_left 1
      · intro wz hwz
        go_simp
        all_goals with_reducible rfl
      simp only [Act.put, List.setIfInBounds_toArray, List.set_cons_zero, List.set_cons_succ, List.getElem_toArray, List.getElem_cons_zero, List.getElem_cons_succ]
      refine wpAnyH_take (i := 17) (v := ?_) rfl (by kernel_rfl) (by kernel_rfl) (by kernel_rfl) (fun _ _ _ h => h) (Or.inl ⟨by rfl, ?_⟩) (by assumption) ?_
      rotate_left 1
      · intro wz hwz
        go_simp
        all_goals with_reducible rfl
      simp only [Act.put, List.setIfInBounds_toArray, List.set_cons_zero, List.set_cons_succ, List.getElem_toArray, List.getElem_cons_zero, List.getElem_cons_succ]
      refine wpAnyH_take (i := 18) (v := ?_) rfl (by kernel_rfl) (by kernel_rfl) (by kernel_rfl) (fun _ _ _ h => h) (Or.inl ⟨by rfl, ?_⟩) (by assumption) ?_
      rotate_left 1
      · intro wz hwz
        go_simp
        all_goals with_reducible rfl
      simp only [Act.put, List.setIfInBounds_toArray, List.set_cons_zero, List.set_cons_succ, List.getElem_toArray, List.getElem_cons_zero, List.getElem_cons_succ]
      refine wpAnyH_take (i := 19) (v := ?_) rfl (by kernel_rfl) (by kernel_rfl) (by kernel_rfl) (fun _ _ _ h => h) (Or.inl ⟨by rfl, ?_⟩) (by assumption) ?_
      rotate_left 1
      · intro wz hwz
        have hcu := hwz.2
        go_simp
        all_goals with_reducible rfl
      simp only [Act.put, List.setIfInBounds_toArray, List.set_cons_zero, List.set_cons_succ, List.getElem_toArray, List.getElem_cons_zero, List.getElem_cons_succ]
      refine wpAnyH_ready (rs := [15]) (by kernel_rfl) (by simp) (AllReadyH.cons rfl (fun K hK => ?_) AllReadyH.nil)
      go_simp
      refine (used_any _ _ _ _ _ HA3.out).mono ?_
      rintro y w3 ⟨rfl, rfl⟩
      refine hK.out _ _ ?_ (fun hHeld => ?_)
      · exact hHeld2
      clear hK K
      refine wpAnyH_take (i := 20) (v := ?_) rfl (by kernel_rfl) (by kernel_rfl) (by kernel_rfl) (fun _ _ _ h => h) (Or.inl ⟨by rfl, ?_⟩) (by assumption) ?_
      rotate_left 1
      · intro wz hwz
        go_simp
        all_goals with_reducible rfl
      simp only [Act.put, List.setIfInBounds_toArray, List.set_cons_zero, List.set_cons_succ, List.getElem_toArray, List.getElem_cons_zero, List.getElem_cons_succ]
      refine wpAnyH_take (i := 21) (v := ?_) rfl (by kernel_rfl) (by kernel_rfl) (by kernel_rfl) (fun _ _ _ h => h) (Or.inl ⟨by rfl, ?_⟩) (by assumption) ?_
      rotate_left 1
      · intro wz hwz
        go_simp
        all_goals with_reducible rfl
      simp only [Act.put, List.setIfInBounds_toArray, List.set_cons_zero, List.set_cons_succ, List.getElem_toArray, List.getElem_cons_zero, List.getElem_cons_succ]
      refine wpAnyH_done (by kernel_rfl) ?_ _
      go_wp2
      go_roundw
      case rel => exact ⟨k + 1, t', by omega, by go_num, honl, hon, HZ2.out, HA3.out, HD2.out⟩
      case measure => simp [intOf]; omega
    · have hki : ¬ (k : Int) < (bl.length : Int) := by omega
      go_wp2
      go_ret
      exact ⟨rfl, HT.out.bel⟩
end Go.Proofs.Ytfpphckhjbgbhaa.Gn
