/-
  Chapter 15, walked: isPlace, isNumber; Put.
-/
import Derived.Test.YthphoiadhddggaaDoorThY
import Derived.Deep.DeepCutAuto
import Derived.Deep.CutBlock
namespace Go.Proofs.YthphoiadhddggaaDoor
open Go.RowKit

set_option maxRecDepth 100000 in
theorem isPlace_any (p : Int) (w : World) : Calls Tryd.prog 18 #[.int .i64 p] w fun e w' => e = .returned (.bool (decide (0 ≤ p ∧ p < 7))) ∧ w' = w := by
  by_cases h1 : 0 ≤ p
  · by_cases h2 : p < 7
    · have e1 : decide (p ≥ 0) = true := decide_eq_true h1
      have e2 : decide (p < 7) = true := decide_eq_true h2
      go_enter Tryd.func18, Tryd.ntmps18
      go_wp2
      go_ret
      exact ⟨ret_bool (by simp [h1, h2]), rfl⟩
    · have e1 : decide (p ≥ 0) = true := decide_eq_true h1
      have e2 : decide (p < 7) = false := decide_eq_false h2
      go_enter Tryd.func18, Tryd.ntmps18
      go_wp2
      go_ret
      exact ⟨ret_bool (by simp), rfl⟩
  · have e1 : decide (p ≥ 0) = false := decide_eq_false h1
    go_enter Tryd.func18, Tryd.ntmps18
    go_wp2
    go_ret
    exact ⟨ret_bool (by simp), rfl⟩
set_option maxRecDepth 100000 in
theorem isNumber_any (p : Int) (w : World) : Calls Tryd.prog 19 #[.int .i64 p] w fun e w' => e = .returned (.bool (decide (-1000000 ≤ p ∧ p ≤ 1000000))) ∧ w' = w := by
  by_cases h1 : -1000000 ≤ p
  · by_cases h2 : p ≤ 1000000
    · have e1 : decide (p ≥ -1000000) = true := decide_eq_true h1
      have e2 : decide (p ≤ 1000000) = true := decide_eq_true h2
      go_enter Tryd.func19, Tryd.ntmps19
      go_wp2
      go_ret
      exact ⟨ret_bool (by simp [h1, h2]), rfl⟩
    · have e1 : decide (p ≥ -1000000) = true := decide_eq_true h1
      have e2 : decide (p ≤ 1000000) = false := decide_eq_false h2
      go_enter Tryd.func19, Tryd.ntmps19
      go_wp2
      go_ret
      exact ⟨ret_bool (by simp), rfl⟩
  · have e1 : decide (p ≥ -1000000) = false := decide_eq_false h1
    go_enter Tryd.func19, Tryd.ntmps19
    go_wp2
    go_ret
    exact ⟨ret_bool (by simp), rfl⟩

/-- What Put tells, where the place and the thing may be. -/
def PutTold (f : Th) (p t : Int) (w : World) (e : Ending) (w' : World) : Prop := ∃ M m, MaxT f p m ∧ e = .returned (.tuple #[.agg #[.map (some M)], .nilIface]) ∧ ThK w' M (putK2 f p (m + 1) ⟨t, false⟩) ∧ w.heap.size ≤ M ∧ Below w.heap.size w w'
/-- .. and where they may not. -/
def PutBad (q : Option Nat) (w : World) (e : Ending) (w' : World) : Prop := e = .returned (.tuple #[.agg #[.map q], .iface 31 (.int .i64 2)]) ∧ Below w.heap.size w w'

set_option maxRecDepth 100000 in
set_option maxHeartbeats 4000000 in
theorem put_bad (p t : Int) (q : Option Nat) (hbad : ¬ ((0 ≤ p ∧ p < 7) ∧ (-1000000 ≤ t ∧ t ≤ 1000000))) (w : World) :
    Calls Tryd.prog 10 #[.agg #[.map q], .int .i64 p, .int .i64 t] w fun e w' => PutBad q w e w' := by
  have HB := hideIt (belA (belA (Below.refl _ w) (.cells #[.map q] 38)) (.cells #[.map q] 38))
  by_cases h1 : 0 ≤ p ∧ p < 7
  · have h2 : ¬ (-1000000 ≤ t ∧ t ≤ 1000000) := fun h => hbad ⟨h1, h⟩
    have e1 := hideIt (decide_eq_true h1)
    have e2 := hideIt (decide_eq_false h2)
    clear h1 h2 hbad
    go_enter Tryd.func10, Tryd.ntmps10
    go_wp2_with fail
    refine (isPlace_any p _).mono fun e w1 ⟨he, hw⟩ => ?_
    subst he hw
    rw [e1.out]
    go_wp2_with fail
    refine (isNumber_any t _).mono fun e w1 ⟨he, hw⟩ => ?_
    subst he hw
    rw [e2.out]
    go_wp2
    exact bodyPost_ret (results_two rfl _ _ _ _ rfl (loadT (by simp))) rfl ⟨rfl, HB.out⟩
  · have e1 := hideIt (decide_eq_false h1)
    clear h1 hbad
    go_enter Tryd.func10, Tryd.ntmps10
    go_wp2_with fail
    refine (isPlace_any p _).mono fun e w1 ⟨he, hw⟩ => ?_
    subst he hw
    rw [e1.out]
    go_wp2
    exact bodyPost_ret (results_two rfl _ _ _ _ rfl (loadT (by simp))) rfl ⟨rfl, HB.out⟩

set_option maxRecDepth 100000 in
set_option maxHeartbeats 4000000 in
theorem put_any (f : Th) (hF : Few 9999 f) (p t : Int) (q : Option Nat) (h1 : 0 ≤ p ∧ p < 7) (h2 : -1000000 ≤ t ∧ t ≤ 1000000) (hb : ∀ k x, f p k = some x → k ≤ 1000000) (w : World) (hs : ThO w q f) :
    Calls Tryd.prog 10 #[.agg #[.map q], .int .i64 p, .int .i64 t] w fun e w' => PutTold f p t w e w' := by
  have HS := hideIt hs
  have HF := hideIt hF
  have HM := hideIt hs.lt
  have HBd := hideIt hb
  have HP : Hid (0 ≤ p ∧ p < 7) := h1
  have e1 := hideIt (decide_eq_true h1)
  have e2 := hideIt (decide_eq_true h2)
  have HB := hideIt (belA (belA (Below.refl _ w) (.cells #[.map q] 38)) (.cells #[.map none] 38))
  clear hs hF hb h1 h2
  go_enter Tryd.func10, Tryd.ntmps10
  go_wp2_with fail
  refine (isPlace_any p _).mono fun e w1 ⟨he, hw⟩ => ?_
  subst he hw
  rw [e1.out]
  go_wp2_with fail
  refine (isNumber_any t _).mono fun e w1 ⟨he, hw⟩ => ?_
  subst he hw
  rw [e2.out]
  go_wp2_with fail
  refine (copied_any f (HF.out.mono (by omega) fun _ _ h => h) q _ (HS.out.bel HB.out)).mono fun e w1 ⟨M, he, hm, hlo, hbe⟩ => ?_
  subst he
  simp only [World.size_alloc] at hlo hbe
  have HB1 := hideIt (HB.out.trans (hbe.mono (by omega)))
  have HBp : Hid (w1.heap[w.heap.size]? = some (.cells #[.map q] 38)) := blkB (blkA (heap_alloc_new w (.cells #[.map q] 38))) hbe (by omega)
  have HBx : Hid (w1.heap[w.heap.size + 1]? = some (.cells #[.map none] 38)) := blkB (by simpa using heap_alloc_new (w.alloc (.cells #[.map q] 38)) (.cells #[.map none] 38)) hbe (by omega)
  have HK := hideIt hm
  have hMl := hm.lt
  have HS1 := hideIt (HS.out.bel HB1.out)
  clear hm hbe HS
  go_upto_region 4 with fail
  have HX : Hid ((w1.alloc (.cells #[.map (some M)] 38)).cell? ⟨w1.heap.size, 0, none⟩ = some (.map (some M)) ∧ (w1.alloc (.cells #[.map (some M)] 38)).cell? ⟨w.heap.size, 0, none⟩ = some (.map q)) := ⟨(blk1 (heap_alloc_new w1 _)).1, (blk1 (blkA HBp.out)).1⟩
  refine wp_region_held_drew (S := (fun Z => Z.cell? ⟨w1.heap.size, 0, none⟩ = some (.map (some M)) ∧ Z.cell? ⟨w.heap.size, 0, none⟩ = some (.map q))) (by kernel_rfl) HX.out (fun hHeld => ?_)
  refine wpAnyH_take (i := 0) (v := ?_) rfl (by kernel_rfl) (by kernel_rfl) (by kernel_rfl) (fun _ _ _ h => h) (Or.inl ⟨by rfl, ?_⟩) (by assumption) ?_
  rotate_left 1
  · intro wz ⟨y0, y1⟩
    go_simp
    all_goals with_reducible rfl
  simp only [Act.put, List.setIfInBounds_toArray, List.set_cons_zero, List.set_cons_succ, List.getElem_toArray, List.getElem_cons_zero]
  refine wpAnyH_take (i := 1) (v := ?_) rfl (by kernel_rfl) (by kernel_rfl) (by kernel_rfl) (fun _ _ _ h => h) (Or.inl ⟨by rfl, ?_⟩) (by assumption) ?_
  rotate_left 1
  · intro wz ⟨y0, y1⟩
    go_simp
    all_goals with_reducible rfl
  simp only [Act.put, List.setIfInBounds_toArray, List.set_cons_zero, List.set_cons_succ, List.getElem_toArray, List.getElem_cons_zero, List.getElem_cons_succ]
  refine wpAnyH_take (i := 2) (v := ?_) rfl (by kernel_rfl) (by kernel_rfl) (by kernel_rfl) (fun _ _ _ h => h) (Or.inl ⟨by rfl, ?_⟩) (by assumption) ?_
  rotate_left 1
  · intro wz ⟨y0, y1⟩
    go_simp
    all_goals with_reducible rfl
  simp only [Act.put, List.setIfInBounds_toArray, List.set_cons_zero, List.set_cons_succ, List.getElem_toArray, List.getElem_cons_zero, List.getElem_cons_succ]
  refine wpAnyH_take (i := 3) (v := ?_) rfl (by kernel_rfl) (by kernel_rfl) (by kernel_rfl) (fun _ _ _ h => h) (Or.inl ⟨by rfl, ?_⟩) (by assumption) ?_
  rotate_left 1
  · intro wz ⟨y0, y1⟩
    go_simp
    all_goals with_reducible rfl
  simp only [Act.put, List.setIfInBounds_toArray, List.set_cons_zero, List.set_cons_succ, List.getElem_toArray, List.getElem_cons_zero, List.getElem_cons_succ]
  refine wpAnyH_take (i := 5) (v := ?_) rfl (by kernel_rfl) (by kernel_rfl) (by kernel_rfl) (fun _ _ _ h => h) (Or.inl ⟨by rfl, ?_⟩) (by assumption) ?_
  rotate_left 1
  · intro wz ⟨y0, y1⟩
    go_simp
    all_goals with_reducible rfl
  simp only [Act.put, List.setIfInBounds_toArray, List.set_cons_zero, List.set_cons_succ, List.getElem_toArray, List.getElem_cons_zero, List.getElem_cons_succ]
  refine wpAnyH_take (i := 6) (v := ?_) rfl (by kernel_rfl) (by kernel_rfl) (by kernel_rfl) (fun _ _ _ h => h) (Or.inl ⟨by rfl, ?_⟩) (by assumption) ?_
  rotate_left 1
  · intro wz ⟨y0, y1⟩
    go_simp
    all_goals with_reducible rfl
  simp only [Act.put, List.setIfInBounds_toArray, List.set_cons_zero, List.set_cons_succ, List.getElem_toArray, List.getElem_cons_zero, List.getElem_cons_succ]
  have HKa : Hid (ThK (w1.alloc (.cells #[.map (some M)] 38)).drew M f) := (HK.out.alloc _).drew
  have HSa : Hid (ThO (w1.alloc (.cells #[.map (some M)] 38)).drew q f) := HS1.out.bel ((belA (Below.refl _ w1) _).drew)
  have HBa : Hid (Below w.heap.size w (w1.alloc (.cells #[.map (some M)] 38)).drew) := (belA HB1.out _).drew
  have HCa : Hid ((w1.alloc (.cells #[.map (some M)] 38)).drew.heap[w.heap.size + 1]? = some (.cells #[.map none] 38)) := blkA HBx.out
  have hsza : (w1.alloc (.cells #[.map (some M)] 38)).drew.heap.size = w1.heap.size + 1 := by simp
  generalize (w1.alloc (.cells #[.map (some M)] 38)).drew = Y0 at hHeld HKa HSa HBa HCa hsza ⊢
  refine wpAnyH_ready (rs := [4]) (by kernel_rfl) (by simp) (AllReadyH.cons rfl (fun K hK => ?_) AllReadyH.nil)
  go_simp
  refine (next_any f q p HBd.out Y0 HSa.out).mono fun e w2 ⟨m, hmx, he, hb2⟩ => ?_
  subst he
  have hK2 : w2.cell? ⟨w1.heap.size, 0, none⟩ = some (.map (some M)) ∧ w2.cell? ⟨w.heap.size, 0, none⟩ = some (.map q) := ⟨(hb2.cell (p := ⟨w1.heap.size, 0, none⟩) (by simp only; omega)).trans hHeld.1, (hb2.cell (p := ⟨w.heap.size, 0, none⟩) (by simp only; omega)).trans hHeld.2⟩
  have HK2 : Hid (ThK w2 M f) := HKa.out.below hb2 (by omega)
  have HB2 : Hid (Below w.heap.size w w2) := HBa.out.trans (hb2.mono (by omega))
  have HC2 : Hid (w2.heap[w.heap.size + 1]? = some (.cells #[.map none] 38)) := blkB HCa.out hb2 (by omega)
  have hsz2 := hb2.size
  have HMx := hideIt hmx
  clear hmx hb2
  go_simp
  refine hK.out _ _ hK2 (fun hHeld => ?_)
  clear hK K
  refine wpAnyH_ready (rs := [7]) (by kernel_rfl) (by simp) (AllReadyH.cons rfl (fun K hK => ?_) AllReadyH.nil)
  have hwf : Wf2 p (m + 1) := by
    have h1 := HP.out
    have h2 := HMx.out.lo
    have h3 : m ≤ 1000000 := by
      rcases HMx.out.at_ with e | ⟨x, hx⟩
      · omega
      · exact HBd.out m x hx
    have hmn : IntKind.i64.min = -9223372036854775808 := by decide
    have hmx : IntKind.i64.max = 9223372036854775807 := by decide
    constructor <;> simp [Lit.wf, hmn, hmx] <;> omega
  obtain ⟨w3, hrun, hm3, hg3, hs3⟩ := HK2.out.store pairK Tryd.underlying36 (HF.out.mono (by omega) fun _ _ h => h) hwf ⟨t, false⟩
  unfold pairV at hrun
  have hHeld3 : w3.cell? ⟨w1.heap.size, 0, none⟩ = some (.map (some M)) ∧ w3.cell? ⟨w.heap.size, 0, none⟩ = some (.map q) := ⟨(World.cell?_of_block (a := ⟨w1.heap.size, 0, none⟩) (hg3.block _ (by simp only; omega) (fun e => by have := Option.some.inj e; simp only at this; omega))).trans hHeld.1, (World.cell?_of_block (a := ⟨w.heap.size, 0, none⟩) (hg3.block _ (by simp only; omega) (fun e => by have := Option.some.inj e; simp only at this; omega))).trans hHeld.2⟩
  have HM3 := hideIt hm3
  have HB3 : Hid (Below w.heap.size w w3) := HB2.out.grown hg3 (by omega) (fun k hk => by cases hk; omega)
  have HC3 : Hid (w3.heap[w.heap.size + 1]? = some (.cells #[.map none] 38)) := (hg3.block _ (by omega) (fun e => by have := Option.some.inj e; omega)).trans HC2.out
  clear hm3 hg3 hs3
  go_simp
  refine hK.out _ _ hHeld3 (fun hHeld => ?_)
  clear hK K
  refine wpAnyH_done (by kernel_rfl) ?_ _
  obtain ⟨c1, _⟩ := hHeld3
  obtain ⟨c2, f2⟩ := blk1 HC3.out
  go_wp2
  exact bodyPost_ret (results_two rfl _ _ _ _ rfl (loadT (World.cell?_setCell_same _ _ _ c2))) rfl ⟨M, m, HMx.out, rfl, HM3.out.block (Below.heap_setCell _ _ _ _ (by simp only; omega)), by omega, HB3.out.setCell (by simp) _⟩
end Go.Proofs.YthphoiadhddggaaDoor
