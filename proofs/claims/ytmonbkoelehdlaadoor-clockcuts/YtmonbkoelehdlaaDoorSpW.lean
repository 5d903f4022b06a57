/-
  Package clock's paths: steady and below, walked.
-/
import Derived.Test.YtmonbkoelehdlaaDoorPtW
import Derived.WalkMore
namespace Go.Proofs.YtmonbkoelehdlaaDoor
open Go.RowKit

def knV (l : List Stp) (p r : Nat) : Nat → Int := fun q => (knC l (p : Int) r (q : Int) : Int)
def stdB (l : List Stp) (c : Nat → Int) : Bool := (List.range 8).all fun p => leB (knV l p (c p).toNat) c
theorem stdB_iff {l : List Stp} {c : Nat → Int} : stdB l c = true ↔ ∀ p : Nat, p < 8 → ∀ q : Nat, q < 8 → (knC l p (c p).toNat q : Int) ≤ c q := by
  unfold stdB
  rw [List.all_eq_true]
  constructor
  · intro h p hp q hq
    exact leB_iff.1 (h p (by simpa using hp)) q hq
  · intro h p hp
    exact leB_iff.2 fun q hq => h p (by simpa using hp) q hq
theorem stdB_no {l : List Stp} {c : Nat → Int} {p : Nat} (hp : p < 8) (h : leB (knV l p (c p).toNat) c = false) : stdB l c = false := by
  cases hs : stdB l c
  · rfl
  · have h2 : leB (knV l p (c p).toNat) c = true := leB_iff.2 (stdB_iff.1 hs p hp)
    rw [h2] at h
    cases h
theorem stdB_yes {l : List Stp} {c : Nat → Int} (h : ∀ p, p < 8 → leB (knV l p (c p).toNat) c = true) : stdB l c = true := stdB_iff.2 fun p hp q hq => leB_iff.1 (h p hp) q hq

set_option maxRecDepth 100000 in
set_option maxHeartbeats 4000000 in
theorem steadyP_any (l : List Stp) (A : Nat → Option Addr) (M C : Nat → Nat) (c : Nat → Int) (w : World) (h40 : l.length ≤ 40) (hkn : KnRead l w (slV A M C)) (hcut : CutOk l c) :
    Calls Tryd.prog 35 #[pthA (slV A M C), vecA c] w fun e w' => e = .returned (.bool (stdB l c)) ∧ Below w.heap.size w w' := by
  have HK0 : Hid (RoomB ((w.alloc (.cells #[slV A M C 0, slV A M C 1, slV A M C 2, slV A M C 3, slV A M C 4, slV A M C 5, slV A M C 6, slV A M C 7] 78)).alloc (vecO c 45)) w.heap.size (slV A M C)) := (roomB_new w (slV A M C) 78).below ((Below.refl _ _).alloc (Nat.le_refl _) _) (by simp)
  have HV0 : Hid (VecB ((w.alloc (.cells #[slV A M C 0, slV A M C 1, slV A M C 2, slV A M C 3, slV A M C 4, slV A M C 5, slV A M C 6, slV A M C 7] 78)).alloc (vecO c 45)) (w.heap.size + 1) c) := by
    have := vecB_new (w.alloc (.cells #[slV A M C 0, slV A M C 1, slV A M C 2, slV A M C 3, slV A M C 4, slV A M C 5, slV A M C 6, slV A M C 7] 78)) c 45
    rw [World.size_alloc] at this
    exact this
  have HB0 : Hid (Below w.heap.size w ((w.alloc (.cells #[slV A M C 0, slV A M C 1, slV A M C 2, slV A M C 3, slV A M C 4, slV A M C 5, slV A M C 6, slV A M C 7] 78)).alloc (vecO c 45))) := belA (belA (Below.refl _ _) _) _
  have HKr := hideIt (hkn.below HB0.out)
  have HCut := hideIt hcut
  have hix := idx45 c
  clear hkn hcut
  unfold vecO at HK0 HV0 HB0 HKr
  unfold slV at HK0 HV0 HB0 HKr
  unfold pthA slV
  unfold vecA at *
  go_enter Tryd.func35, Tryd.ntmps35
  go_wp2
  generalize (w.alloc _).alloc _ = W at HK0 HV0 HB0 HKr ⊢
  go_loopw [8] (fun i wr => ∃ k : Nat, k ≤ 8 ∧ i = .int .i64 k ∧ (∀ p, p < k → leB (knV l p (c p).toNat) c = true) ∧ Below W.heap.size W wr) (fun i _ => 8 - (intOf i).toNat)
  case atStart => exact ⟨0, by omega, rfl, fun q hq => absurd hq (by omega), Below.refl _ _⟩
  case round =>
    obtain ⟨k, hk, rfl, ha, hb⟩ := hrel
    have HA := hideIt ha
    have HB := hideIt hb
    clear ha hb
    by_cases hk8 : k < 8
    · have hi := hix wr k hk8
      have hkc := HCut.out k hk8
      obtain ⟨g, gc, hsl, hgc, hgl, hvv⟩ := HKr.out.below HB.out k hk8
      have hc := (HK0.out.below HB.out HK0.out.lt).at_ k hk8
      rw [show Value.slice (A k) (M k) (C k) = .slice (some ⟨g, 0, none⟩) (allC l (k : Int) + 1) gc from hsl] at hc
      obtain ⟨r, hr⟩ : ∃ r : Nat, c k = (r : Int) := ⟨(c k).toNat, by omega⟩
      have hrm : r ≤ allC l (k : Int) := by omega
      have hall := cnt_len l (fun _ => true) (k : Int)
      obtain ⟨x0, x1, x2, x3, x4, x5, x6, x7⟩ := (hvv r hrm).eight
      obtain ⟨y0, y1, y2, y3, y4, y5, y6, y7⟩ := (HV0.out.below HB.out HV0.out.lt).eight
      have HJ : Hid (∀ W', Calls Tryd.prog 42 #[vecA (knV l k r), vecA c] W' fun e w' => e = .returned (.bool (leB (knV l k r) c)) ∧ Below W'.heap.size W' w') := fun W' => within_any _ _ W'
      have HLe : Hid (leB (knV l k (c k).toNat) c = leB (knV l k r) c) := by show leB (knV l k (c k).toNat) c = _; rw [hr]; rfl
      rw [hr] at hi
      obtain ⟨m, hm⟩ : ∃ m, allC l (k : Int) = m := ⟨_, rfl⟩
      have hm40 : m ≤ 40 := by rw [← hm]; exact Nat.le_trans hall h40
      rw [hm] at hc hrm
      have hk8' : (k : Int) < 8 := by omega
      have hrm' : (r : Int) < (m : Int) + 1 := by omega
      have hrm2 : r < m + 1 := by omega
      have HNo : Hid (leB (knV l k r) c = false → stdB l c = false) := fun h => stdB_no hk8 (by rw [HLe.out]; exact h)
      have HYes : Hid (leB (knV l k r) c = true → ∀ p, p < k + 1 → leB (knV l p (c p).toNat) c = true) := fun h p hp => by
        by_cases e : p = k
        · subst e; rw [HLe.out]; exact h
        · exact HA.out p (by omega)
      unfold vecA at HJ
      generalize leB (knV l k r) c = lb at HJ HNo HYes
      unfold knV at HJ
      clear hix hsl hall hm hvv hr hkc HLe
      go_upto_region 4 with fail
      go_cut [20] (fun x wx => x = .bool (!lb) ∧ Below wr.heap.size wr wx)
      case first =>
        go_region_with (go_at_call 42; refine (HJ.out _).mono ?_; rintro e w2 ⟨rfl, hb2⟩)
        all_goals
          go_wp2
          go_meet
          exact ⟨rfl, belJ (by repeat (first | exact Below.refl _ _ | refine Below.drew ?_)) hb2⟩
      case rest =>
        obtain ⟨rfl, hbc⟩ := hcut
        cases lb
        · have R := hideIt (HNo.out rfl)
          go_wp2
          go_ret
          exact ⟨ret_bool R.out.symm, belJ HB0.out (belJ HB.out hbc)⟩
        · have R := hideIt (HYes.out rfl)
          go_wp2
          go_roundw
          case rel => exact ⟨k + 1, by omega, by go_num, R.out, belJ HB.out hbc⟩
          case measure => simp [intOf]; omega
    · have R : Hid (stdB l c = true) := stdB_yes fun p hp => HA.out p (by omega)
      go_wp2
      go_ret
      exact ⟨ret_bool R.out.symm, belJ HB0.out HB.out⟩

/-- What lies in a cell, as a number. -/
def cellN (w : World) (g q : Nat) : Nat := match w.cell? ⟨g, q, none⟩ with
  | some (.int _ i) => i.toNat
  | _ => 0
def sum8 (f : Nat → Nat) : Nat := f 0 + f 1 + f 2 + f 3 + f 4 + f 5 + f 6 + f 7
theorem cellN_at {w : World} {g : Nat} {d : Nat → Int} (h : VecB w g d) {q : Nat} (hq : q < 8) : cellN w g q = (d q).toNat := by
  unfold cellN
  rw [h.at' hq]
theorem sum8_cells {w : World} {g : Nat} {d : Nat → Int} (h : VecB w g d) : sum8 (cellN w g) = sum8 fun q => (d q).toNat := by
  unfold sum8
  rw [cellN_at h (by omega), cellN_at h (by omega), cellN_at h (by omega), cellN_at h (by omega), cellN_at h (by omega), cellN_at h (by omega), cellN_at h (by omega), cellN_at h (by omega)]
theorem sum8_less {f g : Nat → Nat} {p : Nat} (hp : p < 8) (h1 : ∀ q, q < 8 → q ≠ p → f q = g q) (h2 : f p < g p) : sum8 f < sum8 g := by
  unfold sum8
  have h : ∀ q, q < 8 → f q ≤ g q := fun q hq => by
    by_cases e : q = p
    · subst e; omega
    · rw [h1 q hq e]; exact Nat.le_refl _
  have a0 := h 0 (by omega)
  have a1 := h 1 (by omega)
  have a2 := h 2 (by omega)
  have a3 := h 3 (by omega)
  have a4 := h 4 (by omega)
  have a5 := h 5 (by omega)
  have a6 := h 6 (by omega)
  have a7 := h 7 (by omega)
  rcases (by omega : p = 0 ∨ p = 1 ∨ p = 2 ∨ p = 3 ∨ p = 4 ∨ p = 5 ∨ p = 6 ∨ p = 7) with rfl | rfl | rfl | rfl | rfl | rfl | rfl | rfl <;> omega

set_option maxRecDepth 100000 in
set_option maxHeartbeats 4000000 in
theorem belowP_any (l : List Stp) (hp : ∀ i, i < l.length → 0 ≤ (stZ l i).p ∧ (stZ l i).p ≤ 7) (A : Nat → Option Addr) (M C : Nat → Nat) (c : Nat → Int) (w : World) (h40 : l.length ≤ 40) (hkn : KnRead l w (slV A M C)) (hcut : CutOk l c) :
    Calls Tryd.prog 37 #[pthA (slV A M C), vecA c] w fun e w' => e = .returned (vecA (belN l c)) ∧ Below w.heap.size w w' := by
  have HK0 : Hid (RoomB (((w.alloc (.cells #[slV A M C 0, slV A M C 1, slV A M C 2, slV A M C 3, slV A M C 4, slV A M C 5, slV A M C 6, slV A M C 7] 78)).alloc (vecO c 45)).alloc (vecO (fun _ => 0) 45)) w.heap.size (slV A M C)) := ((roomB_new w (slV A M C) 78).below ((Below.refl _ _).alloc (Nat.le_refl _) _) (by simp)).below ((Below.refl _ _).alloc (Nat.le_refl _) _) (by simp; omega)
  have HV0 : Hid (VecB (((w.alloc (.cells #[slV A M C 0, slV A M C 1, slV A M C 2, slV A M C 3, slV A M C 4, slV A M C 5, slV A M C 6, slV A M C 7] 78)).alloc (vecO c 45)).alloc (vecO (fun _ => 0) 45)) (w.heap.size + 1) c) := by
    have := (vecB_new (w.alloc (.cells #[slV A M C 0, slV A M C 1, slV A M C 2, slV A M C 3, slV A M C 4, slV A M C 5, slV A M C 6, slV A M C 7] 78)) c 45).alloc (vecO (fun _ => 0) 45)
    rw [World.size_alloc] at this
    exact this
  have HR0 : Hid (VecB (((w.alloc (.cells #[slV A M C 0, slV A M C 1, slV A M C 2, slV A M C 3, slV A M C 4, slV A M C 5, slV A M C 6, slV A M C 7] 78)).alloc (vecO c 45)).alloc (vecO (fun _ => 0) 45)) (w.heap.size + 1 + 1) (fun _ => 0)) := by
    have := vecB_new ((w.alloc (.cells #[slV A M C 0, slV A M C 1, slV A M C 2, slV A M C 3, slV A M C 4, slV A M C 5, slV A M C 6, slV A M C 7] 78)).alloc (vecO c 45)) (fun _ => 0) 45
    rw [World.size_alloc, World.size_alloc] at this
    exact this
  have HB0 : Hid (Below w.heap.size w (((w.alloc (.cells #[slV A M C 0, slV A M C 1, slV A M C 2, slV A M C 3, slV A M C 4, slV A M C 5, slV A M C 6, slV A M C 7] 78)).alloc (vecO c 45)).alloc (vecO (fun _ => 0) 45))) := belA (belA (belA (Below.refl _ _) _) _) _
  have HKr := hideIt hkn
  have HCut := hideIt hcut
  have HP := hideIt hp
  clear hkn hcut hp
  unfold vecO at HK0 HV0 HB0 HR0
  unfold slV at HK0 HV0 HB0 HR0
  unfold pthA slV
  unfold vecA
  go_enter Tryd.func37, Tryd.ntmps37
  go_wp2
  generalize ((w.alloc _).alloc _).alloc _ = W at HK0 HV0 HB0 HR0 ⊢
  go_step3
  go_wp2
  go_step3
  go_wp2
  go_loopw [] (fun wr => ∃ d : Nat → Int, (∀ p, p < 8 → belN l c p ≤ d p ∧ d p ≤ c p) ∧ VecB wr (w.heap.size + 1) d ∧ VecB wr (w.heap.size + 1 + 1) (fun _ => 0) ∧ RoomB wr w.heap.size (slV A M C) ∧ Below w.heap.size w wr) (fun wr => sum8 (cellN wr (w.heap.size + 1)))
  case atStart => exact ⟨c, fun p hp => ⟨bel_le HCut.out hp, Int.le_refl _⟩, HV0.out, HR0.out, HK0.out, HB0.out⟩
  case round =>
    clear HV0 HR0 HK0 HB0
    obtain ⟨d, hd, hv, hr, hk, hb⟩ := hrel
    have HD := hideIt hd
    have HV := hideIt hv
    have HR := hideIt hr
    have HK := hideIt hk
    have HB := hideIt hb
    obtain ⟨y0, y1, y2, y3, y4, y5, y6, y7⟩ := hv.eight
    clear hd hv hr hk hb
    have hix := idx45 d
    have hmes := sum8_cells HV.out
    unfold vecA at hix
    go_wp2
    clear y0 y1 y2 y3 y4 y5 y6 y7
    go_loopw [8] (fun i wz => ∃ k : Nat, k ≤ 8 ∧ i = .int .i64 k ∧ (∀ p, p < k → leB (knV l p (d p).toNat) d = true) ∧ VecB wz (w.heap.size + 1) d ∧ VecB wz (w.heap.size + 1 + 1) (fun _ => 0) ∧ RoomB wz w.heap.size (slV A M C) ∧ Below w.heap.size w wz) (fun i _ => 8 - (intOf i).toNat)
    case atStart => exact ⟨0, by omega, rfl, fun p h => absurd h (by omega), HV.out, HR.out, HK.out, HB.out⟩
    case round =>
      clear HV HR HK HB
      obtain ⟨k, hk, rfl, ha, hv, hr, hkk, hb⟩ := hrel
      have HA := hideIt ha
      have HV := hideIt hv
      have HR := hideIt hr
      have HK := hideIt hkk
      have HB := hideIt hb
      clear ha hv hr hkk hb
      by_cases hk8 : k < 8
      · have hi := hix wr k hk8
        have hkc : 0 ≤ d k ∧ d k ≤ allC l (k : Int) := ⟨Int.le_trans (bel_ok c k hk8).1 (HD.out k hk8).1, Int.le_trans (HD.out k hk8).2 (HCut.out k hk8).2⟩
        obtain ⟨g, gc, hsl, hgc, hgl, hvv⟩ := HKr.out.below HB.out k hk8
        have hc := HK.out.at_ k hk8
        rw [hsl] at hc
        obtain ⟨r, hr⟩ : ∃ r : Nat, d k = (r : Int) := ⟨(d k).toNat, by omega⟩
        have hrm : r ≤ allC l (k : Int) := by omega
        have hall := cnt_len l (fun _ => true) (k : Int)
        obtain ⟨x0, x1, x2, x3, x4, x5, x6, x7⟩ := (hvv r hrm).eight
        obtain ⟨y0, y1, y2, y3, y4, y5, y6, y7⟩ := HV.out.eight
        have HJ : Hid (∀ W', Calls Tryd.prog 42 #[vecA (knV l k r), vecA d] W' fun e w' => e = .returned (.bool (leB (knV l k r) d)) ∧ Below W'.heap.size W' w') := fun W' => within_any _ _ W'
        have HLe : Hid (leB (knV l k (d k).toNat) d = leB (knV l k r) d) := by show leB (knV l k (d k).toNat) d = _; rw [hr]; rfl
        rw [hr] at hi
        have HRr := hideIt hr
        obtain ⟨m, hm⟩ : ∃ m, allC l (k : Int) = m := ⟨_, rfl⟩
        have hm40 : m ≤ 40 := by rw [← hm]; exact Nat.le_trans hall h40
        rw [hm] at hc hrm
        have hk8' : (k : Int) < 8 := by omega
        have hrm' : (r : Int) < (m : Int) + 1 := by omega
        have hrm2 : r < m + 1 := by omega
        have HNo : Hid (leB (knV l k r) d = false → belN l c k ≤ d k - 1) := fun h => by
          have hex : ∃ q, q < 8 ∧ ¬ knV l k r q ≤ d q := Classical.byContradiction fun hno => by
            have : leB (knV l k r) d = true := leB_iff.2 fun q hq => Classical.byContradiction fun h2 => hno ⟨q, hq, h2⟩
            rw [this] at h; cases h
          obtain ⟨q, hq, hlt⟩ := hex
          refine bel_out HP.out (fun p hp => (HD.out p hp).1) hk8 hq ?_
          rw [HRr.out]
          show d q < knV l k (r : Int).toNat q
          rw [Int.toNat_natCast]
          omega
        have HYes : Hid (leB (knV l k r) d = true → ∀ p, p < k + 1 → leB (knV l p (d p).toNat) d = true) := fun h p hp => by
          by_cases e : p = k
          · subst e; rw [HLe.out]; exact h
          · exact HA.out p (by omega)
        unfold vecA at HJ
        generalize leB (knV l k r) d = lb at HJ HNo HYes
        unfold knV at HJ
        clear hix hsl hall hm hvv hr hkc HLe
        go_upto_region 4 with fail
        go_cut [20] (fun x wx => x = .bool (!lb) ∧ Below wr.heap.size wr wx)
        case first =>
          go_region_with (go_at_call 42; refine (HJ.out _).mono ?_; rintro e w2 ⟨rfl, hb2⟩)
          all_goals
            go_wp2
            go_meet
            exact ⟨rfl, belJ (by repeat (first | exact Below.refl _ _ | refine Below.drew ?_)) hb2⟩
        case rest =>
          obtain ⟨rfl, hbc⟩ := hcut
          have HVc := hideIt (HV.out.below hbc HV.out.lt)
          have HRc := hideIt (HR.out.below hbc HR.out.lt)
          have HKc := hideIt (HK.out.below hbc HK.out.lt)
          have HBc := hideIt (belJ HB.out hbc)
          clear x0 x1 x2 x3 x4 x5 x6 x7 y0 y1 y2 y3 y4 y5 y6 y7 hbc hc
          cases lb
          · have hno := HNo.out rfl
            have h0 := (bel_ok (l := l) c k hk8).1
            have c0 := HVc.out.at' hk8
            have z0 := HVc.out.fz k
            rw [HRr.out] at c0 hno
            have R1 : Hid (VecB (wc.setCell ⟨w.heap.size + 1, k, none⟩ (.int .i64 ((r : Int) - 1))) (w.heap.size + 1) (fun q => if q = k then (r : Int) - 1 else d q)) := HVc.out.put hk8 _
            have R2 : Hid (VecB (wc.setCell ⟨w.heap.size + 1, k, none⟩ (.int .i64 ((r : Int) - 1))) (w.heap.size + 1 + 1) (fun _ => 0)) := HRc.out.other (p := ⟨w.heap.size + 1, k, none⟩) (by show w.heap.size + 1 + 1 ≠ w.heap.size + 1; omega) _
            have R3 : Hid (RoomB (wc.setCell ⟨w.heap.size + 1, k, none⟩ (.int .i64 ((r : Int) - 1))) w.heap.size (slV A M C)) := HKc.out.block (Below.heap_setCell wc ⟨w.heap.size + 1, k, none⟩ _ w.heap.size (by show w.heap.size ≠ w.heap.size + 1; omega))
            have R4 : Hid (Below w.heap.size w (wc.setCell ⟨w.heap.size + 1, k, none⟩ (.int .i64 ((r : Int) - 1)))) := HBc.out.setCell (p := ⟨w.heap.size + 1, k, none⟩) (by show w.heap.size ≤ w.heap.size + 1; omega) _
            have R5 : Hid (∀ p, p < 8 → belN l c p ≤ (if p = k then (r : Int) - 1 else d p) ∧ (if p = k then (r : Int) - 1 else d p) ≤ c p) := fun p hp => by
              by_cases e : p = k
              · subst e
                rw [if_pos rfl]
                have := (HD.out p hp).2
                have e2 := HRr.out
                exact ⟨hno, by omega⟩
              · rw [if_neg e]; exact HD.out p hp
            have R6 : Hid (sum8 (cellN (wc.setCell ⟨w.heap.size + 1, k, none⟩ (.int .i64 ((r : Int) - 1))) (w.heap.size + 1)) < sum8 fun q => (d q).toNat) := by
              show sum8 _ < _
              rw [sum8_cells R1.out]
              refine sum8_less hk8 (fun q _ hne => by simp [hne]) ?_
              have e2 := HRr.out
              simp
              omega
            have hsub : (-9223372036854775808 : Int) ≤ (r : Int) - 1 := by omega
            go_wp2
            go_roundw
            case rel => exact ⟨_, R5.out, R1.out, R2.out, R3.out, R4.out⟩
            case measure =>
              rw [hmes]
              exact R6.out
          · have R := hideIt (HYes.out rfl)
            go_wp2
            go_roundw
            case rel => exact ⟨k + 1, by omega, by go_num, R.out, HVc.out, HRc.out, HKc.out, HBc.out⟩
            case measure => simp [intOf]; omega
      · have R : Hid (∀ p, p < 8 → d p = belN l c p) := bel_done HP.out HCut.out (fun p hp => (HD.out p hp).1) (fun p hp => (HD.out p hp).2) (fun p hp q hq => leB_iff.1 (HA.out p (by omega)) q hq)
        obtain ⟨y0, y1, y2, y3, y4, y5, y6, y7⟩ := HV.out.eight
        obtain ⟨z0, z1, z2, z3, z4, z5, z6, z7⟩ := HR.out.eight
        have zf := HR.out.fz
        clear hix
        go_wp2
        rw [Exit.noGoto_ret]
        refine bodyPost_ret (results_one rfl _ _ _ _ rfl (load45 (HR.out.store d).at_)) rfl ?_
        exact ⟨ret_vec R.out, HB.out.grown (grown_setCells _ (vecL d) 0 _) HB.out.size (fun b' hb' => by cases hb'; omega)⟩
end Go.Proofs.YtmonbkoelehdlaaDoor
