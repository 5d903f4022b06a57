/-
  Package lock's Play, walked.
-/
import Derived.Test.YthmiocbihhbdpaaDoorBgWZ
namespace Go.Proofs.YthmiocbihhbdpaaDoor
open Go.RowKit

/-- How much was done, by the run's block. -/
def doneR (b : Nat) (w : World) : Nat := match w.cell? ⟨b, 4, none⟩ with
  | some (.slice _ l _) => l
  | _ => 0
theorem doneR_at {w : World} {b l c : Nat} {a : Option Addr} (h : w.cell? ⟨b, 4, none⟩ = some (.slice a l c)) : doneR b w = l := by unfold doneR; rw [h]
theorem RunS.done_at {w0 W : World} {n : Nat} {p : List (List Stp)} {k : RunB} {st : LkS} {q : Nat} (h : RunS w0 n p k W st q) : doneR k.B W = st.done.length := by
  obtain ⟨vh, vd, vv, g, hR, _⟩ := h
  obtain ⟨a, c, rfl⟩ := ownsRow_slice hR.done
  exact doneR_at hR.cells.2.2.2.2.1
theorem RunS.bel {w0 W : World} {n : Nat} {p : List (List Stp)} {k : RunB} {st : LkS} {q : Nat} (h : RunS w0 n p k W st q) : Below w0.heap.size w0 W := by
  obtain ⟨vh, vd, vv, g, hR, _⟩ := h
  exact hR.bel
theorem RunS.eq {w0 W : World} {n : Nat} {p : List (List Stp)} {k : RunB} {st st' : LkS} {q : Nat} (h : RunS w0 n p k W st q) (e : st = st') : RunS w0 n p k W st' q := e ▸ h

set_option maxRecDepth 100000 in
set_option maxHeartbeats 16000000 in
theorem playP_any (p : List (List Stp)) (ks : List Int) (hz : PlZ p) (hkm : ks.length ≤ maxLen) (pa ka : Option Addr) (pc kc : Nat) (w : World) (hp : PlQ w pa p) (hk : HasI w (.slice ka ks.length kc) ks) :
    Calls Tryd.prog 9 #[.slice pa p.length pc, .slice ka ks.length kc] w fun e w' => PyTold p ks w e w' := by
  unfold maxLen at hkm
  have hB1 : Below w.heap.size w (w.alloc (.cells #[.slice none 0 0, .slice none 0 0, .slice none 0 0] 39)) := belA (Below.refl _ _) _
  have hR1 := heap_alloc_new w (.cells #[.slice none 0 0, .slice none 0 0, .slice none 0 0] 39)
  have HCk := hideIt (check_any p hz pa pc _ (hp.below hB1))
  have HP := hideIt hp
  have HK := hideIt hk
  clear hp hk hz
  go_enter Tryd.func9, Tryd.ntmps9
  go_wp2_with fail
  refine HCk.out.mono ?_
  rintro e W2 ⟨rfl, hb2⟩
  have hW2 : Below w.heap.size w W2 := belJ hB1 hb2
  have hR2 : W2.heap[w.heap.size]? = some (.cells #[.slice none 0 0, .slice none 0 0, .slice none 0 0] 39 (0, 0)) := (hb2.block _ (by simp)).trans hR1
  have HW2 := hideIt hW2
  have HR2 := hideIt hR2
  have r0 : W2.cell? ⟨w.heap.size, 0, none⟩ = some (.slice none 0 0) := cell_of_row _ _ _ _ 39 _ hR2
  have r1 : W2.cell? ⟨w.heap.size, 1, none⟩ = some (.slice none 0 0) := cell_of_row _ _ _ _ 39 _ hR2
  have r2 : W2.cell? ⟨w.heap.size, 2, none⟩ = some (.slice none 0 0) := cell_of_row _ _ _ _ 39 _ hR2
  have f0 : W2.frozen? ⟨w.heap.size, 0, none⟩ = false := frozen_of_row _ _ _ _ 39 hR2
  have f1 : W2.frozen? ⟨w.heap.size, 1, none⟩ = false := frozen_of_row _ _ _ _ 39 hR2
  have f2 : W2.frozen? ⟨w.heap.size, 2, none⟩ = false := frozen_of_row _ _ _ _ 39 hR2
  have HErr : Hid (∀ c : Int, c ≠ 0 → fltY p ks = c → ∀ F : World, F = (((W2.setCell ⟨w.heap.size, 0, none⟩ (.slice none 0 0)).setCell ⟨w.heap.size, 1, none⟩ (.slice none 0 0)).setCell ⟨w.heap.size, 2, none⟩ (.slice none 0 0)) →
      (loadVar 39 ⟨w.heap.size, 0, none⟩).run Tryd.prog F = .ok (.agg #[.slice none 0 0, .slice none 0 0, .slice none 0 0]) F ∧ PyTold p ks w (.returned (.tuple #[.agg #[.slice none 0 0, .slice none 0 0, .slice none 0 0], .iface 29 (.int .i64 c)])) F) := fun c hc he F hF => by
    obtain ⟨h3, _⟩ := set3 HR2.out (.slice none 0 0) (.slice none 0 0) (.slice none 0 0)
    rw [← hF] at h3
    refine ⟨tri27 h3, none, 0, .slice none 0 0, .slice none 0 0, ?_, ?_, ?_, ?_, ?_⟩
    · unfold dnY
      rw [he, if_neg hc]
      unfold toldV
      rw [if_neg hc]
      rfl
    · unfold dnY
      rw [he, if_neg hc]
      exact .inl rfl
    · unfold wtY
      rw [he, if_neg hc]
      exact hasI_nil _
    · unfold vcY
      rw [he, if_neg hc]
      exact hasI_nil _
    · rw [hF]
      exact ((HW2.out.setCell (p := ⟨w.heap.size, 0, none⟩) (Nat.le_refl _) _).setCell (p := ⟨w.heap.size, 1, none⟩) (Nat.le_refl _) _).setCell (p := ⟨w.heap.size, 2, none⟩) (Nat.le_refl _) _
  clear HCk hB1 hb2 hR1 hW2 hR2
  by_cases hf : fltL p = 0
  rotate_left 1
  · have hto : toldV (fltL p) = .iface 29 (.int .i64 (fltL p)) := by unfold toldV; rw [if_neg hf]
    rw [hto]
    have HE := hideIt (HErr.out (fltL p) hf (by unfold fltY; rw [if_neg hf]) _ rfl)
    clear HErr
    generalize fltL p = c at HE ⊢
    go_wp2
    obtain ⟨q1, q2⟩ := HE.out
    refine bodyPost_ret (results_cellT rfl _ _ w.heap.size _ rfl q1) rfl ?_
    exact q2
  have hto : toldV (fltL p) = .nilIface := by rw [hf]; rfl
  rw [hto]
  clear hto
  by_cases h200 : 200 < ks.length
  · have h200' : (200 : Int) < (ks.length : Int) := by omega
    have HE := hideIt (HErr.out 4 (by decide) (by unfold fltY; rw [if_pos hf, if_pos h200]) _ rfl)
    clear HErr
    go_wp2
    obtain ⟨q1, q2⟩ := HE.out
    refine bodyPost_ret (results_cellT rfl _ _ w.heap.size _ rfl q1) rfl ?_
    exact q2
  have h200' : ¬ (200 : Int) < (ks.length : Int) := by omega
  have HY : Hid (fltY p ks = 0) := by
    have : fltY p ks = 0 := by unfold fltY; rw [if_pos hf, if_neg h200]
    exact this
  obtain ⟨hpl, hlf⟩ := fltL_ok hf
  have HPl := hideIt hpl
  have h8 := hpl.few
  have HBg := hideIt (begin_any p h8 pa pc W2 (HP.out.below HW2.out))
  clear HErr hf hpl
  go_wp2_with fail
  refine HBg.out.mono ?_
  rintro e W3 ⟨kb, rfl, hS3⟩
  have HS := hideIt hS3
  clear HBg hS3 r0 r1 r2 f0 f1 f2
  have HI0 : Hid (∀ k, LkI p p.length (pkS p p.length lk0 (ks.take k))) := fun k => LkI.pk HPl.out rfl LkI.start
  have HC0 : Hid (∀ k, k ≤ ks.length → CtI k (pkS p p.length lk0 (ks.take k))) := fun k hk => by
    have := ct_pk (p := p) (n := p.length) (ks := ks.take k) (m := 0) (st := lk0) ⟨fun _ => Nat.le_refl _, Nat.le_refl _⟩
    rwa [Nat.zero_add, List.length_take, Nat.min_eq_left hk] at this
  go_wp2
  go_loopw [26] (fun i wr => ∃ k : Nat, k ≤ ks.length ∧ i = .int .i64 k ∧ RunS W2 p.length p kb wr (pkS p p.length lk0 (ks.take k)) k) (fun i _ => ks.length - (intOf i).toNat)
  case atStart => exact ⟨0, Nat.zero_le _, rfl, HS.out⟩
  case round =>
    obtain ⟨k, hkk, rfl, hm⟩ := hrel
    replace HS := hideIt hm
    clear hm
    by_cases hin : k < ks.length
    · obtain ⟨b1, p1, e1, _, hr1⟩ := HK.out.below (belJ HW2.out HS.out.bel)
      simp at e1
      obtain ⟨rfl, rfl⟩ := e1
      obtain ⟨g, off, rfl, x0⟩ := hr1 k hin
      have HTk : Hid (pkS p p.length lk0 (ks.take (k + 1)) = if 0 ≤ ks[k] ∧ ks[k] < p.length then goS p p.length (pkS p p.length lk0 (ks.take k)) ks[k].toNat else pkS p p.length lk0 (ks.take k)) := by
        show pkS p p.length lk0 (ks.take (k + 1)) = _
        rw [List.take_add_one, List.getElem?_eq_getElem hin]
        exact pkS_app _ _ _ _ _
      clear hr1
      generalize ks[k] = q at x0 HTk
      have hkl : (k : Int) < (ks.length : Int) := by omega
      by_cases hq0 : 0 ≤ q
      · by_cases hq1 : q < (p.length : Int)
        · rw [if_pos ⟨hq0, hq1⟩] at HTk
          obtain ⟨t, rfl⟩ := Int.eq_ofNat_of_zero_le hq0
          have ht : t < p.length := by omega
          rw [Int.toNat_natCast] at HTk
          have HGo := hideIt (goOn_any HS.out (HI0.out k) HPl.out (by have := (HI0.out k).len; omega) (by have h1 := (HC0.out k (by omega)).vic; have h2 := (HI0.out k).len; omega) (by omega) t ht (by have := (HC0.out k (by omega)).cnt t; omega))
          clear HS
          go_wp2_with fail
          refine HGo.out.mono ?_
          rintro e W4 ⟨rfl, h4⟩
          have HS4 := hideIt (h4.eq HTk.out.symm)
          clear h4 HGo x0 HTk
          go_wp2
          go_roundw
          case rel => exact ⟨k + 1, by omega, by go_num, HS4.out⟩
          case measure => simp [intOf]; omega
        · rw [if_neg (fun h => hq1 h.2)] at HTk
          have HS4 := hideIt ((HS.out.eq HTk.out.symm).more (Nat.le_succ k))
          clear HS HTk
          go_wp2
          go_roundw
          case rel => exact ⟨k + 1, by omega, by go_num, HS4.out⟩
          case measure => simp [intOf]; omega
      · rw [if_neg (fun h => hq0 h.1)] at HTk
        have HS4 := hideIt ((HS.out.eq HTk.out.symm).more (Nat.le_succ k))
        clear HS HTk
        go_wp2
        go_roundw
        case rel => exact ⟨k + 1, by omega, by go_num, HS4.out⟩
        case measure => simp [intOf]; omega
    · have hke : k = ks.length := by omega
      have HE : Hid (ks.take k = ks) := by rw [hke]; exact List.take_length
      have HI := hideIt (HI0.out k)
      have HC : Hid (CtI (ks.length + (pkS p p.length lk0 ks).done.length) (pkS p p.length lk0 ks)) := by
        have := HC0.out k (by omega)
        rw [HE.out] at this
        exact ⟨fun u => by have := this.cnt u; omega, this.vic⟩
      rw [HE.out] at HS HI
      have hkl : ¬ (k : Int) < (ks.length : Int) := by omega
      replace HS := hideIt (HS.out.more (q' := ks.length + 8 * (pkS p p.length lk0 ks).done.length) (by omega))
      have HPl0 : Hid (plS p p.length (lefN p p.length lk0) (pkS p p.length lk0 ks) = lkP p ks) := rfl
      have HLe : Hid (lefN p p.length (pkS p p.length lk0 ks) ≤ lefN p p.length lk0) := by have := HI.out.len; show _ ≤ _; omega
      clear HE HI0 HC0 HK
      generalize pkS p p.length lk0 ks = st0 at HS HI HC HPl0 HLe
      go_wp2
      clear hkl hke
      go_loopw [] (fun wr => ∃ (f : Nat) (st : LkS), plS p p.length f st = lkP p ks ∧ lefN p p.length st ≤ f ∧ LkI p p.length st ∧ CtI (ks.length + st.done.length) st ∧ RunS W2 p.length p kb wr st (ks.length + 8 * st.done.length)) (fun wr => 61 - doneR kb.B wr)
      case atStart => exact ⟨_, _, HPl0.out, HLe.out, HI.out, HC.out, HS.out⟩
      case round =>
        clear HPl0 HLe HI HC HS
        obtain ⟨f, st, hpl0, hle, hi, hct, hm⟩ := hrel
        have HF := hideIt hpl0
        have HLe := hideIt hle
        have HI := hideIt hi
        have HC := hideIt hct
        have HS := hideIt hm
        have hd60 : st.done.length ≤ 60 := by have := hi.len; omega
        have HD1 := hideIt hm.done_at
        obtain ⟨vh, vd, vv, g, hR, hG⟩ := hm
        obtain ⟨_, _, c2, _, c4, c5, c6⟩ := hR.cells
        have HCn := hideIt (containsB_any st p.length (by omega) kb.O wr hR.over)
        have HRm := hideIt hR
        clear hpl0 hle hi hct hR hG
        go_wp2_with fail
        refine HCn.out.mono ?_
        rintro e W5 ⟨rfl, rfl⟩
        clear HCn
        cases ha : allO p.length st
        rotate_left 1
        · rw [Bool.not_true]
          have HSt : Hid (st = lkP p ks) := (plS_stop ha f).symm.trans HF.out
          have hR5 := HRm.out
          obtain ⟨va, vc, rfl⟩ := ownsRow_slice hR5.done
          obtain ⟨vb, vk, rfl⟩ := ownsRow_slice hR5.vic
          have hRl : w.heap.size < W2.heap.size := lt_of_heap HR2.out
          have hRr := (hR5.bel.block _ hRl).trans HR2.out
          have r0 : W5.cell? ⟨w.heap.size, 0, none⟩ = some (.slice none 0 0) := cell_of_row _ _ _ _ 39 _ hRr
          have r1 : W5.cell? ⟨w.heap.size, 1, none⟩ = some (.slice none 0 0) := cell_of_row _ _ _ _ 39 _ hRr
          have r2 : W5.cell? ⟨w.heap.size, 2, none⟩ = some (.slice none 0 0) := cell_of_row _ _ _ _ 39 _ hRr
          have f0 : W5.frozen? ⟨w.heap.size, 0, none⟩ = false := frozen_of_row _ _ _ _ 39 hRr
          have f1 : W5.frozen? ⟨w.heap.size, 1, none⟩ = false := frozen_of_row _ _ _ _ 39 hRr
          have f2 : W5.frozen? ⟨w.heap.size, 2, none⟩ = false := frozen_of_row _ _ _ _ 39 hRr
          have HFin := hideIt (run_end hR5 HW2.out hRr (Nat.le_refl _) hRl)
          clear HF HLe HI HC HD1 HS ha hR5 hRr HRm hRl
          go_wp2
          obtain ⟨q1, q2, q3, q4, q5⟩ := HFin.out
          refine bodyPost_ret (results_cellT rfl _ _ w.heap.size _ rfl q1) rfl ?_
          unfold PyTold dnY wtY vcY
          rw [HY.out]
          simp only [if_pos]
          rw [← HSt.out]
          exact ⟨va, vc, _, _, rfl, q2, q3, q4, q5⟩
        · rw [Bool.not_false]
          have HMid : Hid (∀ k, k ≤ p.length → LkI p p.length (rnK p p.length st k) ∧ CtI (ks.length + st.done.length + 1) (rnK p p.length st k)) := fun k hk => ⟨HI.out.rn HPl.out rfl hk, HC.out.mid hk⟩
          have HMore : Hid (st.done.length < (rnS p p.length st).done.length) := round_more HC.out ha
          have HLess : Hid (lefN p p.length (rnS p p.length st) < lefN p p.length st) := round_less HI.out.wt HI.out.pos ha
          have HGo : Hid (∀ f', f = f' + 1 → plS p p.length f' (rnS p p.length st) = lkP p ks) := fun f' e => by rw [← HF.out, e, plS_go ha]
          obtain ⟨wo, HWO⟩ : ∃ wo, Hid (W5 = wo) := ⟨_, hideIt rfl⟩
          clear HF HI HC ha HRm c2 c4 c5 c6
          go_wp2
          go_loopw [49] (fun i wy => ∃ k : Nat, k ≤ p.length ∧ i = .int .i64 k ∧ RunS W2 p.length p kb wy (rnK p p.length st k) (ks.length + 8 * st.done.length + k)) (fun i _ => p.length - (intOf i).toNat)
          case atStart => exact ⟨0, Nat.zero_le _, rfl, HS.out⟩
          case round =>
            clear HS
            obtain ⟨m, hmn, rfl, hm⟩ := hrel
            have HS := hideIt hm
            clear hm
            by_cases hm1 : m < p.length
            · have hm1' : (m : Int) < (p.length : Int) := by omega
              have HGn := hideIt (goOn_any HS.out (HMid.out m hmn).1 HPl.out (by have := (HMid.out m hmn).1.len; omega) (by have h1 := (HMid.out m hmn).2.vic; have h2 := (HMid.out m hmn).1.len; omega) (by omega) m hm1 (by have := (HMid.out m hmn).2.cnt m; omega))
              clear HS
              go_wp2_with fail
              refine HGn.out.mono ?_
              rintro e W6 ⟨rfl, h6⟩
              have HS6 := hideIt (h6.eq (rnK_succ p p.length st m).symm)
              clear h6 HGn
              go_wp2
              go_roundw
              case rel => exact ⟨m + 1, by omega, by go_num, HS6.out⟩
              case measure => simp [intOf]; omega
            · have hmm : m = p.length := by omega
              have hm1' : ¬ (m : Int) < (p.length : Int) := by omega
              have HS6 : Hid (RunS W2 p.length p kb wr (rnS p p.length st) (ks.length + 8 * (rnS p p.length st).done.length)) := by
                have h1 := HS.out
                have h2 : st.done.length < (rnS p p.length st).done.length := HMore.out
                rw [hmm] at h1
                exact h1.more (by omega)
              have HEnd : Hid (LkI p p.length (rnS p p.length st) ∧ CtI (ks.length + (rnS p p.length st).done.length) (rnS p p.length st)) := by
                have h1 := HMid.out p.length (Nat.le_refl _)
                have h2 : st.done.length < (rnS p p.length st).done.length := HMore.out
                exact ⟨h1.1, ⟨fun u => by have := h1.2.cnt u; show (rnS p p.length st).cnt u ≤ _; have e : (rnS p p.length st).cnt u = (rnK p p.length st p.length).cnt u := rfl; omega, h1.2.vic⟩⟩
              have HD2 := hideIt HS6.out.done_at
              obtain ⟨f', hf'⟩ : ∃ f', f = f' + 1 := ⟨f - 1, by have h1 := HLess.out; have h2 := HLe.out; omega⟩
              clear HS hmm
              go_wp2
              go_roundw
              case rel => exact ⟨f', rnS p p.length st, HGo.out f' hf', by have h1 := HLess.out; have h2 := HLe.out; omega, HEnd.out.1, HEnd.out.2, HS6.out⟩
              case measure =>
                have h1 := HD1.out
                have h2 := HD2.out
                have h3 := HMore.out
                have h4 := HEnd.out.1.len
                omega
end Go.Proofs.YthmiocbihhbdpaaDoor
