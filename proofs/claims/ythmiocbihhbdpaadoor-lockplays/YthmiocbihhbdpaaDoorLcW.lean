/-
  The document's check of a plan, walked.
-/
import Derived.Test.YthmiocbihhbdpaaDoorLkPZ
import Derived.Test.YthmiocbihhbdpaaDoorLkMZ
namespace Go.Proofs.YthmiocbihhbdpaaDoor
open Go.RowKit

set_option maxRecDepth 100000 in
set_option maxHeartbeats 4000000 in
theorem plan_any (p : List (List Stp)) (pa : Option Addr) (pc : Nat) (w : World) (hp : PlQ w pa p) (hm : p.length ≤ maxLen) (hsm : ∀ t, (plN p t).length ≤ 281474976710656) :
    Calls Tryd.prog 5 #[.slice pa p.length pc] w fun e w' => e = .returned (.int .i64 (fltL p)) ∧ Below w.heap.size w w' := by
  have HP := hideIt hp
  have HSm := hideIt hsm
  unfold maxLen at hm
  clear hp hsm
  go_enter Tryd.func5, Tryd.ntmps5
  go_wp2
  go_loopw [3, 12] (fun q i wr => ∃ (v : Int) (k : Nat), k ≤ p.length ∧ q = .int .i64 v ∧ i = .int .i64 k ∧ (p.length ≤ 8 → v = (totK p k : Int)) ∧ (∀ t, t < k → ∀ i, i < (plN p t).length → badT t (stZ (plN p t) i) = false) ∧ Below w.heap.size w wr) (fun _ i _ => p.length - (intOf i).toNat)
  case atStart => exact ⟨p.length, 0, Nat.zero_le _, rfl, rfl, fun _ => rfl, fun t ht => absurd ht (by omega), Below.refl _ _⟩
  case round =>
    obtain ⟨v, k, hk, rfl, rfl, hv, hg, hb⟩ := hrel
    have HV := hideIt hv
    have HG1 := hideIt hg
    have HB := hideIt hb
    clear hv hg hb
    by_cases hin : k < p.length
    · obtain ⟨b, off, ra, rc, rfl, hbl, q0, q1, q2, q3⟩ := HP.out.at hin
      have r0 := (HB.out.cell (p := ⟨b, off + k, none⟩) hbl).trans q0
      have HRw := hideIt q3
      unfold maxLen at q2
      have HV2 : Hid (p.length ≤ 8 → wrap64 (v + ((plN p k).length : Int)) = (totK p (k + 1) : Int)) := fun h8 => by
        have h1 := HV.out h8
        have h3 : sumN (fun t => (plN p t).length) k ≤ k * 281474976710656 := sum_le fun i _ => HSm.out i
        have h4 := HSm.out k
        have h5 := totK_succ p k
        have h6 : totK p k = p.length + sumN (fun t => (plN p t).length) k := rfl
        unfold wrap64
        omega
      clear q0 q3
      go_wp2
      clear r0
      go_loopw [23] (fun i wz => ∃ j : Nat, j ≤ (plN p k).length ∧ i = .int .i64 j ∧ (∀ i, i < j → badT k (stZ (plN p k) i) = false) ∧ Below w.heap.size w wz) (fun i _ => (plN p k).length - (intOf i).toNat)
      case atStart => exact ⟨0, Nat.zero_le _, rfl, fun i hi => absurd hi (by omega), HB.out⟩
      case round =>
        obtain ⟨j, hj, rfl, hg, hb⟩ := hrel
        have HG2 := hideIt hg
        replace HB := hideIt hb
        clear hg hb
        by_cases hjn : j < (plN p k).length
        · obtain ⟨gs, os, rfl, hgs, hst⟩ : ∃ g o, ra = some ⟨g, o, none⟩ ∧ g < w.heap.size ∧ StpsAt w g o (plN p k) := by
            rcases HRw.out with e | e
            · rw [e] at hjn; simp at hjn
            · exact e
          obtain ⟨s0, s1, s2⟩ := (hst j hjn).below hgs HB.out
          have HS : Hid (stZ (plN p k) j = (plN p k)[j]) := stZ_at hjn
          clear hst
          generalize (plN p k)[j] = s at s0 s1 s2 HS
          obtain ⟨sp, sk, sm⟩ := s
          dsimp only at s0 s1 s2
          have HBd := hideIt (belA HB.out (.cells #[.int .i64 sp, .int .i64 sk, .int .i64 sm] 47))
          have hgw : gs < wr.heap.size := Nat.lt_of_lt_of_le hgs HB.out.size
          have hx1 : ¬ gs = wr.heap.size := by omega
          have hx2 : ¬ wr.heap.size = gs := by omega
          clear HB hgw
          by_cases e1 : sp = (k : Int)
          rotate_left 1
          · have hne : (sp != (k : Int)) = true := by simp [e1]
            have HB1 : Hid (badT k (stZ (plN p k) j) = true) := by
              show badT k (stZ (plN p k) j) = true
              rw [HS.out]
              unfold badT
              simp [e1]
            have HE : Hid (fltL p = 1) := fltL_bad hin hjn HB1.out
            clear HB1 HG1 HG2 HS HP HRw
            go_wp2
            go_ret
            exact ⟨by rw [HE.out]; rfl, HBd.out⟩
          have hne : (sp != (k : Int)) = false := by simp [e1]
          have HE1 := hideIt e1
          clear e1
          by_cases k1 : sk = 1
          · have hk1 : (sk != 1) = false := by simp [k1]
            have HK1 := hideIt k1
            clear k1
            by_cases m0 : sm < 0
            · have HB1 : Hid (badT k (stZ (plN p k) j) = true) := by
                show badT k (stZ (plN p k) j) = true
                rw [HS.out]
                unfold badT
                simp [m0]
              have HE : Hid (fltL p = 1) := fltL_bad hin hjn HB1.out
              clear HB1 HG1 HG2 HS HP HRw
              go_wp2
              go_ret
              exact ⟨by rw [HE.out]; rfl, HBd.out⟩
            · by_cases m7 : 7 < sm
              · have HB1 : Hid (badT k (stZ (plN p k) j) = true) := by
                  show badT k (stZ (plN p k) j) = true
                  rw [HS.out]
                  unfold badT
                  simp [m7]
                have HE : Hid (fltL p = 1) := fltL_bad hin hjn HB1.out
                clear HB1 HG1 HG2 HS HP HRw
                go_wp2
                go_ret
                exact ⟨by rw [HE.out]; rfl, HBd.out⟩
              · have HG3 : Hid (∀ i, i < j + 1 → badT k (stZ (plN p k) i) = false) := fun i hi => by
                  by_cases e : i = j
                  · rw [e, HS.out]
                    unfold badT
                    simp [HE1.out, HK1.out]; omega
                  · exact HG2.out i (by omega)
                clear HG2 HS
                go_wp2
                go_roundw
                case rel => exact ⟨j + 1, by omega, by go_num, HG3.out, HBd.out⟩
                case measure => simp [intOf]; omega
          · have hk1 : (sk != 1) = true := by simp [k1]
            by_cases k2 : sk = 2
            · have hk2 : (sk != 2) = false := by simp [k2]
              have HK2 := hideIt k2
              clear k1 k2
              by_cases m0 : sm < 0
              · have HB1 : Hid (badT k (stZ (plN p k) j) = true) := by
                  show badT k (stZ (plN p k) j) = true
                  rw [HS.out]
                  unfold badT
                  simp [m0]
                have HE : Hid (fltL p = 1) := fltL_bad hin hjn HB1.out
                clear HB1 HG1 HG2 HS HP HRw
                go_wp2
                go_ret
                exact ⟨by rw [HE.out]; rfl, HBd.out⟩
              · by_cases m7 : 7 < sm
                · have HB1 : Hid (badT k (stZ (plN p k) j) = true) := by
                    show badT k (stZ (plN p k) j) = true
                    rw [HS.out]
                    unfold badT
                    simp [m7]
                  have HE : Hid (fltL p = 1) := fltL_bad hin hjn HB1.out
                  clear HB1 HG1 HG2 HS HP HRw
                  go_wp2
                  go_ret
                  exact ⟨by rw [HE.out]; rfl, HBd.out⟩
                · have HG3 : Hid (∀ i, i < j + 1 → badT k (stZ (plN p k) i) = false) := fun i hi => by
                    by_cases e : i = j
                    · rw [e, HS.out]
                      unfold badT
                      simp [HE1.out, HK2.out]; omega
                    · exact HG2.out i (by omega)
                  clear HG2 HS
                  go_wp2
                  go_roundw
                  case rel => exact ⟨j + 1, by omega, by go_num, HG3.out, HBd.out⟩
                  case measure => simp [intOf]; omega
            · have hk2 : (sk != 2) = true := by simp [k2]
              have HB1 : Hid (badT k (stZ (plN p k) j) = true) := by
                show badT k (stZ (plN p k) j) = true
                rw [HS.out]
                unfold badT
                simp [k1, k2]
              have HE : Hid (fltL p = 1) := fltL_bad hin hjn HB1.out
              clear HB1 HG1 HG2 HS HP HRw
              go_wp2
              go_ret
              exact ⟨by rw [HE.out]; rfl, HBd.out⟩
        · have hje : j = (plN p k).length := by omega
          have HG3 : Hid (∀ t, t < k + 1 → ∀ i, i < (plN p t).length → badT t (stZ (plN p t) i) = false) := fun t ht i hi => by
            by_cases e : t = k
            · subst e
              exact HG2.out i (by omega)
            · exact HG1.out t (by omega) i hi
          clear hje
          go_wp2
          go_roundw
          case rel => exact ⟨_, k + 1, by omega, rfl, by go_num, HV2.out, HG3.out, HB.out⟩
          case measure => simp [intOf]; omega
    · obtain rfl : k = p.length := by omega
      have HFg := hideIt (fltL_good HG1.out)
      by_cases h8 : 8 < p.length
      · have h8' : (8 : Int) < p.length := by omega
        rw [if_pos (.inl h8)] at HFg
        clear HV HG1 HSm HP
        go_wp2
        go_ret
        exact ⟨by rw [HFg.out]; rfl, HB.out⟩
      · have hv := HV.out (by omega)
        subst hv
        have h8' : ¬ (8 : Int) < p.length := by omega
        by_cases h60 : 60 < totK p p.length
        · have h60' : (60 : Int) < totK p p.length := by omega
          rw [if_pos (.inr h60)] at HFg
          clear HV HG1 HSm HP
          generalize totK p p.length = T at h60 h60' ⊢
          go_wp2
          go_ret
          exact ⟨by rw [HFg.out]; rfl, HB.out⟩
        · have h60' : ¬ (60 : Int) < totK p p.length := by omega
          rw [if_neg (by omega)] at HFg
          clear HV HG1 HSm HP
          generalize totK p p.length = T at h60 h60' ⊢
          go_wp2
          go_ret
          exact ⟨by rw [HFg.out]; rfl, HB.out⟩
end Go.Proofs.YthmiocbihhbdpaaDoor
