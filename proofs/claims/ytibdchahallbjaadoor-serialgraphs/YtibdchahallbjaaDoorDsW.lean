/-
  The program's 'shorten', walked.
-/
import Derived.Test.YtibdchahallbjaaDoorMnP
namespace Go.Proofs.YtibdchahallbjaaDoor
open Go.RowKit

theorem fwS_val (D : Nat → Nat → Nat) (t i k : Nat) (h0 : 0 < D i t) : fwS D t i k = if D t k = 0 then D i k else if D i k = 0 then D i t + D t k else if D i t + D t k < D i k then D i t + D t k else D i k := by
  unfold fwS
  by_cases h1 : D t k = 0
  · rw [if_pos h1, if_neg (by omega)]
  · rw [if_neg h1]
    by_cases h2 : D i k = 0
    · rw [if_pos h2, if_pos (by omega)]
    · rw [if_neg h2]
      by_cases h3 : D i t + D t k < D i k
      · rw [if_pos h3, if_pos (by omega)]
      · rw [if_neg h3, if_neg (by omega)]

set_option maxRecDepth 100000 in
set_option maxHeartbeats 4000000 in
theorem shorten_any (n t i : Nat) (D : Nat → Nat → Nat) (hn : n ≤ 40) (ht : t < n) (hi : i < n) (h0 : 0 < D i t) (hD : ∀ a b, D a b ≤ 1099511627776) (base B : Nat) (rb : Nat → Nat) (w0 w : World) (hM : NumM w base B n n rb (stgF D t i 0)) (hb : Below base w0 w) :
    Calls Tryd.prog 50 #[.slice (some ⟨rb i, 0, none⟩) n n, .slice (some ⟨rb t, 0, none⟩) n n, .int .i64 ((D i t : Nat) : Int)] w fun e w' => e = .returned (.tuple #[]) ∧ NumM w' base B n n rb (stgF D t i n) ∧ Below base w0 w' := by
  have HM := hideIt hM
  have HB := hideIt hb
  have HD := hideIt hD
  have HV := hideIt (fwS_val D t i · h0)
  have hd0 := hD i t
  obtain ⟨d0, HD0⟩ : ∃ d0, Hid (D i t = d0) := ⟨_, hideIt rfl⟩
  rw [HD0.out] at h0 hd0 ⊢
  clear hM hb hD
  go_enter Tryd.func50, Tryd.ntmps50
  go_wp2
  go_loopw [10] (fun v wr => ∃ k : Nat, k ≤ n ∧ v = .int .i64 k ∧ NumM wr base B n n rb (stgF D t i k) ∧ Below base w0 wr) (fun v _ => n - (intOf v).toNat)
  case atStart => exact ⟨0, Nat.zero_le _, rfl, HM.out, HB.out⟩
  case round =>
    clear HM HB
    obtain ⟨k, hk, rfl, hM, hb⟩ := hrel
    have HM := hideIt hM
    have HB := hideIt hb
    clear hM hb
    by_cases hkn : k < n
    · have hkn' : (k : Int) < n := by omega
      have ct := (HM.out.row t ht).num k hkn
      have ci := (HM.out.row i hi).num k hkn
      have zi := (HM.out.row i hi).fz k
      rw [stgF_next] at ct
      rw [stgF_own] at ci
      have hv := HV.out k
      have b1 := HD.out t k
      have b2 := HD.out i k
      have hbi := (HM.out.from_ i hi).1
      rw [HD0.out] at hv
      have HPut : Hid (∀ x : Nat, fwS D t i k = x → NumM (wr.setCell ⟨rb i, k, none⟩ (.int .i64 (x : Int))) base B n n rb (stgF D t i (k + 1)) ∧ Below base w0 (wr.setCell ⟨rb i, k, none⟩ (.int .i64 (x : Int)))) := fun x hx =>
        ⟨(HM.out.put hi hkn x).same fun a b _ _ => stgF_put hx a b, HB.out.setCell (p := ⟨rb i, k, none⟩) hbi _⟩
      have HLv : Hid (fwS D t i k = D i k → NumM wr base B n n rb (stgF D t i (k + 1))) := fun hx => HM.out.same fun a b _ _ => stgF_leave hx a b
      generalize fwS D t i k = fv at hv HPut HLv
      generalize D t k = d2 at ct hv b1
      generalize D i k = d1 at ci hv b2 HLv
      clear HV HD
      by_cases e2 : d2 = 0
      · subst e2
        rw [if_pos rfl] at hv
        have R1 := hideIt (HLv.out hv)
        clear HPut HLv hv
        go_wp2
        go_roundw
        case rel => exact ⟨k + 1, by omega, by go_num, R1.out, HB.out⟩
        case measure => simp [intOf]; omega
      · rw [if_neg e2] at hv
        have e2' : (0 : Int) < d2 := by omega
        by_cases e1 : d1 = 0
        · subst e1
          rw [if_pos rfl] at hv
          have R1 := hideIt (HPut.out _ hv)
          rw [Int.natCast_add] at R1
          clear HPut HLv hv
          go_wp2
          go_roundw
          case rel => exact ⟨k + 1, by omega, by go_num, R1.out⟩
          case measure => simp [intOf]; omega
        · rw [if_neg e1] at hv
          have e1' : ¬ (d1 : Int) = 0 := by omega
          by_cases e3 : d0 + d2 < d1
          · rw [if_pos e3] at hv
            have e3' : (d0 : Int) + d2 < d1 := by omega
            have R1 := hideIt (HPut.out _ hv)
            rw [Int.natCast_add] at R1
            clear HPut HLv hv
            go_wp2
            go_roundw
            case rel => exact ⟨k + 1, by omega, by go_num, R1.out⟩
            case measure => simp [intOf]; omega
          · rw [if_neg e3] at hv
            have e3' : ¬ (d0 : Int) + d2 < d1 := by omega
            have R1 := hideIt (HLv.out hv)
            clear HPut HLv hv
            go_wp2
            go_roundw
            case rel => exact ⟨k + 1, by omega, by go_num, R1.out, HB.out⟩
            case measure => simp [intOf]; omega
    · obtain rfl : k = n := by omega
      go_wp2
      go_end0
      exact ⟨rfl, HM.out, HB.out⟩
end Go.Proofs.YtibdchahallbjaaDoor
