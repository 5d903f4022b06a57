/-
  The program's Check and Order of a graph, walked.
-/
import Derived.Test.YtibdchahallbjabDoorGoW
import Derived.Test.YtibdchahallbjabDoorWalkAZ
namespace Go.Proofs.YtibdchahallbjabDoor
open Go.RowKit

set_option maxRecDepth 100000 in
set_option maxHeartbeats 1000000 in
theorem gCheck_any (R : List (List Bool)) (a : Option Addr) (cap : Nat) (w : World) (hmax : R.length ≤ maxLen) (hrm : ∀ r ∈ R, r.length ≤ maxLen) (hg : GrQ w a R) :
    Calls Tryd.prog 51 #[.slice a R.length cap] w fun e w' => e = .returned (toldV (ckG R)) ∧ w' = w := by
  have HR : Hid (ckG R = if 40 < R.length then 4 else if (R.all fun r => r.length == R.length) = true then 0 else 3) := rfl
  have HG := hideIt hg
  have HM := hideIt hrm
  clear hg hrm
  go_enter Tryd.func51, Tryd.ntmps51
  by_cases h40 : R.length ≤ 40
  · have h40' : ¬ 40 < R.length := by omega
    rw [if_neg h40'] at HR
    go_wp2
    go_loopw [11] (fun v wr => ∃ k : Nat, k ≤ R.length ∧ v = .int .i64 k ∧ (∀ i (h : i < R.length), i < k → R[i].length = R.length) ∧ wr = w) (fun v _ => R.length - (intOf v).toNat)
    case atStart => exact ⟨0, Nat.zero_le _, rfl, fun i h hi => absurd hi (by omega), rfl⟩
    case round =>
      obtain ⟨k, hk, rfl, ha, rfl⟩ := hrel
      have HA := hideIt ha
      clear ha
      by_cases hkl : k < R.length
      · obtain ⟨b, off, rfl, hb, hj⟩ : ∃ b off, a = some ⟨b, off, none⟩ ∧ b < wr.heap.size ∧ ∀ i (h : i < R.length), ∃ s, wr.cell? ⟨b, off + i, none⟩ = some s ∧ BitsIn wr s R[i] := by
          rcases HG.out with h | h
          · subst h; simp at hkl
          · exact h
        obtain ⟨s, hs, a2, c2, rfl, _, _⟩ := hj k hkl
        have hml := HM.out R[k] (List.getElem_mem hkl)
        have hkl' : (k : Int) < R.length := by omega
        clear hj HG HM
        by_cases he : R[k].length = R.length
        · have R1 : Hid (∀ i (h : i < R.length), i < k + 1 → R[i].length = R.length) := fun i h hi => by
            by_cases e : i = k
            · subst e; exact he
            · exact HA.out i h (by omega)
          rw [he] at hs
          clear he hml
          go_wp2
          go_roundw
          case rel => exact ⟨k + 1, by omega, by go_num, R1.out, by first | rfl | trivial⟩
          case measure => simp [intOf]; omega
        · have HF : Hid (ckG R = 3) := by
            show ckG R = 3
            rw [HR.out, if_neg]
            intro h
            exact he (by simpa using List.all_eq_true.1 h R[k] (List.getElem_mem hkl))
          generalize R[k].length = m at hs he hml
          have he' : ((m : Int) != (R.length : Int)) = true := by simp; omega
          clear he
          go_wp2
          go_ret
          exact ⟨by rw [HF.out]; rfl, rfl⟩
      · have HF : Hid (ckG R = 0) := by
          show ckG R = 0
          rw [HR.out, if_pos]
          refine List.all_eq_true.2 fun r hr => ?_
          obtain ⟨i, hi, e⟩ := List.getElem_of_mem hr
          rw [← e, HA.out i hi (by omega)]
          simp
        obtain rfl : k = R.length := by omega
        go_wp2
        go_ret
        exact ⟨by rw [HF.out]; rfl, rfl⟩
  · have h40' : 40 < R.length := by omega
    rw [if_pos h40'] at HR
    go_wp2
    go_ret
    exact ⟨by rw [HR.out]; rfl, rfl⟩

/-- The least one, or none (-1). -/
def NxT (f : Nat → Bool) (n : Nat) (x : Int) : Prop := (x = -1 ∧ firstN f n = none) ∨ ∃ i : Nat, x = (i : Int) ∧ i < n ∧ firstN f n = some i

set_option maxRecDepth 100000 in
set_option maxHeartbeats 4000000 in
theorem next_any (R : List (List Bool)) (ok : ckG R = 0) (a : Option Addr) (cap : Nat) (w : World) (hg : GrQ w a R) (pb : Nat) (P : Nat → Bool) (hP : BitsAt w pb R.length P) :
    Calls Tryd.prog 52 #[.slice a R.length cap, .slice (some ⟨pb, 0, none⟩) R.length R.length] w fun e w' => ∃ x, e = .returned (.int .i64 x) ∧ NxT (mayG (gB R) R.length P) R.length x ∧ w' = w := by
  have h40 := (ckG_ok ok).1
  have HAt : Hid (∀ i, i < R.length → ∃ b off, a = some ⟨b, off, none⟩ ∧ ∃ rb ro rc, w.cell? ⟨b, off + i, none⟩ = some (.slice (some ⟨rb, ro, none⟩) R.length rc) ∧ R.length ≤ rc ∧ ∀ k, k < R.length → w.cell? ⟨rb, ro + k, none⟩ = some (.bool (gB R i k))) := fun i hi => by
    obtain ⟨b, off, e, hb, rb, ro, rc, h1, h2, h3, h4⟩ := hg.at ok hi
    exact ⟨b, off, e, rb, ro, rc, h1, h2, h4⟩
  have HBi := hideIt hP
  clear hg ok hP
  generalize gB R = g at HAt ⊢
  go_enter Tryd.func52, Tryd.ntmps52
  go_wp2
  go_step3
  go_wp2
  go_step3
  go_wp2
  go_loopw [10] (fun v wr => ∃ k : Nat, k ≤ R.length ∧ v = .int .i64 k ∧ (∀ i, i < k → mayG g R.length P i = false) ∧ wr = w) (fun v _ => R.length - (intOf v).toNat)
  case atStart => exact ⟨0, Nat.zero_le _, rfl, fun i hi => absurd hi (by omega), rfl⟩
  case round =>
    obtain ⟨i, hi, rfl, ha, rfl⟩ := hrel
    have HA := hideIt ha
    clear ha
    by_cases hin : i < R.length
    · have hin' : (i : Int) < R.length := by omega
      have p0 := HBi.out.bit i hin
      obtain ⟨pi, HPi⟩ : ∃ pi, Hid (P i = pi) := ⟨_, hideIt rfl⟩
      rw [HPi.out] at p0
      have HNo : Hid (mayG g R.length P i = false → ∀ i', i' < i + 1 → mayG g R.length P i' = false) := fun h i' h' => by
        by_cases e : i' = i
        · subst e; exact h
        · exact HA.out i' (by omega)
      cases pi
      · go_wp2
        go_loopw [19] (fun v wz => ∃ k : Nat, k ≤ R.length ∧ v = .int .i64 k ∧ (∀ j, j < k → g j i = true → P j = true) ∧ wz = wr) (fun v _ => R.length - (intOf v).toNat)
        case atStart => exact ⟨0, Nat.zero_le _, rfl, fun j hj => absurd hj (by omega), rfl⟩
        case round =>
          clear p0
          obtain ⟨k, hk, rfl, hall, rfl⟩ := hrel
          have HAll := hideIt hall
          clear hall
          by_cases hkn : k < R.length
          · have hkn' : (k : Int) < R.length := by omega
            have q0 := HBi.out.bit k hkn
            obtain ⟨b, off, rfl, rb, ro, rc, r0, _, hr⟩ := HAt.out k hkn
            have r1 := hr i hin
            have HSt : Hid ((g k i = true → P k = true) → ∀ j, j < k + 1 → g j i = true → P j = true) := fun h j hj => by
              by_cases e : j = k
              · subst e; exact h
              · exact HAll.out j (by omega)
            have HBad : Hid (g k i = true → P k = false → mayG g R.length P i = false) := fun h1 h2 => by
              cases e : mayG g R.length P i
              · rfl
              · have := (mayG_iff.1 e).2 k hkn h1
                rw [this] at h2; cases h2
            generalize P k = pk at q0 HSt HBad
            generalize g k i = gk at r1 HSt HBad
            clear hr
            cases gk
            · go_wp2
              go_roundw
              case rel => exact ⟨k + 1, by omega, by go_num, HSt.out (fun h => by cases h), by first | rfl | trivial⟩
              case measure => simp [intOf]; omega
            · cases pk
              · have R1 := hideIt (HNo.out (HBad.out rfl rfl))
                go_wp2
                go_roundw
                case rel => exact ⟨i + 1, by omega, by go_num, R1.out, by first | rfl | trivial⟩
                case measure => simp [intOf]; omega
              · go_wp2
                go_roundw
                case rel => exact ⟨k + 1, by omega, by go_num, HSt.out (fun _ => rfl), by first | rfl | trivial⟩
                case measure => simp [intOf]; omega
          · have HF : Hid (mayG g R.length P i = true) := mayG_iff.2 ⟨HPi.out, fun j hj => HAll.out j (by omega)⟩
            obtain rfl : k = R.length := by omega
            go_wp2
            rw [Exit.noGoto_ret]
            go_ret
            exact ⟨_, rfl, .inr ⟨i, rfl, hin, firstN_at hin HA.out HF.out⟩, rfl⟩
      · have R1 := hideIt (HNo.out (by simp [mayG, HPi.out]))
        go_wp2
        go_roundw
        case rel => exact ⟨i + 1, by omega, by go_num, R1.out, by first | rfl | trivial⟩
        case measure => simp [intOf]; omega
    · obtain rfl : i = R.length := by omega
      go_wp2
      rw [Exit.noGoto_ret]
      go_ret
      exact ⟨_, rfl, .inl ⟨rfl, firstN_none HA.out⟩, rfl⟩
end Go.Proofs.YtibdchahallbjabDoor
