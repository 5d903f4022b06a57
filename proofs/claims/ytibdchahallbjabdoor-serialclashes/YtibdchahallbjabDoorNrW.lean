/-
  The program's 'nearest' and 'toward', walked.
-/
import Derived.Test.YtibdchahallbjabDoorGcW
import Derived.WalkSmall
namespace Go.Proofs.YtibdchahallbjabDoor
open Go.RowKit

set_option maxRecDepth 100000 in
set_option maxHeartbeats 4000000 in
theorem nearest_any (n : Nat) (hn : n ≤ 60) (D : Nat → Nat → Nat) (base B : Nat) (rb : Nat → Nat) (w : World) (hM : NumM w base B n n rb D) :
    Calls Tryd.prog 54 #[.slice (some ⟨B, 0, none⟩) n n] w fun e w' => ∃ x, e = .returned (.int .i64 x) ∧ NearT D n x ∧ Below w.heap.size w w' := by
  have HM := hideIt hM
  clear hM
  go_enter Tryd.func54, Tryd.ntmps54
  go_wp2
  go_loopw [3, 8] (fun x v wr => ∃ (k : Nat) (y : Int), k ≤ n ∧ x = .int .i64 y ∧ v = .int .i64 k ∧ NearT D k y ∧ Below w.heap.size w wr) (fun _ v _ => n - (intOf v).toNat)
  case atStart => exact ⟨0, -1, Nat.zero_le _, rfl, rfl, NearT.zero D, Below.refl _ _⟩
  case round =>
    obtain ⟨k, y, hk, rfl, rfl, hN, hb⟩ := hrel
    have HN := hideIt hN
    have HB := hideIt hb
    clear hN hb
    by_cases hkn : k < n
    · have hkn' : (k : Int) < n := by omega
      have hM := HM.out.below HB.out
      have c0 := hM.head k hkn
      have c1 := (hM.row k hkn).num k hkn
      by_cases hd : D k k = 0
      · have R1 := hideIt (HN.out.keep (.inl hd))
        rw [hd] at c1
        clear hM
        go_upto_region 5 with fail
        go_quiet (fail)
        go_wp2
        go_roundw
        case rel => exact ⟨k + 1, y, by omega, rfl, by go_num, R1.out, below_drewN HB.out _⟩
        case measure => simp [intOf]; omega
      · have hd1 : decide (0 < D k k) = true := by simp; omega
        rcases HN.out with ⟨rfl, _⟩ | ⟨b, rfl, hbk, _⟩
        · have R1 := hideIt (HN.out.take (by omega) (.inl rfl))
          generalize D k k = d at c1 hd1
          clear hM
          go_upto_region 5 with fail
          go_quiet (fail)
          go_wp2
          go_roundw
          case rel => exact ⟨k + 1, k, by omega, rfl, by go_num, R1.out, below_drewN HB.out _⟩
          case measure => simp [intOf]; omega
        · have hbn' : (b : Int) < n := by omega
          have d0 := hM.head b (by omega)
          have d1 := (hM.row b (by omega)).num b (by omega)
          have hb1 : ¬ (b : Int) = -1 := by omega
          clear hM
          by_cases hl : D k k < D b b
          · have R1 := hideIt (HN.out.take (by omega) (.inr ⟨b, rfl, hl⟩))
            have hl1 : decide (D k k < D b b) = true := by simp; omega
            generalize D k k = d at c1 hd1 hl1
            generalize D b b = f at d1 hl1
            go_upto_region 5 with fail
            go_quiet (fail)
            go_wp2
            go_roundw
            case rel => exact ⟨k + 1, k, by omega, rfl, by go_num, R1.out, below_drewN HB.out _⟩
            case measure => simp [intOf]; omega
          · have R1 := hideIt (HN.out.keep (.inr ⟨b, rfl, by omega⟩))
            have hl1 : decide (D k k < D b b) = false := by simp; omega
            generalize D k k = d at c1 hd1 hl1
            generalize D b b = f at d1 hl1
            go_upto_region 5 with fail
            go_quiet (fail)
            go_wp2
            go_roundw
            case rel => exact ⟨k + 1, b, by omega, rfl, by go_num, R1.out, below_drewN HB.out _⟩
            case measure => simp [intOf]; omega
    · obtain rfl : k = n := by omega
      go_wp2
      go_ret
      exact ⟨_, rfl, HN.out, HB.out⟩

set_option maxRecDepth 100000 in
set_option maxHeartbeats 4000000 in
theorem toward_any (R : List (List Bool)) (ok : ckG R = 0) (a : Option Addr) (cap : Nat) (w : World) (hg : GrQ w a R) (D : Nat → Nat → Nat) (base B : Nat) (rb : Nat → Nat) (hM : NumM w base B R.length R.length rb D) (x f left : Nat) (hx : x < R.length) (hf : f < R.length) (hex : ∃ y, y < R.length ∧ gB R x y = true ∧ D y f = left) :
    Calls Tryd.prog 55 #[.slice a R.length cap, .slice (some ⟨B, 0, none⟩) R.length R.length, .int .i64 (x : Nat), .int .i64 (f : Nat), .int .i64 (left : Nat)] w fun e w' => ∃ y : Nat, e = .returned (.int .i64 (y : Nat)) ∧ y < R.length ∧ gB R x y = true ∧ D y f = left ∧ (∀ z, z < y → ¬ (gB R x z = true ∧ D z f = left)) ∧ w' = w := by
  have h40 := (ckG_ok ok).1
  obtain ⟨b, off, rfl, hb, gb, go, gc, r0, hgc, hgl, hr⟩ := hg.at ok hx
  have HR := hideIt hr
  have HM := hideIt hM
  have HE := hideIt hex
  have hx' : (x : Int) < R.length := by omega
  have hf' : (f : Int) < R.length := by omega
  clear hr hM hg ok hex
  generalize gB R x = g at HR HE ⊢
  generalize R.length = n at *
  go_enter Tryd.func55, Tryd.ntmps55
  go_wp2
  go_loopw [18] (fun v wr => ∃ k : Nat, k ≤ n ∧ v = .int .i64 k ∧ (∀ z, z < k → ¬ (g z = true ∧ D z f = left)) ∧ wr = w) (fun v _ => n - (intOf v).toNat)
  case atStart => exact ⟨0, Nat.zero_le _, rfl, fun z hz => absurd hz (by omega), rfl⟩
  case round =>
    obtain ⟨k, hk, rfl, ha, rfl⟩ := hrel
    have HA := hideIt ha
    clear ha
    have hkn : k < n := Classical.byContradiction fun h => by
      obtain ⟨y, h1, h2, h3⟩ := HE.out
      exact HA.out y (by omega) ⟨h2, h3⟩
    have hkn' : (k : Int) < n := by omega
    have r1 := HR.out k hkn
    have c0 := HM.out.head k hkn
    have c1 := (HM.out.row k hkn).num f hf
    have HNo : Hid (¬ (g k = true ∧ D k f = left) → ∀ z, z < k + 1 → ¬ (g z = true ∧ D z f = left)) := fun h z hz => by
      by_cases e : z = k
      · subst e; exact h
      · exact HA.out z (by omega)
    by_cases hgk : g k = true
    · by_cases hdk : D k f = left
      · have HY := hideIt (And.intro hgk hdk)
        rw [hgk] at r1
        rw [hdk] at c1
        clear HNo hgk hdk
        go_wp2
        go_ret
        exact ⟨k, rfl, hkn, HY.out.1, HY.out.2, HA.out, rfl⟩
      · have R1 := hideIt (HNo.out fun h => hdk h.2)
        rw [hgk] at r1
        have hne : ¬ ((D k f : Nat) : Int) = (left : Int) := by omega
        generalize D k f = d at c1 hne
        clear HNo hgk hdk
        go_wp2
        go_roundw
        case rel => exact ⟨k + 1, by omega, by go_num, R1.out, by first | rfl | trivial⟩
        case measure => simp [intOf]; omega
    · have R1 := hideIt (HNo.out fun h => hgk h.1)
      have hgk' : g k = false := by simpa using hgk
      rw [hgk'] at r1
      clear HNo hgk hgk' c0 c1
      go_wp2
      go_roundw
      case rel => exact ⟨k + 1, by omega, by go_num, R1.out, by first | rfl | trivial⟩
      case measure => simp [intOf]; omega
end Go.Proofs.YtibdchahallbjabDoor
