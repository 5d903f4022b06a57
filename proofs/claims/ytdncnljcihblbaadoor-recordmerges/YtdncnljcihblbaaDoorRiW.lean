/-
  Whether tickets rise: walked.
-/
import Derived.Test.YtdncnljcihblbaaDoorSortK
import Derived.Test.YtdncnljcihblbaaDoorEvM
namespace Go.Proofs.YtdncnljcihblbaaDoor
open Go.RowKit

theorem riseB_iff : ∀ (l : List Int), riseB l = true ↔ ∀ i, (h : i + 1 < l.length) → l[i] < l[i + 1]
  | [] => ⟨fun _ i h => by simp at h, fun _ => rfl⟩
  | [a] => ⟨fun _ i h => by simp at h, fun _ => rfl⟩
  | a :: b :: l => by
    rw [riseB, Bool.and_eq_true, decide_eq_true_eq, riseB_iff (b :: l)]
    constructor
    · rintro ⟨h1, h2⟩ i hi
      cases i with
      | zero => exact h1
      | succ i => exact h2 i (by simpa using hi)
    · intro h
      exact ⟨h 0 (by simp), fun i hi => h (i + 1) (by simpa using hi)⟩

set_option maxHeartbeats 1000000 in
set_option maxRecDepth 100000 in
theorem rise_any (v : Value) (l : List Int) (w : World) (hq : InQ w v l) (hl : l.length ≤ 1000000) :
    Calls Tryd.prog 32 #[v] w fun e w' => e = .returned (.bool (riseB l)) ∧ ∃ n, w' = w.drewN n := by
  obtain ⟨a, c, rfl, hc, hA⟩ := hq
  have HA := hideIt hA
  clear hA
  go_enter Tryd.func32, Tryd.ntmps32
  go_wp2
  go_loopw [3] (fun i wr => ∃ k n : Nat, 1 ≤ k ∧ i = .int .i64 k ∧ wr = w.drewN n ∧ ∀ j, (h : j + 1 < l.length) → j + 1 < k → l[j] < l[j + 1]) (fun i _ => l.length - (intOf i).toNat)
  case atStart => exact ⟨1, 0, by omega, rfl, rfl, fun j _ h => by omega⟩
  case round =>
    obtain ⟨k, n, hk, rfl, rfl, hup⟩ := hrel
    have HU := hideIt hup
    clear hup
    by_cases hlt : k < l.length
    · rcases HA.out with h0 | ⟨b, o, rfl, hb, hcell⟩
      · rw [h0] at hlt; exact absurd hlt (Nat.not_lt_zero _)
      · have c0 := hcell (k - 1) (by omega)
        have c1 := hcell k hlt
        have HL : Hid (∀ x y, l[k - 1] = x → l[k] = y → ((x < y → ∀ j, (h : j + 1 < l.length) → j + 1 < k + 1 → l[j] < l[j + 1]) ∧ (¬ x < y → riseB l = false))) := by
          intro x y hx hy
          obtain ⟨m, rfl⟩ : ∃ m, k = m + 1 := ⟨k - 1, by omega⟩
          refine ⟨fun hxy j hj hjk => ?_, fun hxy => ?_⟩
          · by_cases e : j = m
            · subst e; simp at hx; rw [hx, hy]; exact hxy
            · exact HU.out j hj (by omega)
          · cases hr : riseB l
            · rfl
            · exact absurd (by have := (riseB_iff l).1 hr m hlt; simp at hx; rw [hx, hy] at this; exact this) hxy
        have HX := hideIt (HL.out l[k - 1] l[k] rfl rfl)
        clear HL hcell
        generalize l[k - 1] = x at *
        generalize l[k] = y at *
        have k1 : (1 : Int) ≤ (k : Int) := by omega
        have k2 : (k : Int) < (l.length : Int) := by omega
        by_cases hxy : x < y
        · have hle : ¬ y ≤ x := by omega
          have HN := hideIt (HX.out.1 hxy)
          clear HX
          go_wp2_with fail
          go_quiet (fail)
          go_wp2
          go_roundw
          case rel => exact ⟨k + 1, _, by omega, by go_num, rfl, HN.out⟩
          case measure => simp [intOf]; omega
        · have hle : y ≤ x := by omega
          have HN := hideIt (HX.out.2 hxy)
          clear HX
          go_wp2_with fail
          go_quiet (fail)
          go_wp2
          go_ret
          exact ⟨by rw [HN.out]; rfl, n + nq, by simp⟩
    · have HT : Hid (riseB l = true) := (riseB_iff l).2 (fun j h => HU.out j h (by omega))
      go_wp2
      go_ret
      exact ⟨by rw [HT.out]; rfl, n, rfl⟩

end Go.Proofs.YtdncnljcihblbaaDoor
