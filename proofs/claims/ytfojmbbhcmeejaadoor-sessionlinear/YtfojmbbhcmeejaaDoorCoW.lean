/-
  The statement CausalOrder, walked.
-/
import Derived.Test.YtfojmbbhcmeejaaDoorAhWZ
import Derived.Test.YtfojmbbhcmeejaaDoorJudgeWZ
import Derived.BigQuiet
namespace Go.Proofs.YtfojmbbhcmeejaaDoor
open Go.RowKit

theorem aheadK_trans {l : List Opn} {i j k : Nat} (hj : j < l.length) (h1 : aheadK l i j = true) (h2 : aheadK l j k = true) : aheadK l i k = true := war_closed l.length i j k hj h1 h2
theorem aheadK_own {l : List Opn} {i k : Nat} (h1 : (opZ l i).p = (opZ l k).p) (h2 : (opZ l i).c < (opZ l k).c) : aheadK l i k = true := war_base (by unfold roadB; simp [h1, h2]) l.length
theorem aheadK_self {l : List Opn} {i : Nat} (hi : i < l.length) (ht : firstN (thinB l) l.length = none) (hc : (findsK l).1 ≠ 2) : aheadK l i i = false := by
  rcases firstN_cases (fun i => aheadK l i i) l.length with ⟨_, h⟩ | ⟨k, _, e, _⟩
  · exact h i hi
  · exfalso
    apply hc
    unfold findsK
    rw [ht]
    simp only
    rw [e]; rfl

theorem opsQ_in {w : World} {u : Value} {l : List Opn} (h : OpsIn w u l) : ∃ a cap, u = .slice a l.length cap ∧ l.length ≤ cap ∧ l.length ≤ maxLen ∧ OpsQ w a l := by
  obtain ⟨a, cap, e, h1, h2, h3⟩ := h
  exact ⟨a, cap, e, h1, h2, h3⟩

set_option maxRecDepth 100000 in
set_option maxHeartbeats 4000000 in
theorem co_walk (l : List Opn) (u : Value) (w : World) (hl : OpsIn w u l) (hK : KnownAt w) :
    Calls Tryd.prog 6 #[u] w fun e w' => e = .returned (.bool true) ∧ Below w.heap.size w w' := by
  have hpos : 0 < w.heap.size := World.block_lt_of_cell? w ⟨0, 0 * 13 + 0, none⟩ (hK 0 0 (by decide) (by decide))
  obtain ⟨a, cap, rfl, hcap, hml, hh⟩ := opsQ_in hl
  unfold maxLen at hml
  by_cases h8 : 25 < l.length
  · have h8' : decide (25 < (l.length : Int)) = true := by simp; omega
    clear hl hh hK
    go_enter Tryd.func6, Tryd.ntmps6
    go_wp2
    go_ret
    exact ⟨rfl, Below.refl _ _⟩
  · have h8' : decide (25 < (l.length : Int)) = false := by simp; omega
    have HA := hideIt (kAhead_any l a cap w (by omega) hcap hh)
    have HF : Hid (∀ w1, Below w.heap.size w w1 → Calls Tryd.prog 17 #[.slice a l.length cap] w1 fun e w' => FdTold l w1 e w') := hideIt (fun w1 hb => kFinds_any l a cap w1 (by omega) hcap (hh.below hb))
    have HT : Hid (∀ w1, Below w.heap.size w w1 → Calls Tryd.prog 18 #[] w1 fun e w' => e = .returned (.bool true) ∧ Below w1.heap.size w1 w') := hideIt (fun w1 hb => toldK_any w1 (hK.below hpos hb))
    have HL := hideIt hh
    clear hl hh hK
    go_enter Tryd.func6, Tryd.ntmps6
    go_wp2_with fail
    refine HA.out.mono ?_
    rintro e w1 ⟨hb1, h1⟩
    have HB1 := hideIt hb1
    clear hb1 HA
    have hE : (∃ n, n ≠ 0 ∧ e = .returned (.tuple #[.slice none 0 0, toldV n])) ∨ (KTold l 0 ∧ firstN (thinB l) l.length = none ∧ ∃ B rb, MatAt w1 w.heap.size B l.length l.length rb (aheadK l) ∧ e = .returned (.tuple #[.slice (some ⟨B, 0, none⟩) l.length l.length, .nilIface])) := by
      rcases h1 with ⟨n, hn, _, e⟩ | ⟨_, _, e⟩ | h
      · exact .inl ⟨n, hn, e⟩
      · exact .inl ⟨8, by decide, e⟩
      · exact .inr h
    clear h1
    rcases hE with ⟨n, hn, rfl⟩ | ⟨hk0, hth, B, rb, hmat, rfl⟩
    · rw [show toldV n = .iface 23 (.int .i64 n) from by simp [toldV, hn]]
      go_wp2_with fail
      refine (HF.out _ HB1.out).mono ?_
      rintro e w2 ⟨n2, c, p, q, rfl, _, _, _, hb2⟩
      have HB2 := hideIt (belJ HB1.out hb2)
      clear hb2
      go_wp2_with fail
      refine (HT.out _ HB2.out).mono ?_
      rintro e w3 ⟨rfl, hb3⟩
      have HB3 := hideIt (belJ HB2.out hb3)
      clear hb3
      go_wp2_with fail
      refine (HT.out _ HB3.out).mono ?_
      rintro e w4 ⟨rfl, hb4⟩
      go_wp2
      go_ret
      exact ⟨rfl, belJ HB3.out hb4⟩
    · have HMat := hideIt hmat
      have HTh := hideIt hth
      have HK0 := hideIt hk0
      clear hmat hth hk0
      go_wp2_with fail
      refine (HF.out _ HB1.out).mono ?_
      rintro e w2 ⟨n2, c, p, q, rfl, hkt, hf0, _, hb2⟩
      obtain rfl := hkt.one HK0.out
      rw [show toldV 0 = .nilIface from by simp [toldV]]
      have HC : Hid ((findsK l).1 = c) := by
        have := hf0 rfl
        show (findsK l).1 = c
        rw [← this]
      have HB2 := hideIt (belJ HB1.out hb2)
      have HMat2 := hideIt (HMat.out.below hb2)
      clear hb2 hkt hf0 HMat
      go_wp2_with fail
      refine (HT.out _ HB2.out).mono ?_
      rintro e w3 ⟨rfl, hb3⟩
      have HB3 := hideIt (belJ HB2.out hb3)
      have HMat3 := hideIt (HMat2.out.below hb3)
      clear hb3 HMat2 HB2
      go_wp2
      go_loopw [9] (fun v wr => ∃ i : Nat, i ≤ l.length ∧ v = .int .i64 i ∧ wr = w3) (fun v _ => l.length - (intOf v).toNat)
      case atStart => exact ⟨0, Nat.zero_le _, rfl, rfl⟩
      case round =>
        obtain ⟨i, hi, rfl, rfl⟩ := hrel
        by_cases hil : i < l.length
        · have c1 := HMat3.out.head i hil
          by_cases hc : c = 2
          · have hc' : (c != 2) = false := by simp [hc]
            clear hc
            go_wp2
            go_roundw
            case rel => exact ⟨i + 1, by omega, by go_num, by simp⟩
            case measure => simp [intOf]; omega
          · have hc' : (c != 2) = true := by simp [hc]
            have c2 := (HMat3.out.row i hil).bit i hil
            rw [aheadK_self hil HTh.out (by rw [HC.out]; exact hc)] at c2
            clear hc
            go_wp2
            go_roundw
            case rel => exact ⟨i + 1, by omega, by go_num, by simp⟩
            case measure => simp [intOf]; omega
        · go_wp2
          go_loopw [10] (fun v wr => ∃ i : Nat, i ≤ l.length ∧ v = .int .i64 i ∧ MatAt wr w.heap.size B l.length l.length rb (aheadK l) ∧ Below w.heap.size w wr) (fun v _ => l.length - (intOf v).toNat)
          case atStart => exact ⟨0, Nat.zero_le _, rfl, HMat3.out, HB3.out⟩
          case round =>
            clear hil hi HMat3 HB3
            obtain ⟨i, hi, rfl, hm4, hb4⟩ := hrel
            have HMat4 := hideIt hm4
            have HB4 := hideIt hb4
            clear hm4 hb4
            by_cases hil : i < l.length
            · go_wp2
              go_loopw [11] (fun v wr => ∃ k : Nat, k ≤ l.length ∧ v = .int .i64 k ∧ MatAt wr w.heap.size B l.length l.length rb (aheadK l) ∧ Below w.heap.size w wr) (fun v _ => l.length - (intOf v).toNat)
              case atStart => exact ⟨0, Nat.zero_le _, rfl, HMat4.out, HB4.out⟩
              case round =>
                clear HMat4 HB4
                obtain ⟨k, hk, rfl, hm5, hb5⟩ := hrel
                have HMat5 := hideIt hm5
                have HB5 := hideIt hb5
                clear hm5 hb5
                by_cases hkl : k < l.length
                · go_wp2
                  go_loopw [12] (fun v wr' => ∃ j : Nat, j ≤ l.length ∧ v = .int .i64 j ∧ wr' = wr) (fun v _ => l.length - (intOf v).toNat)
                  case atStart => exact ⟨0, Nat.zero_le _, rfl, rfl⟩
                  case round =>
                    obtain ⟨j, hj, rfl, rfl⟩ := hrel
                    by_cases hjl : j < l.length
                    · have c1 := HMat5.out.head i hil
                      have c2 := (HMat5.out.row i hil).bit j hjl
                      have c3 := HMat5.out.head j hjl
                      have c4 := (HMat5.out.row j hjl).bit k hkl
                      have c5 := (HMat5.out.row i hil).bit k hkl
                      cases h1 : aheadK l i j
                      · rw [h1] at c2
                        clear h1
                        go_wp2
                        go_roundw
                        case rel => exact ⟨j + 1, by omega, by go_num, by simp⟩
                        case measure => simp [intOf]; omega
                      · cases h2 : aheadK l j k
                        · rw [h1] at c2
                          rw [h2] at c4
                          clear h1 h2
                          go_wp2
                          go_roundw
                          case rel => exact ⟨j + 1, by omega, by go_num, by simp⟩
                          case measure => simp [intOf]; omega
                        · rw [aheadK_trans hjl h1 h2] at c5
                          rw [h1] at c2
                          rw [h2] at c4
                          clear h1 h2
                          go_wp2
                          go_roundw
                          case rel => exact ⟨j + 1, by omega, by go_num, by simp⟩
                          case measure => simp [intOf]; omega
                    · obtain ⟨b, off, ha, hlt, hops⟩ : ∃ b off, a = some ⟨b, off, none⟩ ∧ b < w.heap.size ∧ OpsAt w b off l := by
                        rcases HL.out with h | h
                        · subst h; simp at hil
                        · exact h
                      subst ha
                      obtain ⟨c0, _, _, _, _, _, c6, _⟩ := (hops i hil).below hlt HB5.out
                      obtain ⟨d0, _, _, _, _, _, d6, _⟩ := (hops k hkl).below hlt HB5.out
                      have HI : Hid (opZ l i = l[i]) := opZ_at hil
                      have HKK : Hid (opZ l k = l[k]) := opZ_at hkl
                      have e1 := HMat5.out.head i hil
                      have e2 := (HMat5.out.row i hil).bit k hkl
                      have HMatD : Hid (∀ nq, MatAt (wr.drewN nq) w.heap.size B l.length l.length rb (aheadK l) ∧ Below w.heap.size w (wr.drewN nq)) := fun nq => ⟨HMat5.out.below (below_drewN (Below.refl _ _) nq), below_drewN HB5.out nq⟩
                      generalize l[i] = x at c0 c6 HI
                      generalize l[k] = y at d0 d6 HKK
                      clear hops
                      by_cases hp : x.p = y.p
                      · have hp' : (x.p == y.p) = true := by simp [hp]
                        by_cases hcc : x.c < y.c
                        · have hc' : decide (x.c < y.c) = true := by simp [hcc]
                          rw [aheadK_own (l := l) (i := i) (k := k) (by rw [HI.out, HKK.out]; exact hp) (by rw [HI.out, HKK.out]; exact hcc)] at e2
                          clear hp hcc
                          go_wp2_with fail
                          go_big_quiet (fail)
                          go_wp2
                          go_roundw
                          case rel => exact ⟨k + 1, by omega, by go_num, (HMatD.out _).1, (HMatD.out _).2⟩
                          case measure => simp [intOf]; omega
                        · have hc' : decide (x.c < y.c) = false := by simp [hcc]
                          clear hp hcc
                          go_wp2_with fail
                          go_big_quiet (fail)
                          go_wp2
                          go_roundw
                          case rel => exact ⟨k + 1, by omega, by go_num, (HMatD.out _).1, (HMatD.out _).2⟩
                          case measure => simp [intOf]; omega
                      · have hp' : (x.p == y.p) = false := by simp [hp]
                        clear hp
                        go_wp2_with fail
                        go_big_quiet (fail)
                        go_wp2
                        go_roundw
                        case rel => exact ⟨k + 1, by omega, by go_num, (HMatD.out _).1, (HMatD.out _).2⟩
                        case measure => simp [intOf]; omega
                · go_wp2
                  go_roundw
                  case rel => exact ⟨i + 1, by omega, by go_num, HMat5.out, HB5.out⟩
                  case measure => simp [intOf]; omega
            · go_wp2
              go_ret
              exact ⟨rfl, HB4.out⟩
end Go.Proofs.YtfojmbbhcmeejaaDoor
