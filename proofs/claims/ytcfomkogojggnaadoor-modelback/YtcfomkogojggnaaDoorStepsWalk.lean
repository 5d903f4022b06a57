/-
  The statement ModelSteps walked: whatever the object, the state and the call, true.
-/
import Derived.Test.YtcfomkogojggnaaDoorRefU
namespace Go.Proofs.YtcfomkogojggnaaDoor
open Go.RowKit

theorem belD {n : Nat} {w W : World} (h : Below n w W) (q : Nat) : Below n w (W.drewN q) := ⟨h.os, h.tape, h.output, h.size, h.block⟩
theorem belJ {w W w1 : World} (h : Below w.heap.size w W) (hb : Below W.heap.size W w1) : Below w.heap.size w w1 := h.trans (hb.mono h.size)

theorem rises_adj : ∀ {st : List Int}, (∀ i, (h : i + 1 < st.length) → st[i] < st[i + 1]) → st.Pairwise (· < ·)
  | [], _ => List.Pairwise.nil
  | [x], _ => by simp
  | x :: y :: r, h => by
    have ih : (y :: r).Pairwise (· < ·) := rises_adj fun i hi => by
      have := h (i + 1) (by simp at hi ⊢; omega)
      simpa using this
    have hxy : x < y := by simpa using h 0 (by simp)
    refine List.pairwise_cons.2 ⟨fun z hz => ?_, ih⟩
    rcases List.mem_cons.1 hz with rfl | hz
    · exact hxy
    · have := (List.pairwise_cons.1 ih).1 z hz
      omega

set_option maxRecDepth 100000 in
set_option maxHeartbeats 4000000 in
theorem modelSteps_walk (o k a b : Int) (st : List Int) (v : Value) (w : World) (hK : KnownAt w) (hv : HasInts w v st) :
    Calls Tryd.prog 6 #[.int .i64 o, v, .int .i64 k, .int .i64 a, .int .i64 b] w fun e w' => e = .returned (.bool true) ∧ Below w.heap.size w w' := by
  have HK := hideIt hK
  have HV := hideIt hv
  have hpos : 1 < w.heap.size := World.block_lt_of_cell? w ⟨1, 0 * 13 + 0, none⟩ (hK 0 0 (by decide) (by decide))
  obtain ⟨A, cap, rfl, hc1, hc2, _, hcell⟩ := hv
  have hmax : st.length ≤ 9223372036854775807 := by unfold maxLen at hc2; omega
  have HC : Hid (∀ n, (hn : n < st.length) → ∃ g off, A = some ⟨g, off, none⟩ ∧ ∀ i, (hi : i < st.length) → ∀ wr, Below w.heap.size w wr → wr.cell? ⟨g, off + i, none⟩ = some (.int .i64 st[i])) := fun n hn => by
    obtain h | ⟨g, off, e, hc⟩ := hcell
    · subst h; simp at hn
    · exact ⟨g, off, e, fun i hi wr hW => (hW.cell (World.block_lt_of_cell? w _ (hc i hi))).trans (hc i hi)⟩
  clear hcell hK hc1 hc2
  go_enter Tryd.func6, Tryd.ntmps6
  go_wp2
  go_loopw [11] (fun i wr => ∃ n : Nat, 1 ≤ n ∧ n ≤ st.length + 1 ∧ i = .int .i64 n ∧ (o = 3 → ∀ i, i + 1 < n → (h : i + 1 < st.length) → st[i] < st[i + 1]) ∧ Below w.heap.size w wr) (fun i _ => st.length + 1 - (intOf i).toNat)
  case atStart => exact ⟨1, by omega, by omega, rfl, fun _ i hi => by omega, Below.refl _ _⟩
  case round =>
    obtain ⟨n, hn1, hn2, rfl, hr, hb⟩ := hrel
    have HR := hideIt hr
    have HB := hideIt hb
    clear hr hb
    by_cases hnl : n < st.length
    · obtain ⟨g, off, rfl, hc⟩ := HC.out n hnl
      obtain ⟨m, rfl⟩ : ∃ m, n = m + 1 := ⟨n - 1, by omega⟩
      have c1 := hc (m + 1) hnl _ HB.out
      have c2 := hc m (by omega) _ HB.out
      clear hc
      have hwr : IntKind.i64.wrap (((m + 1 : Nat) : Int) + 1) = ((m + 1 : Nat) : Int) + 1 := by rw [IntKind.wrap_i64]; omega
      have hwm : IntKind.i64.wrap (((m + 1 : Nat) : Int) - 1) = (m : Int) := by rw [IntKind.wrap_i64]; omega
      have hwm2 : IntKind.i64.wrap (m : Int) = (m : Int) := by rw [IntKind.wrap_i64]; omega
      have k1 : (0 : Int) ≤ ((m + 1 : Nat) : Int) := by omega
      have k2 : ((m + 1 : Nat) : Int) < (st.length : Int) := by omega
      have k3 : (0 : Int) ≤ (m : Int) := by omega
      have k4 : (m : Int) < (st.length : Int) := by omega
      have k5 : (m : Int) + 1 < (st.length : Int) := by omega
      obtain ⟨x, hx⟩ : ∃ x, st[m + 1] = x := ⟨_, rfl⟩
      obtain ⟨y, hy⟩ : ∃ y, st[m] = y := ⟨_, rfl⟩
      rw [hx] at c1
      rw [hy] at c2
      have HX := hideIt hx
      have HY := hideIt hy
      clear hx hy
      cases ho : (o == 3)
      · go_wp2_with fail
        go_quiet (fail)
        go_wp2
        go_roundw
        case rel => exact ⟨m + 2, by omega, by omega, by go_num, fun e => by simp [e] at ho, belD HB.out _⟩
        case measure => simp [intOf]; omega
      · cases hxy : decide (x ≤ y)
        · go_wp2_with fail
          go_quiet (fail)
          go_wp2
          go_roundw
          case rel =>
            refine ⟨m + 2, by omega, by omega, by go_num, fun e i hi h => ?_, belD HB.out _⟩
            by_cases hi' : i + 1 < m + 1
            · exact HR.out e i hi' h
            · obtain rfl : i = m := by omega
              have : ¬ x ≤ y := by simpa using hxy
              rw [HX.out, HY.out]; omega
          case measure => simp [intOf]; omega
        · go_wp2_with fail
          go_quiet (fail)
          go_wp2
          go_ret
          exact ⟨rfl, belD HB.out _⟩
    · have hrise : o = 3 → st.Pairwise (· < ·) := fun e => rises_adj fun i h => HR.out e i (by omega) h
      by_cases h60 : 60 < st.length
      · go_wp2
        go_ret
        exact ⟨rfl, HB.out⟩
      · have h60' : decide (60 < (st.length : Int)) = false := by simp; omega
        obtain ⟨r, hr⟩ : ∃ r, stepM o st k a b = r := ⟨_, rfl⟩
        have HS := hideIt (step_any o k a b st _ wr (HK.out.below hpos HB.out) (HV.out.below HB.out) (fun e => (hrise e).imp fun h => Int.le_of_lt h) (by omega) (Nat.lt_of_lt_of_le hpos HB.out.size))
        have HF : Hid (∀ w1, Below wr.heap.size wr w1 → Calls Tryd.prog 23 #[.int .i64 o, .slice A st.length cap, .int .i64 k, .int .i64 a, .int .i64 b] w1 fun e w' => StepTold w1 (stepM o st k a b) e w') := fun w1 hb1 =>
          refStep_any o k a b st _ w1 ((HV.out.below HB.out).below hb1) hrise (by omega)
        rw [hr] at HS HF
        clear hr hrise
        cases r with
        | none =>
          go_wp2_with (first | (go_at_call 22; refine HS.out.mono ?_; rintro e w1 ⟨hb1, rfl⟩; have HB1 := hideIt hb1; clear hb1) | (go_at_call 23; refine (HF.out _ HB1.out).mono ?_; rintro e w2 ⟨hb2, rfl⟩; have HB2 := hideIt hb2; clear hb2) | (go_at_call 19; refine (sameInts_same _ _ [] _ (rowAt_nil _ 0).has (rowAt_nil _ 0).has).mono ?_; rintro e w3 ⟨rfl, hb3⟩; have HB3 := hideIt hb3; clear hb3))
          go_ret
          exact ⟨rfl, belJ (belJ (belJ HB.out HB1.out) HB2.out) HB3.out⟩
        | some p =>
          obtain ⟨st', n'⟩ := p
          have hnn : (n' == n') = true := by simp
          go_wp2_with (first | (go_at_call 22; refine HS.out.mono ?_; rintro e w1 ⟨hb1, v1, rfl, hr1⟩; have HB1 := hideIt hb1; have HR1 := hideIt hr1; clear hb1 hr1) | (go_at_call 23; refine (HF.out _ HB1.out).mono ?_; rintro e w2 ⟨hb2, v2, rfl, hr2⟩; have HB2 := hideIt hb2; have HR2 := hideIt hr2; clear hb2 hr2) | (go_at_call 19; refine (sameInts_same _ _ st' _ (HR1.out.has.below HB2.out) HR2.out.has).mono ?_; rintro e w3 ⟨rfl, hb3⟩; have HB3 := hideIt hb3; clear hb3))
          go_ret
          exact ⟨rfl, belJ (belJ (belJ HB.out HB1.out) HB2.out) HB3.out⟩

end Go.Proofs.YtcfomkogojggnaaDoor
