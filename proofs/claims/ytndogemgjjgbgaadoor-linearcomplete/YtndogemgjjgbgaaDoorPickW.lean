/-
  The statements' own pick and sameInts: walked.
-/
import Derived.Test.YtndogemgjjgbgaaDoorWitnessW
namespace Go.Proofs.YtndogemgjjgbgaaDoor
open Go.RowKit

def pickN (a : Int) (n : Nat) : Nat := (IntKind.u64.wrap a).toNat % n
set_option maxHeartbeats 1000000 in
theorem pick_is (a : Int) (n : Nat) (w : World) (h0 : 0 < n) (hn : n ≤ 1000000) : Calls Tryd.prog 13 #[.int .i64 a, .int .i64 n] w fun e w' => e = .returned (.int .i64 (pickN a n)) ∧ w' = w := by
  have e1 : IntKind.u64.wrap (n : Int) = (n : Int) := by rw [IntKind.wrap_u64]; omega
  have h64 : 0 ≤ IntKind.u64.wrap a := by rw [IntKind.wrap_u64]; omega
  obtain ⟨m, hm⟩ : ∃ m : Nat, IntKind.u64.wrap a = m := ⟨(IntKind.u64.wrap a).toNat, by omega⟩
  have HPN : Hid (pickN a n = m % n) := hideIt (by unfold pickN; rw [hm, Int.toNat_natCast])
  have hne : (n : Int) ≠ 0 := by omega
  have hne' : ((n : Int) == 0) = false := by simp; omega
  have HM : Hid (wrap64 ((m : Int) % (n : Int)) = ((m % n : Nat) : Int)) := hideIt (by
    have h2 : m % n < n := Nat.mod_lt _ h0
    have h3 : (m : Int) % (n : Int) = ((m % n : Nat) : Int) := by simp
    rw [h3]
    unfold wrap64
    omega)
  go_enter Tryd.func13, Tryd.ntmps13
  go_wp2
  go_ret
  exact ⟨ret_int (by rw [HPN.out]; exact HM.out), rfl⟩
theorem pick_any (a : Int) (n : Nat) (w : World) (h0 : 0 < n) (hn : n ≤ 1000000) : Calls Tryd.prog 13 #[.int .i64 a, .int .i64 n] w fun e w' => ∃ k : Nat, k < n ∧ e = .returned (.int .i64 k) ∧ w' = w :=
  (pick_is a n w h0 hn).mono fun _ _ ⟨he, hw⟩ => ⟨_, Nat.mod_lt _ h0, he, hw⟩

set_option maxHeartbeats 400000 in
theorem sameInts_same (u v : Value) (st : List Int) (w : World) (hu : HasInts w u st) (hv : HasInts w v st) :
    Calls Tryd.prog 14 #[u, v] w fun e w' => e = .returned (.bool true) ∧ Below w.heap.size w w' := by
  obtain ⟨a, c, rfl, hm0, hm1, _, ha⟩ := hu
  obtain ⟨a', c', rfl, _, _, _, ha'⟩ := hv
  unfold maxLen at hm1
  have hm : st.length ≤ 9223372036854775807 := by omega
  clear hm0 hm1
  by_cases h0 : st = []
  · subst h0
    clear ha ha' hm
    go_enter Tryd.func14, Tryd.ntmps14
    go_wp2
    refine wp_loop_rounds 1 ?_
    rw [rounds_succ]
    go_wp2
    go_ret
    exact ⟨rfl, Below.refl _ _⟩
  · obtain h | ⟨b, off, rfl, hc⟩ := ha
    · exact absurd h h0
    obtain h | ⟨b', off', rfl, hc'⟩ := ha'
    · exact absurd h h0
    have HC : Hid (∀ wr, Below w.heap.size w wr → ∀ j, (hj : j < st.length) → wr.cell? ⟨b, off + j, none⟩ = some (.int .i64 st[j]) ∧ wr.cell? ⟨b', off' + j, none⟩ = some (.int .i64 st[j])) := fun wr hW j hj =>
      ⟨(hW.cell (World.block_lt_of_cell? w _ (hc j hj))).trans (hc j hj), (hW.cell (World.block_lt_of_cell? w _ (hc' j hj))).trans (hc' j hj)⟩
    clear hc hc' h0
    go_enter Tryd.func14, Tryd.ntmps14
    go_wp2
    go_loopw [5] (fun i wr => ∃ k : Nat, k ≤ st.length ∧ i = .int .i64 k ∧ Below w.heap.size w wr) (fun i _ => st.length - (intOf i).toNat)
    case atStart => exact ⟨0, by omega, rfl, Below.refl _ _⟩
    case round =>
      obtain ⟨k, hk, rfl, hnx⟩ := hrel
      by_cases hkl : k < st.length
      · obtain ⟨c1, c2⟩ := HC.out wr hnx k hkl
        have hk1 : (0 : Int) ≤ (k : Int) := by omega
        have hk2 : (k : Int) < (st.length : Int) := by omega
        have hwr : IntKind.i64.wrap ((k : Int) + 1) = (k : Int) + 1 := by rw [IntKind.wrap_i64]; omega
        go_wp2_with fail
        go_region
        go_wp2
        go_roundw
        case rel => exact ⟨k + 1, by omega, by go_num, Below.drew hnx⟩
        case measure => simp [intOf]; omega
      · have : k = st.length := by omega
        subst this
        go_wp2
        go_ret
        exact ⟨rfl, hnx⟩

end Go.Proofs.YtndogemgjjgbgaaDoor
