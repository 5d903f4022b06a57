/-
  What Step of package model tells, and the world that it leaves: walked.
-/
import Derived.Test.YtcfomkogojggnaaDoorCallW
namespace Go.Proofs.YtcfomkogojggnaaDoor
open Go.RowKit

theorem clone_any (st : List Int) (v : Value) (w : World) (h : HasInts w v st) (hlen : st.length ≤ 100000) :
    Calls Tryd.prog 43 #[v] w fun e w' => ∃ v', e = .returned v' ∧ RowAt w' w.heap.size v' st ∧ Below w.heap.size w w' := by
  obtain ⟨a, cap, rfl, h1, h2, hn, h⟩ := h
  by_cases h0 : st = []
  · subst h0
    cases a with
    | none => exact (Any.slices_Clone_int_nil layClone 0 cap w).mono fun e w' ⟨he, hw⟩ => ⟨_, he, rowAt_nil _ _, by rw [hw]; exact Below.refl _ _⟩
    | some A => exact (Any.slices_Clone_int_zero layClone A cap w).mono fun e w' ⟨v', he, ho, _, hb⟩ => ⟨v', he, rowAt_owns ho, hb⟩
  · obtain h | ⟨b, off, rfl, hc⟩ := h
    · exact absurd h h0
    refine (Any.slices_Clone_int layClone b off st.length cap st w (Nat.le_refl _) (by omega) (fun j hj => by rw [getD_at hj]; exact hc j hj)).mono ?_
    rintro e w' ⟨v', he, ho, _, hb⟩
    rw [List.take_length] at ho
    exact ⟨v', he, rowAt_owns ho, hb⟩

/-- What Step tells, the program's or the document's. -/
def StepTold (w : World) (r : Option (List Int × Int)) (e : Ending) (w' : World) : Prop :=
  Below w.heap.size w w' ∧ match r with
  | none => e = .returned (.tuple #[.slice none 0 0, .int .i64 0, .bool false])
  | some (st', n) => ∃ v', e = .returned (.tuple #[v', .int .i64 n, .bool true]) ∧ RowAt w' w.heap.size v' st'

set_option maxRecDepth 100000 in
set_option maxHeartbeats 1000000 in
theorem step_any (o k a b : Int) (st : List Int) (v : Value) (w : World) (hK : KnownAt w) (hv : HasInts w v st) (hrise : o = 3 → st.Pairwise (· ≤ ·)) (hlen : st.length ≤ 100000) (hpos : 1 < w.heap.size) :
    Calls Tryd.prog 22 #[.int .i64 o, v, .int .i64 k, .int .i64 a, .int .i64 b] w fun e w' => StepTold w (stepM o st k a b) e w' := by
  have HC := hideIt (clone_any st v w hv hlen)
  have HA : Hid (∀ v1 w1, RowAt w1 w.heap.size v1 st → Below w.heap.size w w1 → Calls Tryd.prog 42 #[.int .i64 o, v1, (Opn.mk 0 0 k a b 0 0 0).agg] w1 fun e w' => StepTold w (stepM o st k a b) e w') := fun v1 w1 hr hb => by
    refine (call_any o st ⟨0, 0, k, a, b, 0, 0, 0⟩ v1 w.heap.size w1 (hK.below hpos hb) hr hrise hlen hb.size (Nat.lt_of_lt_of_le hpos hb.size)).mono ?_
    intro e w' ht
    have hbel : ∀ {x : Value}, w1.grownBy w' v1.ownBlock → Below w.heap.size w w' := fun hg => hb.grown hg hb.size (fun k hk => (hr.lt k hk).1)
    simp only [CallTold] at ht
    revert ht
    cases stepM o st k a b with
    | none => exact fun ht => ⟨hbel (x := v1) ht.2, ht.1⟩
    | some p => exact fun ⟨v', he, ht⟩ => ⟨hbel (x := v1) ht.grown, v', he, ht.row⟩
  unfold Opn.agg at HA
  clear hK hv hrise
  obtain ⟨r, hr⟩ : ∃ r, stepM o st k a b = r := ⟨_, rfl⟩
  rw [hr] at HA ⊢
  clear hr
  cases r with
  | none =>
    go_enter Tryd.func22, Tryd.ntmps22
    go_wp2_with (first | (go_at_call 43; refine HC.out.mono ?_; rintro e w1 ⟨v1, rfl, hr1, hb1⟩; have HR1 := hideIt hr1; have HB1 := hideIt hb1; clear hr1 hb1) | (go_at_call 42; refine (HA.out _ _ HR1.out HB1.out).mono ?_; rintro e w2 ⟨hb2, rfl⟩; have HB2 := hideIt hb2; clear hb2))
    go_ret3
    exact ⟨HB2.out, rfl⟩
  | some p =>
    obtain ⟨st', n⟩ := p
    go_enter Tryd.func22, Tryd.ntmps22
    go_wp2_with (first | (go_at_call 43; refine HC.out.mono ?_; rintro e w1 ⟨v1, rfl, hr1, hb1⟩; have HR1 := hideIt hr1; have HB1 := hideIt hb1; clear hr1 hb1) | (go_at_call 42; refine (HA.out _ _ HR1.out HB1.out).mono ?_; rintro e w2 ⟨hb2, v', rfl, hr2⟩; have HB2 := hideIt hb2; have HR2 := hideIt hr2; clear hb2 hr2))
    go_ret3
    exact ⟨HB2.out, _, rfl, HR2.out⟩

end Go.Proofs.YtcfomkogojggnaaDoor
