/-
  The statement ModelRuns walked: whatever the object, the ops and the order, true.
-/
import Derived.Test.YtcfomkogojggnaaDoorRefR
namespace Go.Proofs.YtcfomkogojggnaaDoor
open Go.RowKit

def keysB (ops : List Opn) : Bool := ops.all fun op => decide (0 ≤ op.k) && decide (op.k < 8)

set_option maxRecDepth 100000 in
set_option maxHeartbeats 1000000 in
theorem keyed_any (ops : List Opn) (u : Value) (w : World) (hu : HasOps w u ops) :
    Calls Tryd.prog 24 #[u] w fun e w' => e = .returned (.bool (keysB ops)) ∧ Below w.heap.size w w' := by
  obtain ⟨a, cap, rfl, hm, hops⟩ := hu
  unfold maxLen at hm
  have HOP : Hid (∀ n, (hn : n < ops.length) → ∃ b off, a = some ⟨b, off, none⟩ ∧ ∀ wr, Below w.heap.size w wr → OpAt wr b (off + n * 8) ops[n]) := fun n hn => by
    obtain h | ⟨b, off, e, hc⟩ := hops
    · subst h; simp at hn
    · exact ⟨b, off, e, fun wr hW => (hc n hn).below hW (hc n hn).lt⟩
  clear hops
  go_enter Tryd.func24, Tryd.ntmps24
  go_wp2
  go_loopw [3] (fun i wr => ∃ k : Nat, k ≤ ops.length ∧ i = .int .i64 k ∧ (ops.take k).all (fun op => decide (0 ≤ op.k) && decide (op.k < 8)) = true ∧ Below w.heap.size w wr) (fun i _ => ops.length - (intOf i).toNat)
  case atStart => exact ⟨0, by omega, rfl, rfl, Below.refl _ _⟩
  case round =>
    obtain ⟨k, hk, rfl, hall, hb⟩ := hrel
    have HA := hideIt hall
    have HB := hideIt hb
    clear hall hb
    by_cases hkl : k < ops.length
    · obtain ⟨b, offo, rfl, hop⟩ := HOP.out k hkl
      obtain ⟨d0, d1, _⟩ := hop _ HB.out
      clear hop
      have k1 : (0 : Int) ≤ (k : Int) := by omega
      have k2 : (k : Int) < (ops.length : Int) := by omega
      have hwr : IntKind.i64.wrap ((k : Int) + 1) = (k : Int) + 1 := by rw [IntKind.wrap_i64]; omega
      have HT : Hid (ops.take (k + 1) = ops.take k ++ [ops[k]]) := by rw [List.take_add_one, List.getElem?_eq_getElem hkl]; rfl
      have HM := hideIt (List.getElem_mem hkl)
      obtain ⟨q, hq⟩ : ∃ q, ops[k].k = q := ⟨_, rfl⟩
      have HQ := hideIt hq
      rw [hq] at d1
      clear hq
      by_cases h1 : q < 0
      · have HE : Hid (keysB ops = false) := by
          rw [← Bool.not_eq_true]
          intro h
          have := List.all_eq_true.1 h _ HM.out
          rw [HQ.out] at this
          simp at this; omega
        go_wp2
        go_ret
        exact ⟨by rw [HE.out]; rfl, HB.out⟩
      · by_cases h2 : 8 ≤ q
        · have HE : Hid (keysB ops = false) := by
            rw [← Bool.not_eq_true]
            intro h
            have := List.all_eq_true.1 h _ HM.out
            rw [HQ.out] at this
            simp at this; omega
          go_wp2
          go_ret
          exact ⟨by rw [HE.out]; rfl, HB.out⟩
        · go_wp2
          go_roundw
          case rel =>
            refine ⟨k + 1, by omega, by go_num, ?_, HB.out⟩
            rw [HT.out, List.all_append, HA.out]
            simp [HQ.out]; omega
          case measure => simp [intOf]; omega
    · have HE : Hid (keysB ops = true) := by
        have := HA.out
        rwa [List.take_of_length_le (by omega)] at this
      go_wp2
      go_ret
      exact ⟨by rw [HE.out]; rfl, HB.out⟩

set_option maxRecDepth 100000 in
set_option maxHeartbeats 1000000 in
theorem modelRuns_walk (o : Int) (ops : List Opn) (ord : List Int) (u v : Value) (w : World) (hu : HasOps w u ops) (hv : HasInts w v ord) (hK : KnownAt w) :
    Calls Tryd.prog 7 #[.int .i64 o, u, v] w fun e w' => e = .returned (.bool true) ∧ Below w.heap.size w w' := by
  have hpos : 1 < w.heap.size := World.block_lt_of_cell? w ⟨1, 0 * 13 + 0, none⟩ (hK 0 0 (by decide) (by decide))
  have HU := hideIt hu
  have HV := hideIt hv
  have HKY := hideIt (keyed_any ops u w hu)
  have HK := hideIt hK
  obtain ⟨a, cap, rfl, hm, _⟩ := hu
  obtain ⟨a', cap', rfl, hm1, hm2, _⟩ := hv
  unfold maxLen at hm hm2
  clear hK
  by_cases h1 : 60 < ops.length
  · have h1' : decide (60 < (ops.length : Int)) = true := by simp; omega
    go_enter Tryd.func7, Tryd.ntmps7
    go_wp2
    go_ret
    exact ⟨rfl, Below.refl _ _⟩
  · have h1' : decide (60 < (ops.length : Int)) = false := by simp; omega
    by_cases h2 : 60 < ord.length
    · have h2' : decide (60 < (ord.length : Int)) = true := by simp; omega
      go_enter Tryd.func7, Tryd.ntmps7
      go_wp2
      go_ret
      exact ⟨rfl, Below.refl _ _⟩
    · have h2' : decide (60 < (ord.length : Int)) = false := by simp; omega
      cases hk : keysB ops
      · rw [hk] at HKY
        go_enter Tryd.func7, Tryd.ntmps7
        go_wp2_with (go_at_call 24; refine HKY.out.mono ?_; rintro e w1 ⟨rfl, hb1⟩; have HB1 := hideIt hb1; clear hb1)
        go_ret
        exact ⟨rfl, HB1.out⟩
      · rw [hk] at HKY
        have hkey : ∀ op ∈ ops, 0 ≤ op.k ∧ op.k < 8 := fun op hop => by
          have := List.all_eq_true.1 hk op hop
          simpa using this
        have HR : Hid (∀ w1, Below w.heap.size w w1 → Calls Tryd.prog 25 #[.int .i64 o, .slice a ops.length cap, .slice a' ord.length cap'] w1 fun e w' => ∃ z, e = .returned (.int .i64 z) ∧ RunTold o ops ord z ∧ Below w1.heap.size w1 w') := fun w1 hb =>
          run_any o ops ord _ _ w1 (HU.out.below hb) (HV.out.below hb) (HK.out.below hpos hb) (Nat.lt_of_lt_of_le hpos hb.size) (by omega) hkey
        have HF : Hid (∀ w1, Below w.heap.size w w1 → Calls Tryd.prog 26 #[.int .i64 o, .slice a ops.length cap, .slice a' ord.length cap'] w1 fun e w' => ∃ z, e = .returned (.int .i64 z) ∧ RunTold o ops ord z ∧ Below w1.heap.size w1 w') := fun w1 hb =>
          refRun_any o ops ord _ _ w1 (HU.out.below hb) (HV.out.below hb) (by omega) hkey
        clear hkey
        go_enter Tryd.func7, Tryd.ntmps7
        go_wp2_with (first | (go_at_call 24; refine HKY.out.mono ?_; rintro e w1 ⟨rfl, hb1⟩; have HB1 := hideIt hb1; clear hb1) | (go_at_call 25; refine (HR.out _ HB1.out).mono ?_; rintro e w2 ⟨z, rfl, ht2, hb2⟩; have HT2 := hideIt ht2; have HB2 := hideIt (belJ HB1.out hb2); clear ht2 hb2) | (go_at_call 26; refine (HF.out _ HB2.out).mono ?_; rintro e w3 ⟨y, rfl, ht3, hb3⟩; obtain rfl := runTold_one HT2.out ht3; have HB3 := hideIt (belJ HB2.out hb3); clear ht3 hb3))
        go_ret
        exact ⟨by simp, HB3.out⟩

end Go.Proofs.YtcfomkogojggnaaDoor
