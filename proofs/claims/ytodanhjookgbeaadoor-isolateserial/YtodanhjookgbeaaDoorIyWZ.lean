/-
  The document's index at numbers, walked: the first place.
  The document's wrote, walked.
-/
import Derived.Test.YtodanhjookgbeaaDoorIkWZ
import Derived.Test.YtodanhjookgbeaaDoorWalkAZ
import Derived.Deep.RegionHeld3
namespace Go.Proofs.YtodanhjookgbeaaDoor
open Go.RowKit

set_option maxRecDepth 100000 in
set_option maxHeartbeats 1000000 in
theorem dIndex_any (xs : List Int) (hn : xs.length ≤ maxLen) (x : Int) (a : Option Addr) (cap : Nat) (w : World) (h : IntsQ w a xs) :
    Calls Tryd.prog 21 #[.slice a xs.length cap, .int .i64 x] w fun e w' => e = .returned (.int .i64 (idxN xs x)) ∧ w' = w := by
  have HR := hideIt h
  have HF := hideIt (fun k (hk : k < xs.length) => idxN_first (x := x) hk)
  have HN := hideIt (idxN_none (l := xs) (x := x))
  generalize idxN xs x = r at *
  clear h
  unfold maxLen at hn
  go_enter Tryd.func21, Tryd.ntmps21
  go_wp2
  go_loopw [9] (fun v wr => ∃ k : Nat, k ≤ xs.length ∧ v = .int .i64 k ∧ (∀ j (h : j < xs.length), j < k → xs[j] ≠ x) ∧ wr = w) (fun v _ => xs.length - (intOf v).toNat)
  case atStart => exact ⟨0, Nat.zero_le _, rfl, fun j _ hj => absurd hj (by omega), rfl⟩
  case round =>
    obtain ⟨k, hk, rfl, ha, rfl⟩ := hrel
    have HA := hideIt ha
    clear ha
    by_cases hkn : k < xs.length
    · obtain ⟨g, off, rfl, hg, c0⟩ := HR.out.at hkn
      have hkn' : (k : Int) < xs.length := by omega
      by_cases e : xs[k] = x
      · have HE := hideIt (HF.out k hkn e HA.out)
        rw [e] at c0
        clear e
        have he : (x == x) = true := by simp
        go_wp2
        go_ret
        exact ⟨ret_int HE.out.symm, rfl⟩
      · have R1 : Hid (∀ j (h : j < xs.length), j < k + 1 → xs[j] ≠ x) := fun j h hj => by
          by_cases e' : j = k
          · subst e'; exact e
          · exact HA.out j h (by omega)
        generalize xs[k] = y at c0 e
        have he : (y == x) = false := by simp [e]
        clear e
        go_wp2
        go_roundw
        case rel => exact ⟨k + 1, by omega, by go_num, R1.out, trivial⟩
        case measure => simp [intOf]; omega
    · have HE := hideIt (HN.out fun j hj => HA.out j hj (by omega))
      obtain rfl : k = xs.length := by omega
      go_wp2
      go_ret
      exact ⟨ret_int HE.out.symm, rfl⟩
end Go.Proofs.YtodanhjookgbeaaDoor

namespace Go.Proofs.YtodanhjookgbeaaDoor
open Go.RowKit

set_option maxRecDepth 100000 in
set_option maxHeartbeats 1000000 in
theorem wrote_any (ops : List IOp) (c : Bool) (key : Int) (a : Option Addr) (cap : Nat) (w : World) (hm : ops.length ≤ maxLen) (h : IOpsQ w a ops) :
    Calls Tryd.prog 20 #[.agg #[.slice a ops.length cap, .bool c], .int .i64 key] w fun e w' => e = .returned (.int .i64 (wroT ⟨ops, c⟩ key : Nat)) ∧ Below w.heap.size w w' := by
  have HO := hideIt h
  have HB : Hid (Below w.heap.size w (w.alloc (.cells #[.slice a ops.length cap, .bool c] 62))) := belA (Below.refl _ _) _
  have HN : Hid (∀ k (hk : k < ops.length), wroT ⟨ops.take (k + 1), c⟩ key = wroT ⟨ops.take k, c⟩ key + if ops[k].wr && ops[k].key == key then 1 else 0) := fun k hk => by
    unfold wroT
    dsimp only
    rw [List.take_add_one, List.countP_append, List.getElem?_eq_getElem hk]
    simp
  have HLe : Hid (∀ k, wroT ⟨ops.take k, c⟩ key ≤ k) := fun k => by
    unfold wroT
    exact Nat.le_trans (List.countP_le_length) (by simp; omega)
  have HE : Hid (wroT ⟨ops.take ops.length, c⟩ key = wroT ⟨ops, c⟩ key) := by
    show _ = _
    rw [List.take_length]
  have H0 : Hid (wroT ⟨ops.take 0, c⟩ key = 0) := by simp [Hid, wroT]
  generalize wroT ⟨ops, c⟩ key = R at *
  generalize hF : (fun k => wroT ⟨ops.take k, c⟩ key) = F
  have hF' : ∀ k, wroT ⟨ops.take k, c⟩ key = F k := fun k => by rw [← hF]
  simp only [hF'] at HN HLe HE H0
  clear hF hF' h
  unfold maxLen at hm
  go_enter Tryd.func20, Tryd.ntmps20
  go_wp2
  generalize hW : w.alloc _ = W at HB ⊢
  clear hW
  go_loopw [5, 11] (fun x v wr => ∃ k : Nat, k ≤ ops.length ∧ v = .int .i64 k ∧ x = .int .i64 (F k : Nat) ∧ Below w.heap.size w wr) (fun _ v _ => ops.length - (intOf v).toNat)
  case atStart => exact ⟨0, Nat.zero_le _, rfl, by rw [H0.out]; rfl, HB.out⟩
  case round =>
    obtain ⟨k, hk, rfl, rfl, hb⟩ := hrel
    have HBw := hideIt hb
    clear hb
    by_cases hkn : k < ops.length
    · obtain ⟨g, off, rfl, hg, p1, p2, p3, p4⟩ := (HO.out.below HBw.out).at hkn
      have hkn' : (k : Int) < ops.length := by omega
      have HNk := hideIt (HN.out k hkn)
      have hle := HLe.out k
      generalize ops[k] = o at *
      obtain ⟨owr, okey, ofrm, onum⟩ := o
      have HBZ := hideIt (belA HBw.out (.cells #[.bool owr, .int .i64 okey, .int .i64 ofrm, .int .i64 onum] 68))
      dsimp only at *
      cases owr
      · have HE := hideIt (show F (k + 1) = F k by rw [HNk.out]; simp)
        go_wp2
        go_roundw
        case rel => exact ⟨k + 1, by omega, by go_num, by rw [HE.out], HBZ.out⟩
        case measure => simp [intOf]; omega
      · by_cases e : okey = key
        · have HE := hideIt (show F (k + 1) = F k + 1 by rw [HNk.out]; simp [e])
          have he : (okey == key) = true := by simp [e]
          clear e
          generalize F k = x at *
          go_wp2
          go_roundw
          case rel => exact ⟨k + 1, by omega, by go_num, by rw [HE.out]; go_num, HBZ.out⟩
          case measure => simp [intOf]; omega
        · have HE := hideIt (show F (k + 1) = F k by rw [HNk.out]; simp [e])
          have he : (okey == key) = false := by simp [e]
          clear e
          go_wp2
          go_roundw
          case rel => exact ⟨k + 1, by omega, by go_num, by rw [HE.out], HBZ.out⟩
          case measure => simp [intOf]; omega
    · obtain rfl : k = ops.length := by omega
      go_wp2
      go_ret
      exact ⟨by rw [HE.out]; rfl, HBw.out⟩
end Go.Proofs.YtodanhjookgbeaaDoor
