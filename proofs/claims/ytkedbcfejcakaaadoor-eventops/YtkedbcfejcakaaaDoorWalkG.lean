/-
  What CheckOps of package event does: it tells the first fault.
-/
import Derived.Test.YtkedbcfejcakaaaDoorWalkF
namespace Go.Proofs.YtkedbcfejcakaaaDoor
open Go.RowKit

theorem opFault_at (l : List Opn) (k : Nat) (x : Opn) (b off cap : Nat) (w : World) (hk : k ≤ l.length) (hlen : l.length ≤ 60) (hl : OpsAt w b off l) (hb : b < w.heap.size) :
    Calls Tryd.prog 28 #[.slice (some ⟨b, off, none⟩) k cap, x.agg] w fun e w' => e = .returned (.int .i64 (opFaultN (l.take k) x)) ∧ Below w.heap.size w w' := by
  have h := opFault_any (l.take k) x b off cap w (by simp; omega) (hl.take k) hb
  rwa [List.length_take, Nat.min_eq_left hk] at h

theorem toldV_some {n : Int} (h : n ≠ 0) : toldV n = .iface 28 (.int .i64 n) := by simp [toldV, h]
theorem told4 (l : List Opn) (h : 40 < l.length) : Told l 4 := .inl ⟨h, rfl⟩
theorem told0 (l : List Opn) (h : l.length ≤ 40) (h2 : ∀ j, (h : j < l.length) → opFaultN (l.take j) l[j] = 0) : Told l 0 := .inr (.inl ⟨h, h2, rfl⟩)
theorem toldAt (l : List Opn) (h : l.length ≤ 40) (k : Nat) (hk : k < l.length) (h2 : ∀ j, (hj : j < k) → opFaultN (l.take j) (l[j]'(Nat.lt_trans hj hk)) = 0) (h3 : opFaultN (l.take k) l[k] ≠ 0) : Told l (opFaultN (l.take k) l[k]) := .inr (.inr ⟨h, k, hk, h2, h3, rfl⟩)

/-- So far there is no fault. -/
def FineTo (l : List Opn) (k : Nat) : Prop := ∀ j, (h : j < l.length) → j < k → opFaultN (l.take j) l[j] = 0
theorem fineTo_zero (l : List Opn) : FineTo l 0 := fun j _ h => by omega
theorem FineTo.succ {l : List Opn} {k : Nat} (h : FineTo l k) (hk : k < l.length) (h0 : opFaultN (l.take k) l[k] = 0) : FineTo l (k + 1) := fun j hj hjk => by
  by_cases e : j = k
  · subst e; exact h0
  · exact h j hj (by omega)

set_option maxHeartbeats 1000000 in
theorem checkOps_any (l : List Opn) (b off cap : Nat) (w : World) (hlen : l.length ≤ 60) (hcap : l.length ≤ cap) (hl : OpsAt w b off l) (hb : b < w.heap.size) :
    Calls Tryd.prog 17 #[.slice (some ⟨b, off, none⟩) l.length cap] w fun e w' => ∃ n, e = .returned (toldV n) ∧ Told l n ∧ Below w.heap.size w w' := by
  have HL : Hid (OpsAt w b off l) := hl
  clear hl
  by_cases h40 : 40 < l.length
  · have HT : Hid (Told l 4) := told4 l h40
    go_enter Tryd.func17, Tryd.ntmps17
    go_wp2
    go_ret
    exact ⟨4, rfl, HT.out, Below.refl _ _⟩
  · go_enter Tryd.func17, Tryd.ntmps17
    go_wp2
    go_loopw [12] (fun i wr => ∃ k : Nat, k ≤ l.length ∧ i = .int .i64 k ∧ FineTo l k ∧ Below w.heap.size w wr) (fun i _ => l.length - (intOf i).toNat)
    case atStart => exact ⟨0, Nat.zero_le _, rfl, fineTo_zero l, Below.refl _ _⟩
    case round =>
      obtain ⟨k, hk, rfl, hf, hnx⟩ := hrel
      have HF : Hid (FineTo l k) := hf
      clear hf
      by_cases hkl : k < l.length
      · obtain ⟨c0, c1, c2, c3, c4, c5, c6, c7⟩ := (HL.out k hkl).below hb hnx
        obtain ⟨n, HN⟩ : ∃ n, Hid (opFaultN (l.take k) l[k] = n) := ⟨_, hideIt rfl⟩
        have HS : Hid (∀ W, Below w.heap.size w W → Calls Tryd.prog 28 #[.slice (some ⟨b, off, none⟩) k cap, l[k].agg] W fun e w' => e = .returned (.int .i64 n) ∧ Below W.heap.size W w') := fun W hW => by
          have h := opFault_at l k l[k] b off cap W hk hlen (HL.out.below hb hW) (Nat.lt_of_lt_of_le hb hW.size)
          rwa [HN.out] at h
        by_cases hz : n = 0
        · have hz' : (n != 0) = false := by simp [hz]
          have R1 : Hid (FineTo l (k + 1)) := HF.out.succ hkl (HN.out.trans hz)
          clear hz
          go_wp2_with fail
          go_region_with (go_at_call 28; refine (HS.out _ ?_).mono ?_; (repeat (first | exact hnx | refine Below.drew ?_ | refine belA ?_ _)); rintro e w1 ⟨rfl, hb1⟩)
          all_goals
            have R2 : Hid (Below w.heap.size w w1) := belJ (by repeat (first | exact hnx | refine Below.drew ?_ | refine belA ?_ _)) hb1
            clear hb1
            go_wp2
            go_roundw
            case rel => exact ⟨k + 1, by omega, by go_num, R1.out, R2.out⟩
            case measure => simp [intOf]; omega
        · have hz' : (n != 0) = true := by simp [hz]
          have R1 : Hid (Told l n) := by
            have h := toldAt l (by omega) k hkl (fun j hj => HF.out j (by omega) hj) (by rw [HN.out]; exact hz)
            rw [HN.out] at h
            exact h
          have R3 : Hid (toldV n = .iface 28 (.int .i64 n)) := toldV_some hz
          clear hz
          go_wp2_with fail
          go_region_with (go_at_call 28; refine (HS.out _ ?_).mono ?_; (repeat (first | exact hnx | refine Below.drew ?_ | refine belA ?_ _)); rintro e w1 ⟨rfl, hb1⟩)
          all_goals
            have R2 : Hid (Below w.heap.size w w1) := belJ (by repeat (first | exact hnx | refine Below.drew ?_ | refine belA ?_ _)) hb1
            clear hb1
            go_wp2
            go_ret
            exact ⟨n, by rw [R3.out]; rfl, R1.out, R2.out⟩
      · have R1 : Hid (Told l 0) := told0 l (by omega) (fun j hj => HF.out j hj (by omega))
        go_wp2
        go_ret
        exact ⟨0, by rfl, R1.out, hnx⟩

end Go.Proofs.YtkedbcfejcakaaaDoor
