/-
  Two matrices held against each other.
-/
import Derived.Test.YtibdchahallbjaaDoorWkW
namespace Go.Proofs.YtibdchahallbjaaDoor
open Go.RowKit

/-- A matrix, read. -/
def ReadM (w : World) (v : Value) (n : Nat) (A : Nat → Nat → Bool) : Prop :=
  ∃ a cap, v = .slice a n cap ∧ n ≤ cap ∧ ∀ i, i < n → ∃ g off r, a = some ⟨g, off, none⟩ ∧ w.cell? ⟨g, off + i, none⟩ = some (.slice (some ⟨r, 0, none⟩) n n) ∧ ∀ k, k < n → w.cell? ⟨r, k, none⟩ = some (.bool (A i k))
theorem readM_nil (w : World) (A : Nat → Nat → Bool) : ReadM w (.slice none 0 0) 0 A := ⟨none, 0, rfl, Nat.le_refl _, fun i hi => absurd hi (by omega)⟩
theorem MatAt.readM {w : World} {base B n : Nat} {rb : Nat → Nat} {M : Nat → Nat → Bool} (h : MatAt w base B n n rb M) : ReadM w (.slice (some ⟨B, 0, none⟩) n n) n M :=
  ⟨_, n, rfl, Nat.le_refl _, fun i hi => ⟨B, 0, rb i, rfl, by rw [Nat.zero_add]; exact h.head i hi, fun k hk => (h.row i hi).bit k hk⟩⟩
theorem OutAt.readM {w : World} {base n : Nat} {v : Value} {gs : List Nat} {A : Nat → Nat → Bool} (h : OutAt w base n v gs A) (hg : gs.length = n) : ReadM w v n A := by
  by_cases h0 : 0 < gs.length
  · obtain ⟨g, off, cap, e, hc, hr⟩ := h.read h0
    rw [hg] at e hc
    exact ⟨_, cap, e, hc, fun i hi => ⟨g, off, gs[i]'(by omega), rfl, (hr i (by omega)).1, (hr i (by omega)).2⟩⟩
  · obtain rfl : gs = [] := List.length_eq_zero_iff.1 (by omega)
    rcases h.row with ⟨rfl, _⟩ | ⟨g, off, cap, cur, rfl, _⟩
    · rw [← hg]; exact readM_nil w A
    · rw [← hg]; exact ⟨_, cap, rfl, Nat.zero_le _, fun i hi => absurd hi (by simp)⟩

set_option maxRecDepth 100000 in
set_option maxHeartbeats 1000000 in
theorem sameBools_any (n : Nat) (hn : n ≤ 60) (A : Nat → Nat → Bool) (v v' : Value) (w : World) (h : ReadM w v n A) (h' : ReadM w v' n A) :
    Calls Tryd.prog 22 #[v, v'] w fun e w' => e = .returned (.bool true) ∧ Below w.heap.size w w' := by
  obtain ⟨a, cap, rfl, hc, hr⟩ := h
  obtain ⟨a', cap', rfl, hc', hr'⟩ := h'
  have HR := hideIt hr
  have HR' := hideIt hr'
  have HD : Hid (∀ nq i, i < n → (∃ g off r, a = some ⟨g, off, none⟩ ∧ (w.drewN nq).cell? ⟨g, off + i, none⟩ = some (.slice (some ⟨r, 0, none⟩) n n) ∧ ∀ k, k < n → (w.drewN nq).cell? ⟨r, k, none⟩ = some (.bool (A i k))) ∧ ∃ g off r, a' = some ⟨g, off, none⟩ ∧ (w.drewN nq).cell? ⟨g, off + i, none⟩ = some (.slice (some ⟨r, 0, none⟩) n n) ∧ ∀ k, k < n → (w.drewN nq).cell? ⟨r, k, none⟩ = some (.bool (A i k))) := fun nq i hi => ⟨HR.out i hi, HR'.out i hi⟩
  clear hr hr' HR HR'
  go_enter Tryd.func22, Tryd.ntmps22
  go_wp2
  go_loopw [5] (fun i wr => ∃ (k nq : Nat), k ≤ n ∧ i = .int .i64 k ∧ wr = w.drewN nq) (fun i _ => n - (intOf i).toNat)
  case atStart => exact ⟨0, 0, Nat.zero_le _, rfl, rfl⟩
  case round =>
    obtain ⟨i, nq, hi, rfl, hwr⟩ := hrel
    by_cases hin : i < n
    · obtain ⟨⟨g, off, r, rfl, c1, c2⟩, ⟨g', off', r', rfl, d1, d2⟩⟩ := HD.out nq i hin
      have HCC : Hid (∀ m, (w.drewN m).cell? ⟨g, off + i, none⟩ = some (.slice (some ⟨r, 0, none⟩) n n) ∧ (w.drewN m).cell? ⟨g', off' + i, none⟩ = some (.slice (some ⟨r', 0, none⟩) n n) ∧ ∀ k, k < n → (w.drewN m).cell? ⟨r, k, none⟩ = some (.bool (A i k)) ∧ (w.drewN m).cell? ⟨r', k, none⟩ = some (.bool (A i k))) := fun m => ⟨c1, d1, fun k hk => ⟨c2 k hk, d2 k hk⟩⟩
      have HMore : Hid (∀ m, ∃ m', wr.drewN m = w.drewN m') := fun m => ⟨nq + m, by rw [hwr]; simp [World.drewN, Nat.add_assoc]⟩
      rw [← hwr] at c1 d1
      clear c2 d2 hwr
      go_wp2_with fail
      go_big_quiet (fail)
      go_wp2
      go_loopw [6] (fun q wz => ∃ (k m : Nat), k ≤ n ∧ q = .int .i64 k ∧ wz = w.drewN m) (fun q _ => n - (intOf q).toNat)
      case atStart =>
        obtain ⟨m', hm'⟩ := HMore.out _
        exact ⟨0, m', Nat.zero_le _, rfl, hm'⟩
      case round =>
        clear HMore c1 d1
        obtain ⟨k, m, hk, rfl, hwz⟩ := hrel
        have HMore : Hid (∀ m2, ∃ m', wr.drewN m2 = w.drewN m') := fun m2 => ⟨m + m2, by rw [hwz]; simp [World.drewN, Nat.add_assoc]⟩
        by_cases hkn : k < n
        · obtain ⟨c1, d1, hh⟩ := HCC.out m
          obtain ⟨c2, d2⟩ := hh k hkn
          rw [← hwz] at c1 d1 c2 d2
          clear hwz hh
          have hb : (A i k != A i k) = false := by simp
          go_wp2_with fail
          go_big_quiet (fail)
          go_wp2
          go_roundw
          case rel =>
            obtain ⟨m', hm'⟩ := HMore.out _
            exact ⟨k + 1, m', by omega, by go_num, hm'⟩
          case measure => simp [intOf]; omega
        · obtain ⟨c1, _, _⟩ := HCC.out m
          rw [← hwz] at c1
          have HWZ := hideIt hwz
          clear hwz
          go_wp2
          go_roundw
          case rel => exact ⟨i + 1, m, by omega, by go_num, HWZ.out⟩
          case measure => simp [intOf]; omega
    · have HB : Hid (Below w.heap.size w wr) := by rw [hwr]; exact below_drewN (Below.refl _ _) _
      clear hwr
      go_wp2
      go_ret
      exact ⟨rfl, HB.out⟩

end Go.Proofs.YtibdchahallbjaaDoor
