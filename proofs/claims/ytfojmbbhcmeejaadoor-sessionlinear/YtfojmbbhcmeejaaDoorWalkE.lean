/-
  What inOrder of package event does.
-/
import Derived.Test.YtfojmbbhcmeejaaDoorWalkCZ
import Derived.Deep.QuietTactic
import Derived.BigQuiet
namespace Go.Proofs.YtfojmbbhcmeejaaDoor
open Go.RowKit

theorem lastOk_nil (x : Opn) : lastOk [] x = true := rfl
theorem lastOk_pos (l : List Opn) (x : Opn) (h : 0 < l.length) : lastOk l x = decide ((l[l.length - 1]'(by omega)).c < x.c) := by
  unfold lastOk
  rw [List.getLast?_eq_getElem?, List.getElem?_eq_getElem (by omega)]

/-- The tail of inOrder: times of one op. -/
def timesB (x : Opn) : Bool := if x.e = -1 then x.r == 0 else decide (x.c < x.e)

theorem orderB_neg (l : List Opn) (x : Opn) (h : x.c < 0) : orderB l x = false := by
  have e : decide (0 ≤ x.c) = false := by simp; omega
  unfold orderB; rw [e]; rfl
theorem orderB_last (l : List Opn) (x : Opn) (h : lastOk l x = false) : orderB l x = false := by simp [orderB, h]
theorem orderB_times (l : List Opn) (x : Opn) (h : ¬ x.c < 0) (h2 : lastOk l x = true) : orderB l x = timesB x := by
  have e : decide (0 ≤ x.c) = true := by simp; omega
  unfold orderB timesB; rw [e, h2]; rfl

set_option maxHeartbeats 1000000 in
theorem inOrder_neg (l : List Opn) (x : Opn) (b off cap : Nat) (w : World) (h : x.c < 0) :
    Calls Tryd.prog 76 #[.slice (some ⟨b, off, none⟩) l.length cap, x.agg] w fun e w' => e = .returned (.bool false) ∧ Below w.heap.size w w' := by
  have hd : decide (x.c < 0) = true := by simp [h]
  unfold Opn.agg
  go_enter Tryd.func76, Tryd.ntmps76
  go_wp2_with fail
  go_quiet (fail)
  go_wp2
  go_ret
  exact ⟨rfl, below_drewN (belA (Below.refl _ _) _) _⟩

set_option maxHeartbeats 1000000 in
theorem inOrder_first (x : Opn) (b off cap : Nat) (w : World) (h : ¬ x.c < 0) :
    Calls Tryd.prog 76 #[.slice (some ⟨b, off, none⟩) 0 cap, x.agg] w fun e w' => e = .returned (.bool (timesB x)) ∧ Below w.heap.size w w' := by
  have hd : decide (x.c < 0) = false := by simp; omega
  cases he : x.e == -1
  · have e : timesB x = decide (x.c < x.e) := by unfold timesB; rw [if_neg (by simpa using he)]
    rw [e]; clear e
    unfold Opn.agg
    go_enter Tryd.func76, Tryd.ntmps76
    go_wp2_with fail
    go_quiet (fail)
    go_wp2
    all_goals (go_ret; exact ⟨by simp_all, below_drewN (belA (Below.refl _ _) _) _⟩)
  · have e : timesB x = (x.r == 0) := by unfold timesB; rw [if_pos (by simpa using he)]
    rw [e]; clear e
    unfold Opn.agg
    go_enter Tryd.func76, Tryd.ntmps76
    go_wp2_with fail
    go_quiet (fail)
    go_wp2
    all_goals (go_ret; exact ⟨by simp_all, below_drewN (belA (Below.refl _ _) _) _⟩)

set_option maxHeartbeats 1000000 in
theorem inOrder_late (x : Opn) (m b off cap : Nat) (prev : Int) (w : World) (h : ¬ x.c < 0) (hm : m ≤ 60) (hb : b < w.heap.size) (hp : w.cell? ⟨b, off + m * 8 + 6, none⟩ = some (.int .i64 prev)) (hl : x.c ≤ prev) :
    Calls Tryd.prog 76 #[.slice (some ⟨b, off, none⟩) (m + 1) cap, x.agg] w fun e w' => e = .returned (.bool false) ∧ Below w.heap.size w w' := by
  have hd : decide (x.c < 0) = false := by simp; omega
  have hd2 : decide (x.c ≤ prev) = true := by simp [hl]
  unfold Opn.agg
  go_enter Tryd.func76, Tryd.ntmps76
  go_wp2_with fail
  go_quiet (fail)
  go_wp2
  go_ret
  exact ⟨rfl, below_drewN (belA (Below.refl _ _) _) _⟩

set_option maxHeartbeats 1000000 in
theorem inOrder_next (x : Opn) (m b off cap : Nat) (prev : Int) (w : World) (h : ¬ x.c < 0) (hm : m ≤ 60) (hb : b < w.heap.size) (hp : w.cell? ⟨b, off + m * 8 + 6, none⟩ = some (.int .i64 prev)) (hl : ¬ x.c ≤ prev) :
    Calls Tryd.prog 76 #[.slice (some ⟨b, off, none⟩) (m + 1) cap, x.agg] w fun e w' => e = .returned (.bool (timesB x)) ∧ Below w.heap.size w w' := by
  have hd : decide (x.c < 0) = false := by simp; omega
  have hd2 : decide (x.c ≤ prev) = false := by simp; omega
  cases he : x.e == -1
  · have e : timesB x = decide (x.c < x.e) := by unfold timesB; rw [if_neg (by simpa using he)]
    rw [e]; clear e
    unfold Opn.agg
    go_enter Tryd.func76, Tryd.ntmps76
    go_wp2_with fail
    go_quiet (fail)
    go_wp2
    all_goals (go_ret; exact ⟨by simp_all, below_drewN (belA (Below.refl _ _) _) _⟩)
  · have e : timesB x = (x.r == 0) := by unfold timesB; rw [if_pos (by simpa using he)]
    rw [e]; clear e
    unfold Opn.agg
    go_enter Tryd.func76, Tryd.ntmps76
    go_wp2_with fail
    go_quiet (fail)
    go_wp2
    all_goals (go_ret; exact ⟨by simp_all, below_drewN (belA (Below.refl _ _) _) _⟩)

theorem inOrder_any (l : List Opn) (x : Opn) (b off cap : Nat) (w : World) (hlen : l.length ≤ 60) (hl : OpsAt w b off l) (hb : b < w.heap.size) :
    Calls Tryd.prog 76 #[.slice (some ⟨b, off, none⟩) l.length cap, x.agg] w fun e w' => e = .returned (.bool (orderB l x)) ∧ Below w.heap.size w w' := by
  by_cases h : x.c < 0
  · rw [orderB_neg l x h]
    exact inOrder_neg l x b off cap w h
  · by_cases h0 : l.length = 0
    · have e : l = [] := List.length_eq_zero_iff.1 h0
      subst e
      rw [orderB_times [] x h (lastOk_nil x)]
      exact inOrder_first x b off cap w h
    · obtain ⟨m, hm⟩ : ∃ m, l.length = m + 1 := ⟨l.length - 1, by omega⟩
      have hp := (hl m (by omega)).2.2.2.2.2.2.1
      have hlast := lastOk_pos l x (by omega)
      have e2 : (l[l.length - 1]'(by omega)).c = (l[m]'(by omega)).c := by congr 1; simp [hm]
      rw [e2] at hlast
      by_cases hle : x.c ≤ (l[m]'(by omega)).c
      · rw [orderB_last l x (by rw [hlast]; simp; omega), hm]
        exact inOrder_late x m b off cap _ w h (by omega) hb hp hle
      · rw [orderB_times l x h (by rw [hlast]; simp; omega), hm]
        exact inOrder_next x m b off cap _ w h (by omega) hb hp hle

end Go.Proofs.YtfojmbbhcmeejaaDoor
