/-
  What inOrder of package event does.
  What opFault and CheckOps of package event do.
  What CheckOps of package event does: it tells the first fault.
  What the statements' own 'at' and 'bare' tell of nil and of an Errno.
  The statement EventJudges walked: whatever the ops, true.
-/
import Derived.Test.YtncnojgemmcplaaGreatDoorWalkCZ
import Derived.Deep.QuietTactic
import Derived.BigQuiet
import Derived.Test.YtncnojgemmcplaaGreatDoorPlainSZ
import Derived.Test.YtncnojgemmcplaaGreatDoorWalkAZ
import Derived.Deep.RegionWith
import Derived.LaidEql
import Derived.Stop.Asserts
import Derived.RowKitTokens
import Derived.Deep.DeepCutAuto
import Derived.Deep.RegionHeld3
namespace Go.Proofs.YtncnojgemmcplaaGreatDoor
open Go.RowKit

theorem lastOk_nil (x : Opn) : lastOk [] x = true := rfl
theorem lastOk_pos (l : List Opn) (x : Opn) (h : 0 < l.length) : lastOk l x = decide ((l[l.length - 1]'(by omega)).c < x.c) := by
  unfold lastOk
  rw [List.getLast?_eq_getElem?, List.getElem?_eq_getElem (by omega)]

/-- The tail of inOrder: times of one op. -/
def timesB (x : Opn) : Bool := if x.e = -1 then x.r == 0 else decide (x.c < x.e)

theorem orderB_neg (l : List Opn) (x : Opn) (h : x.c < 0) : orderB l x = false := by
  have e : decide (0 ≤ x.c) = false := by simp; omega
  unfold orderB; rw [e]; rfl
theorem orderB_last (l : List Opn) (x : Opn) (h : lastOk l x = false) : orderB l x = false := by simp [orderB, h]
theorem orderB_times (l : List Opn) (x : Opn) (h : ¬ x.c < 0) (h2 : lastOk l x = true) : orderB l x = timesB x := by
  have e : decide (0 ≤ x.c) = true := by simp; omega
  unfold orderB timesB; rw [e, h2]; rfl

set_option maxHeartbeats 1000000 in
theorem inOrder_neg (l : List Opn) (x : Opn) (b off cap : Nat) (w : World) (h : x.c < 0) :
    Calls Tryz.prog 152 #[.slice (some ⟨b, off, none⟩) l.length cap, x.agg] w fun e w' => e = .returned (.bool false) ∧ Below w.heap.size w w' := by
  have hd : decide (x.c < 0) = true := by simp [h]
  unfold Opn.agg
  go_enter Tryz.func152, Tryz.ntmps152
  go_wp2_with fail
  go_quiet (fail)
  go_wp2
  go_ret
  exact ⟨rfl, below_drewN (belA (Below.refl _ _) _) _⟩

set_option maxHeartbeats 1000000 in
theorem inOrder_first (x : Opn) (b off cap : Nat) (w : World) (h : ¬ x.c < 0) :
    Calls Tryz.prog 152 #[.slice (some ⟨b, off, none⟩) 0 cap, x.agg] w fun e w' => e = .returned (.bool (timesB x)) ∧ Below w.heap.size w w' := by
  have hd : decide (x.c < 0) = false := by simp; omega
  cases he : x.e == -1
  · have e : timesB x = decide (x.c < x.e) := by unfold timesB; rw [if_neg (by simpa using he)]
    rw [e]; clear e
    unfold Opn.agg
    go_enter Tryz.func152, Tryz.ntmps152
    go_wp2_with fail
    go_quiet (fail)
    go_wp2
    all_goals (go_ret; exact ⟨by simp_all, below_drewN (belA (Below.refl _ _) _) _⟩)
  · have e : timesB x = (x.r == 0) := by unfold timesB; rw [if_pos (by simpa using he)]
    rw [e]; clear e
    unfold Opn.agg
    go_enter Tryz.func152, Tryz.ntmps152
    go_wp2_with fail
    go_quiet (fail)
    go_wp2
    all_goals (go_ret; exact ⟨by simp_all, below_drewN (belA (Below.refl _ _) _) _⟩)

set_option maxHeartbeats 1000000 in
theorem inOrder_late (x : Opn) (m b off cap : Nat) (prev : Int) (w : World) (h : ¬ x.c < 0) (hm : m ≤ 60) (hb : b < w.heap.size) (hp : w.cell? ⟨b, off + m * 8 + 6, none⟩ = some (.int .i64 prev)) (hl : x.c ≤ prev) :
    Calls Tryz.prog 152 #[.slice (some ⟨b, off, none⟩) (m + 1) cap, x.agg] w fun e w' => e = .returned (.bool false) ∧ Below w.heap.size w w' := by
  have hd : decide (x.c < 0) = false := by simp; omega
  have hd2 : decide (x.c ≤ prev) = true := by simp [hl]
  unfold Opn.agg
  go_enter Tryz.func152, Tryz.ntmps152
  go_wp2_with fail
  go_quiet (fail)
  go_wp2
  go_ret
  exact ⟨rfl, below_drewN (belA (Below.refl _ _) _) _⟩

set_option maxHeartbeats 1000000 in
theorem inOrder_next (x : Opn) (m b off cap : Nat) (prev : Int) (w : World) (h : ¬ x.c < 0) (hm : m ≤ 60) (hb : b < w.heap.size) (hp : w.cell? ⟨b, off + m * 8 + 6, none⟩ = some (.int .i64 prev)) (hl : ¬ x.c ≤ prev) :
    Calls Tryz.prog 152 #[.slice (some ⟨b, off, none⟩) (m + 1) cap, x.agg] w fun e w' => e = .returned (.bool (timesB x)) ∧ Below w.heap.size w w' := by
  have hd : decide (x.c < 0) = false := by simp; omega
  have hd2 : decide (x.c ≤ prev) = false := by simp; omega
  cases he : x.e == -1
  · have e : timesB x = decide (x.c < x.e) := by unfold timesB; rw [if_neg (by simpa using he)]
    rw [e]; clear e
    unfold Opn.agg
    go_enter Tryz.func152, Tryz.ntmps152
    go_wp2_with fail
    go_quiet (fail)
    go_wp2
    all_goals (go_ret; exact ⟨by simp_all, below_drewN (belA (Below.refl _ _) _) _⟩)
  · have e : timesB x = (x.r == 0) := by unfold timesB; rw [if_pos (by simpa using he)]
    rw [e]; clear e
    unfold Opn.agg
    go_enter Tryz.func152, Tryz.ntmps152
    go_wp2_with fail
    go_quiet (fail)
    go_wp2
    all_goals (go_ret; exact ⟨by simp_all, below_drewN (belA (Below.refl _ _) _) _⟩)

theorem inOrder_any (l : List Opn) (x : Opn) (b off cap : Nat) (w : World) (hlen : l.length ≤ 60) (hl : OpsAt w b off l) (hb : b < w.heap.size) :
    Calls Tryz.prog 152 #[.slice (some ⟨b, off, none⟩) l.length cap, x.agg] w fun e w' => e = .returned (.bool (orderB l x)) ∧ Below w.heap.size w w' := by
  by_cases h : x.c < 0
  · rw [orderB_neg l x h]
    exact inOrder_neg l x b off cap w h
  · by_cases h0 : l.length = 0
    · have e : l = [] := List.length_eq_zero_iff.1 h0
      subst e
      rw [orderB_times [] x h (lastOk_nil x)]
      exact inOrder_first x b off cap w h
    · obtain ⟨m, hm⟩ : ∃ m, l.length = m + 1 := ⟨l.length - 1, by omega⟩
      have hp := (hl m (by omega)).2.2.2.2.2.2.1
      have hlast := lastOk_pos l x (by omega)
      have e2 : (l[l.length - 1]'(by omega)).c = (l[m]'(by omega)).c := by congr 1; simp [hm]
      rw [e2] at hlast
      by_cases hle : x.c ≤ (l[m]'(by omega)).c
      · rw [orderB_last l x (by rw [hlast]; simp; omega), hm]
        exact inOrder_late x m b off cap _ w h (by omega) hb hp hle
      · rw [orderB_times l x h (by rw [hlast]; simp; omega), hm]
        exact inOrder_next x m b off cap _ w h (by omega) hb hp hle

end Go.Proofs.YtncnojgemmcplaaGreatDoor

namespace Go.Proofs.YtncnojgemmcplaaGreatDoor
open Go.RowKit

theorem opFaultN_range (l : List Opn) (x : Opn) (h : rangeB x = false) : opFaultN l x = 2 := by simp [opFaultN, h]
theorem opFaultN_kind (l : List Opn) (x : Opn) (h : rangeB x = true) (h2 : kindB x.d = false) : opFaultN l x = 1 := by simp [opFaultN, h, h2]
theorem opFaultN_order (l : List Opn) (x : Opn) (h : rangeB x = true) (h2 : kindB x.d = true) (h3 : orderB l x = false) : opFaultN l x = 10 := by simp [opFaultN, h, h2, h3]
theorem opFaultN_twice (l : List Opn) (x : Opn) (h : rangeB x = true) (h2 : kindB x.d = true) (h3 : orderB l x = true) (h4 : l.any (fun y => shareB y x) = true) : opFaultN l x = 9 := by unfold opFaultN; rw [h, h2, h3, h4]; rfl
theorem opFaultN_rest (l : List Opn) (x : Opn) (h : rangeB x = true) (h2 : kindB x.d = true) (h3 : orderB l x = true) (h4 : l.any (fun y => shareB y x) = false) : opFaultN l x = if l.any (fun y => clashB y x) then 6 else 0 := by unfold opFaultN; rw [h, h2, h3, h4]; rfl


/-- What a new block of an op holds. -/
theorem opAt_new (w : World) (x : Opn) : OpAt (w.alloc (.cells #[.int .i64 x.p, .int .i64 x.k, .int .i64 x.d, .int .i64 x.a, .int .i64 x.b, .int .i64 x.r, .int .i64 x.c, .int .i64 x.e] 154)) w.heap.size 0 x :=
  ⟨by simp, by simp, by simp, by simp, by simp, by simp, by simp, by simp⟩

set_option maxHeartbeats 1000000 in
theorem opFault_range (x : Opn) (v : Value) (w : World) (h : rangeB x = false) :
    Calls Tryz.prog 134 #[v, x.agg] w fun e w' => e = .returned (.int .i64 2) ∧ Below w.heap.size w w' := by
  unfold Opn.agg
  cases h1 : inB x.p x.k x.a x.b x.r
  · go_enter Tryz.func134, Tryz.ntmps134
    go_wp2_with (go_at_call 106; refine (inBounds_any _ _ _ _ _ _).mono ?_; rintro e w' ⟨rfl, rfl⟩)
    go_ret
    exact ⟨rfl, belA (Below.refl _ _) _⟩
  · cases h2 : numB x.c
    · go_enter Tryz.func134, Tryz.ntmps134
      go_wp2_with (first | (go_at_call 106; refine (inBounds_any _ _ _ _ _ _).mono ?_; rintro e w' ⟨rfl, rfl⟩) | (go_at_call 123; refine (isNumber_any _ _).mono ?_; rintro e w' ⟨rfl, rfl⟩))
      go_ret
      exact ⟨rfl, belA (Below.refl _ _) _⟩
    · have h3 : numB x.e = false := by simpa [rangeB, h1, h2] using h
      clear h
      go_enter Tryz.func134, Tryz.ntmps134
      go_wp2_with (first | (go_at_call 106; refine (inBounds_any _ _ _ _ _ _).mono ?_; rintro e w' ⟨rfl, rfl⟩) | (go_at_call 123; refine (isNumber_any _ _).mono ?_; rintro e w' ⟨rfl, rfl⟩))
      go_ret
      exact ⟨rfl, belA (Below.refl _ _) _⟩

set_option maxHeartbeats 2000000 in
theorem opFault_any (l : List Opn) (x : Opn) (b off cap : Nat) (w : World) (hlen : l.length ≤ 60) (hl : OpsAt w b off l) (hb : b < w.heap.size) :
    Calls Tryz.prog 134 #[.slice (some ⟨b, off, none⟩) l.length cap, x.agg] w fun e w' => e = .returned (.int .i64 (opFaultN l x)) ∧ Below w.heap.size w w' := by
  cases hr : rangeB x
  · rw [opFaultN_range l x hr]
    exact opFault_range x _ w hr
  · have hr' := hr
    simp only [rangeB, Bool.and_eq_true] at hr'
    obtain ⟨⟨h1, h2⟩, h3⟩ := hr'
    have HN := opAt_new w x
    have hbel : Below w.heap.size w (w.alloc (.cells #[.int .i64 x.p, .int .i64 x.k, .int .i64 x.d, .int .i64 x.a, .int .i64 x.b, .int .i64 x.r, .int .i64 x.c, .int .i64 x.e] 154)) := belA (Below.refl _ _) _
    have hl1 := hl.below hb hbel
    have hb1 : b < (w.alloc (.cells #[.int .i64 x.p, .int .i64 x.k, .int .i64 x.d, .int .i64 x.a, .int .i64 x.b, .int .i64 x.r, .int .i64 x.c, .int .i64 x.e] 154)).heap.size := by simp; omega
    have hlt : w.heap.size < (w.alloc (.cells #[.int .i64 x.p, .int .i64 x.k, .int .i64 x.d, .int .i64 x.a, .int .i64 x.b, .int .i64 x.r, .int .i64 x.c, .int .i64 x.e] 154)).heap.size := by simp
    cases hk : kindB x.d
    · rw [opFaultN_kind l x hr hk]
      unfold Opn.agg
      clear HN hl1 hb1 hlt hbel
      go_enter Tryz.func134, Tryz.ntmps134
      go_wp2_with (first | (go_at_call 106; refine (inBounds_any _ _ _ _ _ _).mono ?_; rintro e w' ⟨rfl, rfl⟩) | (go_at_call 123; refine (isNumber_any _ _).mono ?_; rintro e w' ⟨rfl, rfl⟩) | (go_at_call 107; refine (isKind_any _ _).mono ?_; rintro e w' ⟨rfl, rfl⟩))
      go_ret
      exact ⟨rfl, belA (Below.refl _ _) _⟩
    · cases ho : orderB l x
      · rw [opFaultN_order l x hr hk ho]
        have HI := inOrder_any l x b off cap _ hlen hl1 hb1
        rw [ho] at HI
        have HI := hideIt HI
        unfold Opn.agg
        clear HN hl1 hb1 hlt hbel
        go_enter Tryz.func134, Tryz.ntmps134
        go_wp2_with (first | (go_at_call 106; refine (inBounds_any _ _ _ _ _ _).mono ?_; rintro e w' ⟨rfl, rfl⟩) | (go_at_call 123; refine (isNumber_any _ _).mono ?_; rintro e w' ⟨rfl, rfl⟩) | (go_at_call 107; refine (isKind_any _ _).mono ?_; rintro e w' ⟨rfl, rfl⟩))
        refine HI.out.mono ?_
        rintro e w1 ⟨rfl, hb2⟩
        go_wp2
        go_ret
        exact ⟨rfl, belJ (belA (Below.refl _ _) _) hb2⟩
      · have HI := inOrder_any l x b off cap _ hlen hl1 hb1
        rw [ho] at HI
        have HI := hideIt HI
        have HN := hideIt HN
        have HL := hideIt hl1
        cases ht : l.any (fun y => shareB y x)
        · obtain ⟨n, hc, HV⟩ : ∃ c : Bool, l.any (fun y => clashB y x) = c ∧ Hid (opFaultN l x = if c then 6 else 0) := ⟨_, rfl, opFaultN_rest l x hr hk ho ht⟩
          rw [HV.out]
          have HT : Hid (l.any (fun y => shareB y x) = false) := ht
          have HC : Hid (l.any (fun y => clashB y x) = n) := hc
          clear ht hl1 hl ho hc
          unfold Opn.agg
          go_enter Tryz.func134, Tryz.ntmps134
          go_wp2_with (first | (go_at_call 106; refine (inBounds_any _ _ _ _ _ _).mono ?_; rintro e w' ⟨rfl, rfl⟩) | (go_at_call 123; refine (isNumber_any _ _).mono ?_; rintro e w' ⟨rfl, rfl⟩) | (go_at_call 107; refine (isKind_any _ _).mono ?_; rintro e w' ⟨rfl, rfl⟩))
          refine HI.out.mono ?_
          rintro e w1 ⟨rfl, hb2⟩
          have hb2' := hb2.size
          go_wp2_with fail
          refine (contains47 l x b off cap w.heap.size w1 hlen (HL.out.below hb1 hb2) (by omega) (HN.out.below hlt hb2)).mono ?_
          rw [HT.out]
          rintro e w2 ⟨rfl, hb3⟩
          have hb3' := hb3.size
          go_wp2_with fail
          refine (contains49 l x b off cap w.heap.size w2 hlen ((HL.out.below hb1 hb2).below (by omega) hb3) (by omega) ((HN.out.below hlt hb2).below (by omega) hb3)).mono ?_
          rw [HC.out]
          rintro e w3 ⟨rfl, hb4⟩
          go_wp2
          all_goals
            go_ret
            refine ⟨?_, belJ (belJ (belJ hbel hb2) hb3) hb4⟩
            simp_all
        · rw [opFaultN_twice l x hr hk ho ht]
          have HT : Hid (l.any (fun y => shareB y x) = true) := ht
          clear ht hl1 hl ho
          unfold Opn.agg
          go_enter Tryz.func134, Tryz.ntmps134
          go_wp2_with (first | (go_at_call 106; refine (inBounds_any _ _ _ _ _ _).mono ?_; rintro e w' ⟨rfl, rfl⟩) | (go_at_call 123; refine (isNumber_any _ _).mono ?_; rintro e w' ⟨rfl, rfl⟩) | (go_at_call 107; refine (isKind_any _ _).mono ?_; rintro e w' ⟨rfl, rfl⟩))
          refine HI.out.mono ?_
          rintro e w1 ⟨rfl, hb2⟩
          have hb2' := hb2.size
          go_wp2_with fail
          refine (contains47 l x b off cap w.heap.size w1 hlen (HL.out.below hb1 hb2) (by omega) (HN.out.below hlt hb2)).mono ?_
          rw [HT.out]
          rintro e w2 ⟨rfl, hb3⟩
          go_wp2
          go_ret
          exact ⟨rfl, belJ (belJ hbel hb2) hb3⟩
end Go.Proofs.YtncnojgemmcplaaGreatDoor

namespace Go.Proofs.YtncnojgemmcplaaGreatDoor
open Go.RowKit

theorem opFault_at (l : List Opn) (k : Nat) (x : Opn) (b off cap : Nat) (w : World) (hk : k ≤ l.length) (hlen : l.length ≤ 60) (hl : OpsAt w b off l) (hb : b < w.heap.size) :
    Calls Tryz.prog 134 #[.slice (some ⟨b, off, none⟩) k cap, x.agg] w fun e w' => e = .returned (.int .i64 (opFaultN (l.take k) x)) ∧ Below w.heap.size w w' := by
  have h := opFault_any (l.take k) x b off cap w (by simp; omega) (hl.take k) hb
  rwa [List.length_take, Nat.min_eq_left hk] at h

theorem toldV_some {n : Int} (h : n ≠ 0) : toldV n = .iface 38 (.int .i64 n) := by simp [toldV, h]
theorem told4 (l : List Opn) (h : 40 < l.length) : Told l 4 := .inl ⟨h, rfl⟩
theorem told0 (l : List Opn) (h : l.length ≤ 40) (h2 : ∀ j, (h : j < l.length) → opFaultN (l.take j) l[j] = 0) : Told l 0 := .inr (.inl ⟨h, h2, rfl⟩)
theorem toldAt (l : List Opn) (h : l.length ≤ 40) (k : Nat) (hk : k < l.length) (h2 : ∀ j, (hj : j < k) → opFaultN (l.take j) (l[j]'(Nat.lt_trans hj hk)) = 0) (h3 : opFaultN (l.take k) l[k] ≠ 0) : Told l (opFaultN (l.take k) l[k]) := .inr (.inr ⟨h, k, hk, h2, h3, rfl⟩)

/-- So far there is no fault. -/
def FineTo (l : List Opn) (k : Nat) : Prop := ∀ j, (h : j < l.length) → j < k → opFaultN (l.take j) l[j] = 0
theorem fineTo_zero (l : List Opn) : FineTo l 0 := fun j _ h => by omega
theorem FineTo.succ {l : List Opn} {k : Nat} (h : FineTo l k) (hk : k < l.length) (h0 : opFaultN (l.take k) l[k] = 0) : FineTo l (k + 1) := fun j hj hjk => by
  by_cases e : j = k
  · subst e; exact h0
  · exact h j hj (by omega)

set_option maxHeartbeats 1000000 in
theorem checkOps_any (l : List Opn) (b off cap : Nat) (w : World) (hlen : l.length ≤ 60) (hcap : l.length ≤ cap) (hl : OpsAt w b off l) (hb : b < w.heap.size) :
    Calls Tryz.prog 111 #[.slice (some ⟨b, off, none⟩) l.length cap] w fun e w' => ∃ n, e = .returned (toldV n) ∧ Told l n ∧ Below w.heap.size w w' := by
  have HL : Hid (OpsAt w b off l) := hl
  clear hl
  by_cases h40 : 40 < l.length
  · have HT : Hid (Told l 4) := told4 l h40
    go_enter Tryz.func111, Tryz.ntmps111
    go_wp2
    go_ret
    exact ⟨4, rfl, HT.out, Below.refl _ _⟩
  · go_enter Tryz.func111, Tryz.ntmps111
    go_wp2
    go_loopw [12] (fun i wr => ∃ k : Nat, k ≤ l.length ∧ i = .int .i64 k ∧ FineTo l k ∧ Below w.heap.size w wr) (fun i _ => l.length - (intOf i).toNat)
    case atStart => exact ⟨0, Nat.zero_le _, rfl, fineTo_zero l, Below.refl _ _⟩
    case round =>
      obtain ⟨k, hk, rfl, hf, hnx⟩ := hrel
      have HF : Hid (FineTo l k) := hf
      clear hf
      by_cases hkl : k < l.length
      · obtain ⟨c0, c1, c2, c3, c4, c5, c6, c7⟩ := (HL.out k hkl).below hb hnx
        obtain ⟨n, HN⟩ : ∃ n, Hid (opFaultN (l.take k) l[k] = n) := ⟨_, hideIt rfl⟩
        have HS : Hid (∀ W, Below w.heap.size w W → Calls Tryz.prog 134 #[.slice (some ⟨b, off, none⟩) k cap, l[k].agg] W fun e w' => e = .returned (.int .i64 n) ∧ Below W.heap.size W w') := fun W hW => by
          have h := opFault_at l k l[k] b off cap W hk hlen (HL.out.below hb hW) (Nat.lt_of_lt_of_le hb hW.size)
          rwa [HN.out] at h
        by_cases hz : n = 0
        · have hz' : (n != 0) = false := by simp [hz]
          have R1 : Hid (FineTo l (k + 1)) := HF.out.succ hkl (HN.out.trans hz)
          clear hz
          go_wp2_with fail
          go_region_with (go_at_call 134; refine (HS.out _ ?_).mono ?_; (repeat (first | exact hnx | refine Below.drew ?_ | refine belA ?_ _)); rintro e w1 ⟨rfl, hb1⟩)
          all_goals
            have R2 : Hid (Below w.heap.size w w1) := belJ (by repeat (first | exact hnx | refine Below.drew ?_ | refine belA ?_ _)) hb1
            clear hb1
            go_wp2
            go_roundw
            case rel => exact ⟨k + 1, by omega, by go_num, R1.out, R2.out⟩
            case measure => simp [intOf]; omega
        · have hz' : (n != 0) = true := by simp [hz]
          have R1 : Hid (Told l n) := by
            have h := toldAt l (by omega) k hkl (fun j hj => HF.out j (by omega) hj) (by rw [HN.out]; exact hz)
            rw [HN.out] at h
            exact h
          have R3 : Hid (toldV n = .iface 38 (.int .i64 n)) := toldV_some hz
          clear hz
          go_wp2_with fail
          go_region_with (go_at_call 134; refine (HS.out _ ?_).mono ?_; (repeat (first | exact hnx | refine Below.drew ?_ | refine belA ?_ _)); rintro e w1 ⟨rfl, hb1⟩)
          all_goals
            have R2 : Hid (Below w.heap.size w w1) := belJ (by repeat (first | exact hnx | refine Below.drew ?_ | refine belA ?_ _)) hb1
            clear hb1
            go_wp2
            go_ret
            exact ⟨n, by rw [R3.out]; rfl, R1.out, R2.out⟩
      · have R1 : Hid (Told l 0) := told0 l (by omega) (fun j hj => HF.out j hj (by omega))
        go_wp2
        go_ret
        exact ⟨0, by rfl, R1.out, hnx⟩

end Go.Proofs.YtncnojgemmcplaaGreatDoor

namespace Go.Proofs.YtncnojgemmcplaaGreatDoor
open Go.RowKit Go.Extern.Stop Go.Stop Go.Extern


theorem toldV_zero : toldV 0 = .nilIface := by simp [toldV]

end Go.Proofs.YtncnojgemmcplaaGreatDoor

namespace Go.Proofs.YtncnojgemmcplaaGreatDoor
open Go.RowKit


set_option maxHeartbeats 400000 in
theorem checkOps_none (a : Option Addr) (cap : Nat) (w : World) : Calls Tryz.prog 111 #[.slice a 0 cap] w fun e w' => e = .returned (toldV 0) ∧ w' = w := by
  rw [toldV_zero]
  go_enter Tryz.func111, Tryz.ntmps111
  go_wp2
  refine wp_loop_rounds 1 ?_
  rw [rounds_succ]
  go_wp2
  go_ret
  exact ⟨rfl, rfl⟩

end Go.Proofs.YtncnojgemmcplaaGreatDoor
