/-
  The statement EventJudges walked: whatever the ops, true.
-/
import Derived.Test.YtkedbcfejcakaaaDoorRefB
import Derived.Test.YtkedbcfejcakaaaDoorBare
import Derived.Deep.RegionHeld3
namespace Go.Proofs.YtkedbcfejcakaaaDoor
open Go.RowKit

theorem globB {W w1 : World} {x : Value} (hb : Below W.heap.size W w1) (h : W.cell? ⟨1, 0, none⟩ = some x) : w1.cell? ⟨1, 0, none⟩ = some x :=
  (hb.cell (p := ⟨1, 0, none⟩) (World.block_lt_of_cell? W ⟨1, 0, none⟩ h)).trans h

set_option maxHeartbeats 400000 in
theorem judges_long (a : Option Addr) (n cap : Nat) (w : World) (h : 60 < n) (h2 : n ≤ maxLen) :
    Calls Tryd.prog 5 #[.slice a n cap] w fun e w' => e = .returned (.bool true) ∧ Below w.heap.size w w' := by
  unfold maxLen at h2
  go_enter Tryd.func5, Tryd.ntmps5
  go_wp2
  go_ret
  exact ⟨rfl, Below.refl _ _⟩

set_option maxHeartbeats 400000 in
theorem checkOps_none (a : Option Addr) (cap : Nat) (w : World) : Calls Tryd.prog 17 #[.slice a 0 cap] w fun e w' => e = .returned (toldV 0) ∧ w' = w := by
  rw [toldV_zero]
  go_enter Tryd.func17, Tryd.ntmps17
  go_wp2
  refine wp_loop_rounds 1 ?_
  rw [rounds_succ]
  go_wp2
  go_ret
  exact ⟨rfl, rfl⟩

set_option maxRecDepth 100000 in
set_option maxHeartbeats 400000 in
theorem opsCheck_none (a : Option Addr) (cap : Nat) (w : World) : Calls Tryd.prog 18 #[.slice a 0 cap] w fun e w' => e = .returned (.int .i64 0) ∧ w' = w := by
  go_enter Tryd.func18, Tryd.ntmps18
  go_wp2
  refine wp_loop_rounds 1 ?_
  rw [rounds_succ]
  go_wp2
  go_ret
  exact ⟨rfl, rfl⟩

set_option maxHeartbeats 400000 in
theorem judges_none (a : Option Addr) (cap : Nat) (w : World) (hg : w.cell? ⟨1, 0, none⟩ = some (.iface 164 (.agg #[.pointer (some ⟨8, 26, none⟩)]))) :
    Calls Tryd.prog 5 #[.slice a 0 cap] w fun e w' => e = .returned (.bool true) ∧ Below w.heap.size w w' := by
  go_enter Tryd.func5, Tryd.ntmps5
  go_wp2
  refine wp_loop_rounds 1 ?_
  rw [rounds_succ]
  go_wp2_with (first | (go_at_call 17; refine (checkOps_none _ _ _).mono ?_; rintro e w' ⟨rfl, rfl⟩) | (go_at_call 18; refine (opsCheck_none _ _ _).mono ?_; rintro e w' ⟨rfl, rfl⟩) | (go_at_call 7; refine (bare_told 0 _ hg).mono ?_; rintro e w1 ⟨rfl, hb1⟩))
  go_ret
  exact ⟨rfl, hb1⟩

set_option maxRecDepth 100000 in
set_option maxHeartbeats 4000000 in
theorem judges_some (l : List Opn) (b off cap : Nat) (w : World) (hpos : 0 < l.length) (hlen : l.length ≤ 60) (hcap : l.length ≤ cap) (hl : OpsAt w b off l) (hb : b < w.heap.size) (hg : w.cell? ⟨1, 0, none⟩ = some (.iface 164 (.agg #[.pointer (some ⟨8, 26, none⟩)]))) :
    Calls Tryd.prog 5 #[.slice (some ⟨b, off, none⟩) l.length cap] w fun e w' => e = .returned (.bool true) ∧ Below w.heap.size w w' := by
  have HL := hideIt hl
  have HG := hideIt hg
  clear hl hg
  have h60 : decide (60 < (l.length : Int)) = false := by simp; omega
  go_enter Tryd.func5, Tryd.ntmps5
  go_wp2
  go_loopw [3] (fun i wr => ∃ k : Nat, k + 1 ≤ l.length ∧ i = .int .i64 k ∧ Below w.heap.size w wr) (fun i _ => l.length - (intOf i).toNat)
  case atStart => exact ⟨0, by omega, rfl, Below.refl _ _⟩
  case round =>
    obtain ⟨k, hk, rfl, hnx⟩ := hrel
    by_cases hkl : k + 1 < l.length
    · obtain ⟨x, HX⟩ : ∃ x, Hid (l[k] = x) := ⟨_, hideIt rfl⟩
      obtain ⟨y, HY⟩ : ∃ y, Hid (l[k + 1] = y) := ⟨_, hideIt rfl⟩
      have HS : Hid (∀ W, Below w.heap.size w W → OpAt W b (off + k * 8) x ∧ OpAt W b (off + (k + 1) * 8) y) := fun W hW => by
        rw [← HX.out, ← HY.out]
        exact ⟨(HL.out k (by omega)).below hb hW, (HL.out (k + 1) hkl).below hb hW⟩
      obtain ⟨⟨c0, c1, c2, c3, c4, c5, c6, c7⟩, ⟨d0, d1, d2, d3, d4, d5, d6, d7⟩⟩ := HS.out wr hnx
      have hk1 : (0 : Int) ≤ (k : Int) := by omega
      have hk2 : (k : Int) < (l.length : Int) := by omega
      have hk3 : (0 : Int) ≤ (k : Int) + 1 := by omega
      have hk4 : (k : Int) + 1 < (l.length : Int) := by omega
      have hwr : IntKind.i64.wrap ((k : Int) + 1) = (k : Int) + 1 := by rw [IntKind.wrap_i64]; omega
      go_wp2_with fail
      go_region_held3 (fun w' => w'.cell? ⟨b, off + k * 8, none⟩ = some (.int .i64 x.p) ∧ w'.cell? ⟨b, off + k * 8 + 1, none⟩ = some (.int .i64 x.k) ∧ w'.cell? ⟨b, off + k * 8 + 2, none⟩ = some (.int .i64 x.d) ∧ w'.cell? ⟨b, off + k * 8 + 3, none⟩ = some (.int .i64 x.a) ∧ w'.cell? ⟨b, off + k * 8 + 4, none⟩ = some (.int .i64 x.b) ∧ w'.cell? ⟨b, off + k * 8 + 5, none⟩ = some (.int .i64 x.r) ∧ w'.cell? ⟨b, off + k * 8 + 6, none⟩ = some (.int .i64 x.c) ∧ w'.cell? ⟨b, off + k * 8 + 7, none⟩ = some (.int .i64 x.e) ∧ w'.cell? ⟨b, off + (k + 1) * 8, none⟩ = some (.int .i64 y.p) ∧ w'.cell? ⟨b, off + (k + 1) * 8 + 1, none⟩ = some (.int .i64 y.k) ∧ w'.cell? ⟨b, off + (k + 1) * 8 + 2, none⟩ = some (.int .i64 y.d) ∧ w'.cell? ⟨b, off + (k + 1) * 8 + 3, none⟩ = some (.int .i64 y.a) ∧ w'.cell? ⟨b, off + (k + 1) * 8 + 4, none⟩ = some (.int .i64 y.b) ∧ w'.cell? ⟨b, off + (k + 1) * 8 + 5, none⟩ = some (.int .i64 y.r) ∧ w'.cell? ⟨b, off + (k + 1) * 8 + 6, none⟩ = some (.int .i64 y.c) ∧ w'.cell? ⟨b, off + (k + 1) * 8 + 7, none⟩ = some (.int .i64 y.e)) (go_keep)
        (first | (go_at_call 15; refine (before_any x y _).mono ?_; rintro e w1 ⟨rfl, hb1⟩; have hB1 : Below w.heap.size w w1 := belJ (Below.drew hnx) hb1; obtain ⟨⟨p0, p1, p2, p3, p4, p5, p6, p7⟩, ⟨q0, q1, q2, q3, q4, q5, q6, q7⟩⟩ := HS.out w1 hB1) | (go_at_call 16; refine (refBefore_any x y _).mono ?_; rintro e w2 ⟨rfl, hb2⟩; have hB2 : Below w.heap.size w w2 := belJ hB1 hb2; obtain ⟨⟨s0, s1, s2, s3, s4, s5, s6, s7⟩, ⟨t0, t1, t2, t3, t4, t5, t6, t7⟩⟩ := HS.out w2 hB2))
      have R2 := hideIt hB2
      clear hB1 hB2 hb1 hb2 hwr c0 c1 c2 c3 c4 c5 c6 c7 d0 d1 d2 d3 d4 d5 d6 d7 p0 p1 p2 p3 p4 p5 p6 p7 q0 q1 q2 q3 q4 q5 q6 q7 s0 s1 s2 s3 s4 s5 s6 s7 t0 t1 t2 t3 t4 t5 t6 t7
      have hne : (beforeB x y != beforeB x y) = false := by simp
      go_wp2
      go_roundw
      case rel => exact ⟨k + 1, by omega, by go_num, R2.out⟩
      case measure => simp [intOf]; omega
    · have hsz := hnx.size
      go_wp2_with fail
      refine (checkOps_any l b off cap wr hlen hcap (HL.out.below hb hnx) (by omega)).mono ?_
      rintro e w1 ⟨n, rfl, ht1, hb1⟩
      have hsz1 := hb1.size
      have HT1 := hideIt ht1
      clear ht1
      go_wp2_with fail
      refine (opsCheck_any l b off cap w1 hlen hcap (HL.out.below hb (belJ hnx hb1)) (by omega)).mono ?_
      rintro e w2 ⟨m, rfl, ht2, hb2⟩
      obtain rfl := told_one HT1.out ht2
      clear ht2
      go_wp2_with fail
      refine (bare_told n w2 (globB hb2 (globB hb1 (globB hnx HG.out)))).mono ?_
      rintro e w3 ⟨rfl, hb3⟩
      go_wp2
      go_ret
      exact ⟨rfl, belJ (belJ (belJ hnx hb1) hb2) hb3⟩
end Go.Proofs.YtkedbcfejcakaaaDoor
