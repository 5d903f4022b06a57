/-
  What the small functions on ops do: contracts over the translated program.
  What the closures of opFault, and the search of the library that calls them, do.
-/
import Derived.Test.YtncnojgemmcplaaGreatDoorWalkAZ
import Derived.Test.YtncnojgemmcplaaGreatDoorPlainAZ
namespace Go.Proofs.YtncnojgemmcplaaGreatDoor
open Go.RowKit

theorem belJ {w W w1 : World} (h : Below w.heap.size w W) (hb : Below W.heap.size W w1) : Below w.heap.size w w1 := h.trans (hb.mono h.size)
theorem belA {w W : World} (h : Below w.heap.size w W) (o : Obj) : Below w.heap.size w (W.alloc o) := h.alloc h.size o

def Opn.agg (x : Opn) : Value := .agg #[.int .i64 x.p, .int .i64 x.k, .int .i64 x.d, .int .i64 x.a, .int .i64 x.b, .int .i64 x.r, .int .i64 x.c, .int .i64 x.e]
def Opn.obj (x : Opn) : Obj := .cells #[.int .i64 x.p, .int .i64 x.k, .int .i64 x.d, .int .i64 x.a, .int .i64 x.b, .int .i64 x.r, .int .i64 x.c, .int .i64 x.e] 154

set_option maxHeartbeats 400000 in
theorem before_any (x y : Opn) (w : World) : Calls Tryz.prog 48 #[x.agg, y.agg] w fun e w' => e = .returned (.bool (beforeB x y)) ∧ Below w.heap.size w w' := by
  unfold Opn.agg
  by_cases h1 : 0 ≤ x.e
  · by_cases h2 : x.e < y.c
    · have e : beforeB x y = true := by simp [beforeB, h1, h2]
      rw [e]; clear e
      go_enter Tryz.func48, Tryz.ntmps48
      go_wp2
      go_ret
      exact ⟨rfl, belA (belA (Below.refl _ _) _) _⟩
    · have e : beforeB x y = false := by simp [beforeB, h2]
      rw [e]; clear e
      go_enter Tryz.func48, Tryz.ntmps48
      go_wp2
      go_ret
      exact ⟨rfl, belA (belA (Below.refl _ _) _) _⟩
  · have e : beforeB x y = false := by simp [beforeB, h1]
    rw [e]; clear e
    go_enter Tryz.func48, Tryz.ntmps48
    go_wp2
    go_ret
    exact ⟨rfl, belA (belA (Below.refl _ _) _) _⟩

set_option maxHeartbeats 400000 in
theorem hasTime_any (x : Opn) (t : Int) (w : World) : Calls Tryz.prog 164 #[x.agg, .int .i64 t] w fun e w' => e = .returned (.bool (hasB x t)) ∧ w' = w.alloc x.obj := by
  unfold Opn.agg Opn.obj
  cases h1 : x.c == t
  · cases h2 : x.e == t
    · have e : hasB x t = false := by simp [hasB, h1, h2]
      rw [e]; clear e
      go_enter Tryz.func164, Tryz.ntmps164
      go_wp2
      go_ret
      exact ⟨rfl, rfl⟩
    · have e : hasB x t = true := by simp [hasB, h1, h2]
      rw [e]; clear e
      go_enter Tryz.func164, Tryz.ntmps164
      go_wp2
      go_ret
      exact ⟨rfl, rfl⟩
  · have e : hasB x t = true := by simp [hasB, h1]
    rw [e]; clear e
    go_enter Tryz.func164, Tryz.ntmps164
    go_wp2
    go_ret
    exact ⟨rfl, rfl⟩

set_option maxHeartbeats 400000 in
theorem share_any (x y : Opn) (w : World) : Calls Tryz.prog 154 #[x.agg, y.agg] w fun e w' => e = .returned (.bool (shareB x y)) ∧ Below w.heap.size w w' := by
  cases h1 : hasB x y.c
  · cases h2 : y.e != -1
    · have e : shareB x y = false := by simp [shareB, h1, h2]
      rw [e]; clear e
      have H1 : Hid (hasB x y.c = false) := h1
      clear h1
      unfold Opn.agg
      go_enter Tryz.func154, Tryz.ntmps154
      go_wp2_with fail
      refine (hasTime_any x y.c _).mono ?_
      rw [H1.out]
      rintro e w1 ⟨rfl, rfl⟩
      unfold Opn.obj
      go_wp2
      go_ret
      exact ⟨rfl, belA (belA (belA (Below.refl _ _) _) _) _⟩
    · have e : shareB x y = hasB x y.e := by simp [shareB, h1, h2]
      rw [e]; clear e
      have H1 : Hid (hasB x y.c = false) := h1
      clear h1
      unfold Opn.agg
      go_enter Tryz.func154, Tryz.ntmps154
      go_wp2_with fail
      refine (hasTime_any x y.c _).mono ?_
      rw [H1.out]
      rintro e w1 ⟨rfl, rfl⟩
      unfold Opn.obj
      go_wp2_with fail
      refine (hasTime_any x y.e _).mono ?_
      rintro e w1 ⟨rfl, rfl⟩
      unfold Opn.obj
      go_wp2
      go_ret
      exact ⟨rfl, belA (belA (belA (belA (Below.refl _ _) _) _) _) _⟩
  · have e : shareB x y = true := by simp [shareB, h1]
    rw [e]; clear e
    have H1 : Hid (hasB x y.c = true) := h1
    clear h1
    unfold Opn.agg
    go_enter Tryz.func154, Tryz.ntmps154
    go_wp2_with fail
    refine (hasTime_any x y.c _).mono ?_
    rw [H1.out]
    rintro e w1 ⟨rfl, rfl⟩
    unfold Opn.obj
    go_wp2
    go_ret
    exact ⟨rfl, belA (belA (belA (Below.refl _ _) _) _) _⟩

end Go.Proofs.YtncnojgemmcplaaGreatDoor

namespace Go.Proofs.YtncnojgemmcplaaGreatDoor
open Go.RowKit

/-- The eight cells of an op, from a place on. -/
def OpAt (w : World) (b off : Nat) (x : Opn) : Prop :=
  w.cell? ⟨b, off, none⟩ = some (.int .i64 x.p) ∧ w.cell? ⟨b, off + 1, none⟩ = some (.int .i64 x.k) ∧ w.cell? ⟨b, off + 2, none⟩ = some (.int .i64 x.d) ∧ w.cell? ⟨b, off + 3, none⟩ = some (.int .i64 x.a) ∧ w.cell? ⟨b, off + 4, none⟩ = some (.int .i64 x.b) ∧ w.cell? ⟨b, off + 5, none⟩ = some (.int .i64 x.r) ∧ w.cell? ⟨b, off + 6, none⟩ = some (.int .i64 x.c) ∧ w.cell? ⟨b, off + 7, none⟩ = some (.int .i64 x.e)

/-- A row of ops, from a place on. -/
def OpsAt (w : World) (b off : Nat) (l : List Opn) : Prop := ∀ i, (h : i < l.length) → OpAt w b (off + i * 8) l[i]

theorem OpAt.below {w w' : World} {B b off : Nat} {x : Opn} (h : OpAt w b off x) (hb : b < B) (hn : Below B w w') : OpAt w' b off x := by
  obtain ⟨h0, h1, h2, h3, h4, h5, h6, h7⟩ := h
  exact ⟨(hn.cell (p := ⟨b, off, none⟩) hb).trans h0, (hn.cell (p := ⟨b, off + 1, none⟩) hb).trans h1, (hn.cell (p := ⟨b, off + 2, none⟩) hb).trans h2, (hn.cell (p := ⟨b, off + 3, none⟩) hb).trans h3, (hn.cell (p := ⟨b, off + 4, none⟩) hb).trans h4, (hn.cell (p := ⟨b, off + 5, none⟩) hb).trans h5, (hn.cell (p := ⟨b, off + 6, none⟩) hb).trans h6, (hn.cell (p := ⟨b, off + 7, none⟩) hb).trans h7⟩

theorem OpsAt.below {w w' : World} {B b off : Nat} {l : List Opn} (h : OpsAt w b off l) (hb : b < B) (hn : Below B w w') : OpsAt w' b off l := fun i hi => (h i hi).below hb hn

theorem OpAt.lt {w : World} {b off : Nat} {x : Opn} (h : OpAt w b off x) : b < w.heap.size := World.block_lt_of_cell? w ⟨b, off, none⟩ h.1

theorem OpsAt.take {w : World} {b off : Nat} {l : List Opn} (h : OpsAt w b off l) (n : Nat) : OpsAt w b off (l.take n) := fun i hi => by
  have hl : i < l.length := by simp at hi; omega
  have e : (l.take n)[i] = l[i] := List.getElem_take
  rw [e]
  exact h i hl

set_option maxHeartbeats 400000 in
theorem clo47 (x y : Opn) (blk : Nat) (w : World) (hy : OpAt w blk 0 y) :
    Calls Tryz.prog 153 #[x.agg, .pointer (some ⟨blk, 0, none⟩)] w fun e w' => e = .returned (.bool (shareB x y)) ∧ Below w.heap.size w w' := by
  have hlt := hy.lt
  obtain ⟨y0, y1, y2, y3, y4, y5, y6, y7⟩ := hy
  unfold Opn.agg
  go_enter Tryz.func153, Tryz.ntmps153
  go_wp2_with fail
  refine (share_any x y _).mono ?_
  rintro e w1 ⟨rfl, hb⟩
  go_wp2
  go_ret
  exact ⟨rfl, belJ (belA (Below.refl _ _) _) hb⟩

set_option maxHeartbeats 400000 in
theorem clo49 (x y : Opn) (blk : Nat) (w : World) (hy : OpAt w blk 0 y) :
    Calls Tryz.prog 155 #[x.agg, .pointer (some ⟨blk, 0, none⟩)] w fun e w' => e = .returned (.bool (clashB x y)) ∧ Below w.heap.size w w' := by
  have hlt := hy.lt
  obtain ⟨y0, y1, y2, y3, y4, y5, y6, y7⟩ := hy
  cases h1 : x.p == y.p
  · have e : clashB x y = false := by simp [clashB, h1]
    rw [e]; clear e
    unfold Opn.agg
    go_enter Tryz.func155, Tryz.ntmps155
    go_wp2
    go_ret
    exact ⟨rfl, belA (Below.refl _ _) _⟩
  · have e : clashB x y = !beforeB x y := by simp [clashB, h1]
    rw [e]; clear e
    unfold Opn.agg
    go_enter Tryz.func155, Tryz.ntmps155
    go_wp2_with fail
    refine (before_any x y _).mono ?_
    rintro e w1 ⟨rfl, hb⟩
    go_wp2
    go_ret
    exact ⟨rfl, belJ (belA (Below.refl _ _) _) hb⟩

theorem any_take_succ (l : List Opn) (f : Opn → Bool) (k : Nat) (h : k < l.length) (h0 : (l.take k).any f = false) (h1 : f l[k] = false) : (l.take (k + 1)).any f = false := by
  rw [List.take_succ_eq_append_getElem h, List.any_append, h0]; simp [h1]
theorem any_of (l : List Opn) (f : Opn → Bool) (k : Nat) (h : k < l.length) (h1 : f l[k] = true) : l.any f = true :=
  List.any_eq_true.2 ⟨l[k], List.getElem_mem h, h1⟩

set_option maxHeartbeats 1000000 in
theorem index47 (l : List Opn) (y : Opn) (b off cap blk : Nat) (w : World) (hlen : l.length ≤ 60) (hl : OpsAt w b off l) (hb : b < w.heap.size) (hy : OpAt w blk 0 y) :
    Calls Tryz.prog 135 #[.slice (some ⟨b, off, none⟩) l.length cap, .func (.func 153) #[] #[.pointer (some ⟨blk, 0, none⟩)]] w fun e w' => ∃ i : Int, e = .returned (.int .i64 i) ∧ decide (0 ≤ i) = l.any (fun x => shareB x y) ∧ Below w.heap.size w w' := by
  have hlt := hy.lt
  have HL : Hid (OpsAt w b off l) := hl
  have HY : Hid (OpAt w blk 0 y) := hy
  clear hl hy
  go_enter Tryz.func135, Tryz.ntmps135
  go_wp2
  go_loopw [8] (fun i wr => ∃ k : Nat, k ≤ l.length ∧ i = .int .i64 k ∧ (l.take k).any (fun x => shareB x y) = false ∧ Below w.heap.size w wr) (fun i _ => l.length - (intOf i).toNat)
  case atStart => exact ⟨0, Nat.zero_le _, rfl, rfl, Below.refl _ _⟩
  case round =>
    obtain ⟨k, hk, rfl, ha, hnx⟩ := hrel
    have HA : Hid ((l.take k).any (fun x => shareB x y) = false) := ha
    clear ha
    by_cases hkl : k < l.length
    · obtain ⟨c0, c1, c2, c3, c4, c5, c6, c7⟩ := (HL.out k hkl).below hb hnx
      go_wp2_with fail
      refine (clo47 l[k] y blk wr (HY.out.below hlt hnx)).mono ?_
      cases hs : shareB l[k] y
      · rintro e w1 ⟨rfl, hb1⟩
        have R1 : Hid ((l.take (k + 1)).any (fun x => shareB x y) = false) := any_take_succ l _ k hkl HA.out hs
        have R2 : Hid (Below w.heap.size w w1) := belJ hnx hb1
        clear hs
        go_wp2
        go_roundw
        case rel => exact ⟨k + 1, by omega, by go_num, R1.out, R2.out⟩
        case measure => simp [intOf]; omega
      · rintro e w1 ⟨rfl, hb1⟩
        have R1 : Hid (l.any (fun x => shareB x y) = true) := any_of l _ k hkl hs
        have R2 : Hid (Below w.heap.size w w1) := belJ hnx hb1
        clear hs
        go_wp2
        go_ret
        exact ⟨_, rfl, by rw [R1.out]; simp, R2.out⟩
    · have R1 : Hid (l.any (fun x => shareB x y) = false) := by
        have h := HA.out
        rw [List.take_of_length_le (by omega)] at h
        exact h
      go_wp2
      go_ret
      exact ⟨_, rfl, by rw [R1.out]; rfl, hnx⟩

set_option maxHeartbeats 400000 in
theorem contains47 (l : List Opn) (y : Opn) (b off cap blk : Nat) (w : World) (hlen : l.length ≤ 60) (hl : OpsAt w b off l) (hb : b < w.heap.size) (hy : OpAt w blk 0 y) :
    Calls Tryz.prog 112 #[.slice (some ⟨b, off, none⟩) l.length cap, .func (.func 153) #[] #[.pointer (some ⟨blk, 0, none⟩)]] w fun e w' => e = .returned (.bool (l.any (fun x => shareB x y))) ∧ Below w.heap.size w w' := by
  go_enter Tryz.func112, Tryz.ntmps112
  go_wp2_with fail
  refine (index47 l y b off cap blk w hlen hl hb hy).mono ?_
  rintro e w1 ⟨i, rfl, hi, hb1⟩
  have HI : Hid (decide (0 ≤ i) = l.any (fun x => shareB x y)) := hi
  clear hi
  go_wp2
  all_goals
    go_ret
    refine ⟨?_, hb1⟩
    rw [← HI.out]
    simp_all

set_option maxHeartbeats 1000000 in
theorem index49 (l : List Opn) (y : Opn) (b off cap blk : Nat) (w : World) (hlen : l.length ≤ 60) (hl : OpsAt w b off l) (hb : b < w.heap.size) (hy : OpAt w blk 0 y) :
    Calls Tryz.prog 135 #[.slice (some ⟨b, off, none⟩) l.length cap, .func (.func 155) #[] #[.pointer (some ⟨blk, 0, none⟩)]] w fun e w' => ∃ i : Int, e = .returned (.int .i64 i) ∧ decide (0 ≤ i) = l.any (fun x => clashB x y) ∧ Below w.heap.size w w' := by
  have hlt := hy.lt
  have HL : Hid (OpsAt w b off l) := hl
  have HY : Hid (OpAt w blk 0 y) := hy
  clear hl hy
  go_enter Tryz.func135, Tryz.ntmps135
  go_wp2
  go_loopw [8] (fun i wr => ∃ k : Nat, k ≤ l.length ∧ i = .int .i64 k ∧ (l.take k).any (fun x => clashB x y) = false ∧ Below w.heap.size w wr) (fun i _ => l.length - (intOf i).toNat)
  case atStart => exact ⟨0, Nat.zero_le _, rfl, rfl, Below.refl _ _⟩
  case round =>
    obtain ⟨k, hk, rfl, ha, hnx⟩ := hrel
    have HA : Hid ((l.take k).any (fun x => clashB x y) = false) := ha
    clear ha
    by_cases hkl : k < l.length
    · obtain ⟨c0, c1, c2, c3, c4, c5, c6, c7⟩ := (HL.out k hkl).below hb hnx
      go_wp2_with fail
      refine (clo49 l[k] y blk wr (HY.out.below hlt hnx)).mono ?_
      cases hs : clashB l[k] y
      · rintro e w1 ⟨rfl, hb1⟩
        have R1 : Hid ((l.take (k + 1)).any (fun x => clashB x y) = false) := any_take_succ l _ k hkl HA.out hs
        have R2 : Hid (Below w.heap.size w w1) := belJ hnx hb1
        clear hs
        go_wp2
        go_roundw
        case rel => exact ⟨k + 1, by omega, by go_num, R1.out, R2.out⟩
        case measure => simp [intOf]; omega
      · rintro e w1 ⟨rfl, hb1⟩
        have R1 : Hid (l.any (fun x => clashB x y) = true) := any_of l _ k hkl hs
        have R2 : Hid (Below w.heap.size w w1) := belJ hnx hb1
        clear hs
        go_wp2
        go_ret
        exact ⟨_, rfl, by rw [R1.out]; simp, R2.out⟩
    · have R1 : Hid (l.any (fun x => clashB x y) = false) := by
        have h := HA.out
        rw [List.take_of_length_le (by omega)] at h
        exact h
      go_wp2
      go_ret
      exact ⟨_, rfl, by rw [R1.out]; rfl, hnx⟩

set_option maxHeartbeats 400000 in
theorem contains49 (l : List Opn) (y : Opn) (b off cap blk : Nat) (w : World) (hlen : l.length ≤ 60) (hl : OpsAt w b off l) (hb : b < w.heap.size) (hy : OpAt w blk 0 y) :
    Calls Tryz.prog 112 #[.slice (some ⟨b, off, none⟩) l.length cap, .func (.func 155) #[] #[.pointer (some ⟨blk, 0, none⟩)]] w fun e w' => e = .returned (.bool (l.any (fun x => clashB x y))) ∧ Below w.heap.size w w' := by
  go_enter Tryz.func112, Tryz.ntmps112
  go_wp2_with fail
  refine (index49 l y b off cap blk w hlen hl hb hy).mono ?_
  rintro e w1 ⟨i, rfl, hi, hb1⟩
  have HI : Hid (decide (0 ≤ i) = l.any (fun x => clashB x y)) := hi
  clear hi
  go_wp2
  all_goals
    go_ret
    refine ⟨?_, hb1⟩
    rw [← HI.out]
    simp_all

end Go.Proofs.YtncnojgemmcplaaGreatDoor
