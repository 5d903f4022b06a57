/-
  Package linear's isObject and checkOps, walked.
-/
import Derived.Test.YtfojmbbhcmeejaaDoorMapVZ
import Derived.Test.YtfojmbbhcmeejaaDoorBitsW
namespace Go.Proofs.YtfojmbbhcmeejaaDoor
open Go.RowKit

/-- Ops that lie in memory. -/
def OpsIn (w : World) (v : Value) (l : List Opn) : Prop :=
  ∃ a cap, v = .slice a l.length cap ∧ l.length ≤ cap ∧ l.length ≤ maxLen ∧ (l = [] ∨ ∃ b off, a = some ⟨b, off, none⟩ ∧ b < w.heap.size ∧ OpsAt w b off l)
theorem OpsIn.has {w : World} {v : Value} {l : List Opn} (h : OpsIn w v l) : HasOps w v l := by
  obtain ⟨a, cap, rfl, _, hm, h⟩ := h
  refine ⟨a, cap, rfl, hm, ?_⟩
  rcases h with h | ⟨b, off, rfl, _, h⟩
  · exact .inl h
  · exact .inr ⟨b, off, rfl, h⟩
theorem OpsIn.below {w w' : World} {v : Value} {l : List Opn} (h : OpsIn w v l) (hb : Below w.heap.size w w') : OpsIn w' v l := by
  obtain ⟨a, cap, rfl, hc, hm, h⟩ := h
  refine ⟨a, cap, rfl, hc, hm, ?_⟩
  rcases h with h | ⟨b, off, rfl, hlt, h⟩
  · exact .inl h
  · exact .inr ⟨b, off, rfl, Nat.lt_of_lt_of_le hlt hb.size, h.below hlt hb⟩

def objB (o : Int) : Bool := decide (1 ≤ o) && decide (o ≤ 6)
set_option maxHeartbeats 400000 in
theorem isObject_any (o : Int) (w : World) : Calls Tryd.prog 55 #[.int .i64 o] w fun e w' => e = .returned (.bool (objB o)) ∧ w' = w := by
  go_enter Tryd.func55, Tryd.ntmps55
  go_wp2
  all_goals (go_ret; exact ⟨ret_bool (by simp_all [objB] <;> omega), rfl⟩)

set_option maxHeartbeats 400000 in
theorem clo30 (x : Opn) (o : Int) (blk : Nat) (w : World) (hK : KnownAt w) (hy : w.cell? ⟨blk, 0, none⟩ = some (.int .i64 o)) :
    Calls Tryd.prog 64 #[x.agg, .pointer (some ⟨blk, 0, none⟩)] w fun e w' => e = .returned (.bool (!knowsB o x.d)) ∧ Below w.heap.size w w' := by
  have hlt : blk < w.heap.size := World.block_lt_of_cell? w _ hy
  have HK : Hid (∀ W, Below w.heap.size w W → KnownAt W) := fun W hb => hK.below (World.block_lt_of_cell? w ⟨0, 0 * 13 + 0, none⟩ (hK 0 0 (by decide) (by decide))) hb
  clear hK
  unfold Opn.agg
  go_enter Tryd.func64, Tryd.ntmps64
  go_wp2_with (go_at_call 65; refine (knows_any o x.d _ (HK.out _ (belA (Below.refl _ _) _))).mono ?_; rintro e w' ⟨rfl, rfl⟩)
  go_ret
  exact ⟨rfl, belA (Below.refl _ _) _⟩

set_option maxHeartbeats 1000000 in
theorem index30 (l : List Opn) (o : Int) (b off cap blk : Nat) (w : World) (hlen : l.length ≤ 60) (hl : OpsAt w b off l) (hb : b < w.heap.size) (hK : KnownAt w) (hy : w.cell? ⟨blk, 0, none⟩ = some (.int .i64 o)) :
    Calls Tryd.prog 80 #[.slice (some ⟨b, off, none⟩) l.length cap, .func (.func 64) #[] #[.pointer (some ⟨blk, 0, none⟩)]] w fun e w' => ∃ i : Int, e = .returned (.int .i64 i) ∧ decide (0 ≤ i) = l.any (fun x => !knowsB o x.d) ∧ Below w.heap.size w w' := by
  have hlt : blk < w.heap.size := World.block_lt_of_cell? w _ hy
  have HL : Hid (OpsAt w b off l) := hl
  have HC : Hid (∀ W x, Below w.heap.size w W → Calls Tryd.prog 64 #[Opn.agg x, .pointer (some ⟨blk, 0, none⟩)] W fun e w' => e = .returned (.bool (!knowsB o x.d)) ∧ Below W.heap.size W w') := fun W x hW =>
    clo30 x o blk W (hK.below (World.block_lt_of_cell? w ⟨0, 0 * 13 + 0, none⟩ (hK 0 0 (by decide) (by decide))) hW) ((hW.cell (p := ⟨blk, 0, none⟩) hlt).trans hy)
  clear hl hy hK
  go_enter Tryd.func80, Tryd.ntmps80
  go_wp2
  go_loopw [8] (fun i wr => ∃ k : Nat, k ≤ l.length ∧ i = .int .i64 k ∧ (l.take k).any (fun x => !knowsB o x.d) = false ∧ Below w.heap.size w wr) (fun i _ => l.length - (intOf i).toNat)
  case atStart => exact ⟨0, Nat.zero_le _, rfl, rfl, Below.refl _ _⟩
  case round =>
    obtain ⟨k, hk, rfl, ha, hnx⟩ := hrel
    have HA : Hid ((l.take k).any (fun x => !knowsB o x.d) = false) := ha
    clear ha
    by_cases hkl : k < l.length
    · obtain ⟨c0, c1, c2, c3, c4, c5, c6, c7⟩ := (HL.out k hkl).below hb hnx
      go_wp2_with fail
      refine (HC.out wr l[k] hnx).mono ?_
      cases hs : !knowsB o l[k].d
      · rintro e w1 ⟨rfl, hb1⟩
        have R1 : Hid ((l.take (k + 1)).any (fun x => !knowsB o x.d) = false) := any_take_succ l _ k hkl HA.out hs
        have R2 : Hid (Below w.heap.size w w1) := belJ hnx hb1
        clear hs
        go_wp2
        go_roundw
        case rel => exact ⟨k + 1, by omega, by go_num, R1.out, R2.out⟩
        case measure => simp [intOf]; omega
      · rintro e w1 ⟨rfl, hb1⟩
        have R1 : Hid (l.any (fun x => !knowsB o x.d) = true) := any_of l _ k hkl hs
        have R2 : Hid (Below w.heap.size w w1) := belJ hnx hb1
        clear hs
        go_wp2
        go_ret
        exact ⟨_, rfl, by rw [R1.out]; simp, R2.out⟩
    · have R1 : Hid (l.any (fun x => !knowsB o x.d) = false) := by
        have h := HA.out
        rw [List.take_of_length_le (by omega)] at h
        exact h
      go_wp2
      go_ret
      exact ⟨_, rfl, by rw [R1.out]; rfl, hnx⟩

set_option maxHeartbeats 400000 in
theorem index_none (a : Option Addr) (cap : Nat) (f : Value) (w : World) :
    Calls Tryd.prog 80 #[.slice a 0 cap, f] w fun e w' => e = .returned (.int .i64 (-1)) ∧ w' = w := by
  go_enter Tryd.func80, Tryd.ntmps80
  go_wp2
  refine wp_loop_rounds 1 ?_
  rw [rounds_succ]
  go_wp2
  go_ret
  exact ⟨rfl, rfl⟩

set_option maxHeartbeats 400000 in
theorem contains30 (l : List Opn) (o : Int) (v : Value) (blk : Nat) (w : World) (hlen : l.length ≤ 60) (hl : OpsIn w v l) (hK : KnownAt w) (hy : w.cell? ⟨blk, 0, none⟩ = some (.int .i64 o)) :
    Calls Tryd.prog 63 #[v, .func (.func 64) #[] #[.pointer (some ⟨blk, 0, none⟩)]] w fun e w' => e = .returned (.bool (l.any (fun x => !knowsB o x.d))) ∧ Below w.heap.size w w' := by
  have HC : Hid (Calls Tryd.prog 80 #[v, .func (.func 64) #[] #[.pointer (some ⟨blk, 0, none⟩)]] w fun e w' => ∃ i : Int, e = .returned (.int .i64 i) ∧ decide (0 ≤ i) = l.any (fun x => !knowsB o x.d) ∧ Below w.heap.size w w') := by
    obtain ⟨a, cap, rfl, hc, hm, h⟩ := hl
    rcases h with rfl | ⟨b, off, rfl, hlt, h⟩
    · exact (index_none a cap _ w).mono fun e w' ⟨he, hw⟩ => ⟨-1, he, rfl, by rw [hw]; exact Below.refl _ _⟩
    · exact index30 l o b off cap blk w hlen h hlt hK hy
  clear hl hK hy
  go_enter Tryd.func63, Tryd.ntmps63
  go_wp2_with fail
  refine HC.out.mono ?_
  rintro e w1 ⟨i, rfl, hi, hb1⟩
  have HI : Hid (decide (0 ≤ i) = l.any (fun x => !knowsB o x.d)) := hi
  clear hi
  go_wp2
  all_goals
    go_ret
    refine ⟨?_, hb1⟩
    rw [← HI.out]
    simp_all

theorem checkOps_in (l : List Opn) (v : Value) (w : World) (hlen : l.length ≤ 60) (hl : OpsIn w v l) :
    Calls Tryd.prog 48 #[v] w fun e w' => ∃ n, e = .returned (toldV n) ∧ Told l n ∧ Below w.heap.size w w' := by
  obtain ⟨a, cap, rfl, hc, hm, h⟩ := hl
  rcases h with rfl | ⟨b, off, rfl, hlt, h⟩
  · exact (checkOps_none a cap w).mono fun e w' ⟨he, hw⟩ => ⟨0, he, told0 _ (by simp) (fun j hj => by simp at hj), by rw [hw]; exact Below.refl _ _⟩
  · exact checkOps_any l b off cap w hlen hc h hlt

/-- What is told of ops of an object. -/
def CkTold (o : Int) (l : List Opn) (n : Int) : Prop :=
  (n ≠ 0 ∧ Told l n) ∨ (Told l 0 ∧ l.any (fun x => !knowsB o x.d) = true ∧ n = 1) ∨ (Told l 0 ∧ l.any (fun x => !knowsB o x.d) = false ∧ n = 0)
theorem ckTold_one {o : Int} {l : List Opn} {n m : Int} (h1 : CkTold o l n) (h2 : CkTold o l m) : n = m := by
  rcases h1 with ⟨a, h⟩ | ⟨h, g, rfl⟩ | ⟨h, g, rfl⟩
  · rcases h2 with ⟨_, k⟩ | ⟨k, _, rfl⟩ | ⟨k, _, rfl⟩
    · exact told_one h k
    · exact absurd (told_one h k) a
    · exact absurd (told_one h k) a
  · rcases h2 with ⟨b, k⟩ | ⟨_, _, rfl⟩ | ⟨_, g', rfl⟩
    · exact absurd (told_one k h) b
    · rfl
    · rw [g] at g'; cases g'
  · rcases h2 with ⟨b, k⟩ | ⟨_, g', rfl⟩ | ⟨_, _, rfl⟩
    · exact absurd (told_one k h) b
    · rw [g] at g'; cases g'
    · rfl

set_option maxHeartbeats 1000000 in
theorem linCheck_any (o : Int) (l : List Opn) (v : Value) (w : World) (hlen : l.length ≤ 60) (hl : OpsIn w v l) (hK : KnownAt w) :
    Calls Tryd.prog 56 #[.int .i64 o, v] w fun e w' => ∃ n, e = .returned (toldV n) ∧ CkTold o l n ∧ Below w.heap.size w w' := by
  have hpos : 0 < w.heap.size := World.block_lt_of_cell? w ⟨0, 0 * 13 + 0, none⟩ (hK 0 0 (by decide) (by decide))
  have hb1 : Below w.heap.size w (w.alloc (.cells #[.int .i64 o] 3)) := belA (Below.refl _ _) _
  have HC : Hid (Calls Tryd.prog 48 #[v] (w.alloc (.cells #[.int .i64 o] 3)) fun e w' => ∃ n, e = .returned (toldV n) ∧ Told l n ∧ Below (w.alloc (.cells #[.int .i64 o] 3)).heap.size (w.alloc (.cells #[.int .i64 o] 3)) w') := checkOps_in l v _ hlen (hl.below hb1)
  have HD : Hid (∀ w1, Below (w.alloc (.cells #[.int .i64 o] 3)).heap.size (w.alloc (.cells #[.int .i64 o] 3)) w1 → Calls Tryd.prog 63 #[v, .func (.func 64) #[] #[.pointer (some ⟨w.heap.size, 0, none⟩)]] w1 fun e w' => e = .returned (.bool (l.any (fun x => !knowsB o x.d))) ∧ Below w1.heap.size w1 w') := fun w1 hb => by
    have hb2 := belJ hb1 hb
    refine contains30 l o v w.heap.size w1 hlen (hl.below hb2) (hK.below hpos hb2) ?_
    rw [hb.cell (p := ⟨w.heap.size, 0, none⟩) (by simp)]; simp
  clear hl hK
  have HB1 := hideIt hb1
  clear hb1
  obtain ⟨q, hq⟩ : ∃ q, l.any (fun x => !knowsB o x.d) = q := ⟨_, rfl⟩
  rw [hq] at HD
  go_enter Tryd.func56, Tryd.ntmps56
  go_wp2_with fail
  refine HC.out.mono ?_
  rintro e w1 ⟨n, rfl, ht, hb⟩
  have HT := hideIt ht
  have HB := hideIt hb
  have HQ := hideIt hq
  clear ht hb hq
  by_cases hz : n = 0
  · subst hz
    rw [toldV_zero]
    cases q
    · go_wp2_with (go_at_call 63; refine (HD.out _ HB.out).mono ?_; rintro e w2 ⟨rfl, hb2⟩; have HB2 := hideIt hb2; clear hb2)
      go_ret
      exact ⟨0, by rfl, .inr (.inr ⟨HT.out, HQ.out, rfl⟩), belJ (belJ HB1.out HB.out) HB2.out⟩
    · go_wp2_with (go_at_call 63; refine (HD.out _ HB.out).mono ?_; rintro e w2 ⟨rfl, hb2⟩; have HB2 := hideIt hb2; clear hb2)
      go_ret
      exact ⟨1, by rfl, .inr (.inl ⟨HT.out, HQ.out, rfl⟩), belJ (belJ HB1.out HB.out) HB2.out⟩
  · rw [toldV_some hz]
    go_wp2
    go_ret
    exact ⟨n, by rw [toldV_some hz]; rfl, .inl ⟨hz, HT.out⟩, belJ HB1.out HB.out⟩

end Go.Proofs.YtfojmbbhcmeejaaDoor
