/-
  An event read off bytes: the program's way, walked.
-/
import Derived.Test.YtdncnljcihblbaaDoorRnW
import Derived.Laws.ResultCell
import Derived.LoopTactic
namespace Go.Proofs.YtdncnljcihblbaaDoor
open Go.RowKit

def zeroE : Ev := ⟨0, 0, 0, 0, 0, 0, 0⟩
/-- What read tells. -/
def rdE (l : List Nat) : Value := match readP l with
  | none => .tuple #[zeroE.agg, .bool false]
  | some e => .tuple #[e.agg, .bool true]
theorem rdE_short {l : List Nat} (h : l.length < 4) : readP l = none := by
  match l, h with
  | [], _ => rfl
  | [_], _ => rfl
  | [_, _], _ => rfl
  | [_, _, _], _ => rfl
  | _ :: _ :: _ :: _ :: _, h => simp at h; omega

theorem idxP (a b r : Addr) (w : World) : (Instr.index 91 (.agg #[.pointer (some a), .pointer (some b), .pointer (some r)]) (.int .i64 0)).run Tryd.prog w = .ok (.pointer (some a)) w ∧ (Instr.index 91 (.agg #[.pointer (some a), .pointer (some b), .pointer (some r)]) (.int .i64 1)).run Tryd.prog w = .ok (.pointer (some b)) w ∧ (Instr.index 91 (.agg #[.pointer (some a), .pointer (some b), .pointer (some r)]) (.int .i64 2)).run Tryd.prog w = .ok (.pointer (some r)) w :=
  ⟨by kernel_rfl, by kernel_rfl, by kernel_rfl⟩

set_option maxHeartbeats 1000000 in
set_option maxRecDepth 100000 in
theorem read_short (v : Value) (l : List Nat) (w : World) (hq : ByQ w v l) (hl : l.length < 4) :
    Calls Tryd.prog 28 #[v] w fun e w' => e = .returned (rdE l) ∧ Below w.heap.size w w' := by
  have hr : rdE l = .tuple #[zeroE.agg, .bool false] := by unfold rdE; rw [rdE_short hl]
  rw [hr]
  clear hr
  obtain ⟨hB, ⟨rfl, a0, c0, rfl, _⟩ | ⟨b, o, c, rfl, hc, hb, hA⟩⟩ := hq
  · go_enter Tryd.func28, Tryd.ntmps28
    go_wp2
    exact bodyPost_ret (v := .tuple #[zeroE.agg, .bool false]) (by simp [results, Tryd.results28, go_sem, zeroE, Ev.agg]) rfl ⟨rfl, below_alloc (Below.refl _ _) _⟩
  · have hl' : ((l.length : Nat) : Int) < 4 := by omega
    go_enter Tryd.func28, Tryd.ntmps28
    go_wp2
    exact bodyPost_ret (v := .tuple #[zeroE.agg, .bool false]) (by simp [results, Tryd.results28, go_sem, zeroE, Ev.agg]) rfl ⟨rfl, below_alloc (Below.refl _ _) _⟩

theorem set_drewN (W : World) (n : Nat) (p : Addr) (v : Value) : (W.drewN n).setCell p v = (W.setCell p v).drewN n := by
  simp only [World.drewN, World.setCell]
theorem set_ev (w : World) (c0 c1 c2 c3 c4 c5 c6 v : Value) (t : TypeId) (n : Nat) : ((w.alloc (.cells #[c0, c1, c2, c3, c4, c5, c6] t)).drewN n).setCell ⟨w.heap.size, 4, none⟩ v = (w.alloc (.cells #[c0, c1, c2, c3, v, c5, c6] t)).drewN n ∧ ((w.alloc (.cells #[c0, c1, c2, c3, c4, c5, c6] t)).drewN n).setCell ⟨w.heap.size, 5, none⟩ v = (w.alloc (.cells #[c0, c1, c2, c3, c4, v, c6] t)).drewN n ∧ ((w.alloc (.cells #[c0, c1, c2, c3, c4, c5, c6] t)).drewN n).setCell ⟨w.heap.size, 6, none⟩ v = (w.alloc (.cells #[c0, c1, c2, c3, c4, c5, v] t)).drewN n := by
  refine ⟨?_, ?_, ?_⟩ <;> (rw [set_drewN]; simp [go_sem])
theorem bel_set {w W : World} (h : Below w.heap.size w W) (o : Nat) (v : Value) : Below w.heap.size w (W.setCell ⟨w.heap.size, o, none⟩ v) := h.setCell (Nat.le_refl _) v

/-- How far read has come: what lies in its event, what is left. -/
def RdS (w : World) (b : Nat) (m : List Nat) (v : Value) : Nat → Int → Int → Int → Prop
  | 0, A, B, R => A = 0 ∧ B = 0 ∧ R = 0 ∧ ByB w b v m
  | 1, A, B, R => ∃ a m1, rdN 0 0 m = some (a, m1) ∧ A = unzN a ∧ B = 0 ∧ R = 0 ∧ ByB w b v m1
  | 2, A, B, R => ∃ a m1 c m2, rdN 0 0 m = some (a, m1) ∧ rdN 0 0 m1 = some (c, m2) ∧ A = unzN a ∧ B = unzN c ∧ R = 0 ∧ ByB w b v m2
  | _, A, B, R => ∃ a m1 c m2 d m3, rdN 0 0 m = some (a, m1) ∧ rdN 0 0 m1 = some (c, m2) ∧ rdN 0 0 m2 = some (d, m3) ∧ A = unzN a ∧ B = unzN c ∧ R = unzN d
theorem rdN_len : ∀ (l : List Nat) (i u x : Nat) (m : List Nat), rdN i u l = some (x, m) → m.length ≤ l.length
  | [], _, _, _, _, h => by simp [rdN] at h
  | c :: l, i, u, x, m, h => by
    unfold rdN at h
    split at h
    · simp at h; obtain ⟨_, rfl⟩ := h; simp
    · have := rdN_len l _ _ _ _ h; simp; omega
theorem ret_none {x0 x1 x2 x3 : Nat} {m : List Nat} (h : readP (x0 :: x1 :: x2 :: x3 :: m) = none) : Value.tuple #[zeroE.agg, .bool false] = rdE (x0 :: x1 :: x2 :: x3 :: m) := by unfold rdE; rw [h]

set_option maxHeartbeats 1000000 in
set_option maxRecDepth 100000 in
theorem read_four (b o x0 x1 x2 x3 : Nat) (w : World) (hB : Byt [x0, x1, x2, x3]) (hb : b < w.heap.size) (hA : BysAt w b o [x0, x1, x2, x3]) :
    Calls Tryd.prog 28 #[.slice (some ⟨b, o, none⟩) 4 4] w fun e w' => e = .returned (rdE [x0, x1, x2, x3]) ∧ Below w.heap.size w w' := by
  have c0 : w.cell? ⟨b, o, none⟩ = some (.int .u8 (x0 : Nat)) := hA 0 (by simp)
  have c1 : w.cell? ⟨b, o + 1, none⟩ = some (.int .u8 (x1 : Nat)) := hA 1 (by simp)
  have c2 : w.cell? ⟨b, o + 2, none⟩ = some (.int .u8 (x2 : Nat)) := hA 2 (by simp)
  have c3 : w.cell? ⟨b, o + 3, none⟩ = some (.int .u8 (x3 : Nat)) := hA 3 (by simp)
  have b0 : x0 < 256 := hB x0 (by simp)
  have b1 : x1 < 256 := hB x1 (by simp)
  have b2 : x2 < 256 := hB x2 (by simp)
  have b3 : x3 < 256 := hB x3 (by simp)
  clear hA hB
  have HI := hideIt (idxP ⟨w.heap.size, 4, none⟩ ⟨w.heap.size, 5, none⟩ ⟨w.heap.size, 6, none⟩)
  go_enter Tryd.func28, Tryd.ntmps28
  go_wp2_with fail
  go_region
  go_wp2_with fail
  go_loopw [0, 3, 33] (fun v _ i wr => i = .int .i64 0 ∧ v = .slice (some ⟨b, o, none⟩) 0 0 ∧ wr = (w.alloc (.cells #[.int .i64 x0, .int .i64 x1, .int .i64 x2, .int .i64 x3, .int .i64 0, .int .i64 0, .int .i64 0] 23)).drewN 1) (fun _ _ i _ => 3 - (intOf i).toNat)
  case atStart => exact ⟨rfl, rfl, rfl⟩
  case round =>
    obtain ⟨rfl, rfl, rfl⟩ := hrel
    obtain ⟨ix0, ix1, ix2⟩ := HI.out ((w.alloc (.cells #[.int .i64 x0, .int .i64 x1, .int .i64 x2, .int .i64 x3, .int .i64 0, .int .i64 0, .int .i64 0] 23)).drewN 1)
    go_wp2_with fail
    refine (readNumber_any b _ [] _ ⟨fun _ h => (List.not_mem_nil h).elim, o, 0, rfl, Nat.le_refl _, fun i hi => absurd hi (Nat.not_lt_zero _)⟩ (by simp)).mono ?_
    rintro e w' ⟨⟨n', rfl⟩, ht⟩
    rcases ht with ⟨hrd, rfl⟩ | ⟨u, rest, v', hrd, rfl, hby⟩
    · clear hrd
      go_wp2
      exact bodyPost_ret (v := .tuple #[zeroE.agg, .bool false]) (by simp [results, Tryd.results28, go_sem, zeroE, Ev.agg]) rfl ⟨rfl, bel_set (bel_set (bel_set (bel_set (bel_set (bel_set (bel_set (bel_set (below_drewN (below_alloc (Below.refl _ _) _) _) _ _) _ _) _ _) _ _) _ _) _ _) _ _) _ _⟩
    · simp [rdN] at hrd

set_option maxHeartbeats 4000000 in
set_option maxRecDepth 100000 in
theorem read_long (b o c x0 x1 x2 x3 : Nat) (m : List Nat) (w : World) (hB : Byt (x0 :: x1 :: x2 :: x3 :: m)) (hc : (x0 :: x1 :: x2 :: x3 :: m).length ≤ c) (hb : b < w.heap.size) (hA : BysAt w b o (x0 :: x1 :: x2 :: x3 :: m)) (hl : m.length ≤ 70000) (hc4 : ¬ c = 4) :
    Calls Tryd.prog 28 #[.slice (some ⟨b, o, none⟩) (m.length + 4) c] w fun e w' => e = .returned (rdE (x0 :: x1 :: x2 :: x3 :: m)) ∧ Below w.heap.size w w' := by
  have c0 : w.cell? ⟨b, o, none⟩ = some (.int .u8 (x0 : Nat)) := hA 0 (by simp)
  have c1 : w.cell? ⟨b, o + 1, none⟩ = some (.int .u8 (x1 : Nat)) := hA 1 (by simp)
  have c2 : w.cell? ⟨b, o + 2, none⟩ = some (.int .u8 (x2 : Nat)) := hA 2 (by simp)
  have c3 : w.cell? ⟨b, o + 3, none⟩ = some (.int .u8 (x3 : Nat)) := hA 3 (by simp)
  have b0 : x0 < 256 := hB x0 (by simp)
  have b1 : x1 < 256 := hB x1 (by simp)
  have b2 : x2 < 256 := hB x2 (by simp)
  have b3 : x3 < 256 := hB x3 (by simp)
  have hc' : m.length + 4 ≤ c := by simpa using hc
  have HA : Hid (BysAt w b (o + 4) m) := hA.drop 4
  have HBm : Hid (Byt m) := hB.drop 4
  clear hA hc hB
  have HI := hideIt (idxP ⟨w.heap.size, 4, none⟩ ⟨w.heap.size, 5, none⟩ ⟨w.heap.size, 6, none⟩)
  go_enter Tryd.func28, Tryd.ntmps28
  go_wp2_with fail
  go_region
  go_wp2_with fail
  go_loopw [0, 3, 33] (fun v _ i wr => ∃ j : Nat, j ≤ 3 ∧ i = .int .i64 j ∧ ∃ (n : Nat) (A B R : Int), wr = (w.alloc (.cells #[.int .i64 x0, .int .i64 x1, .int .i64 x2, .int .i64 x3, .int .i64 A, .int .i64 B, .int .i64 R] 23)).drewN n ∧ RdS w b m v j A B R) (fun _ _ i _ => 3 - (intOf i).toNat)
  case atStart =>
    refine ⟨0, by omega, rfl, 1, 0, 0, 0, rfl, rfl, rfl, rfl, HBm.out, ?_⟩
    exact ⟨o + 4, c - 4, rfl, by omega, HA.out⟩
  case round =>
    obtain ⟨j, hj, rfl, n, A, B, R, rfl, hst⟩ := hrel
    have HS := hideIt hst
    clear hst
    have hj4 : j = 0 ∨ j = 1 ∨ j = 2 ∨ j = 3 := by omega
    rcases hj4 with rfl | rfl | rfl | rfl
    · obtain ⟨rfl, rfl, rfl, hby⟩ := HS.out
      clear HS
      obtain ⟨ix0, ix1, ix2⟩ := HI.out ((w.alloc (.cells #[.int .i64 x0, .int .i64 x1, .int .i64 x2, .int .i64 x3, .int .i64 0, .int .i64 0, .int .i64 0] 23)).drewN n)
      have HW : Hid (Below w.heap.size w ((w.alloc (.cells #[.int .i64 x0, .int .i64 x1, .int .i64 x2, .int .i64 x3, .int .i64 0, .int .i64 0, .int .i64 0] 23)).drewN n)) := below_drewN (below_alloc (Below.refl _ _) _) n
      have HY := hideIt hby
      clear hby
      go_wp2_with fail
      refine (readNumber_any b _ m _ (HY.out.below hb HW.out) (by omega)).mono ?_
      rintro e w' ⟨⟨n', rfl⟩, ht⟩
      rcases ht with ⟨hrd, rfl⟩ | ⟨u, rest, v', hrd, rfl, hby⟩
      · have HN : Hid (readP (x0 :: x1 :: x2 :: x3 :: m) = none) := by
          show readP (x0 :: x1 :: x2 :: x3 :: m) = none
          simp only [readP, hrd]
        clear hrd
        go_wp2
        exact bodyPost_ret (v := .tuple #[zeroE.agg, .bool false]) (by simp [results, Tryd.results28, go_sem, zeroE, Ev.agg]) rfl ⟨by rw [ret_none HN.out], bel_set (bel_set (bel_set (bel_set (bel_set (bel_set (bel_set (bel_set (below_drewN (below_alloc (Below.refl _ _) _) _) _ _) _ _) _ _) _ _) _ _) _ _) _ _) _ _⟩
      · have HR := hideIt hrd
        have HB2 := hideIt (hby.back hb HW.out)
        clear hrd hby
        go_wp2
        go_roundw
        case rel => exact ⟨1, by omega, rfl, n + n', _, _, _, (set_ev _ _ _ _ _ _ _ _ _ _ _).1, u, rest, HR.out, rfl, rfl, rfl, HB2.out⟩
        case measure => simp [intOf]
    · obtain ⟨a, m1, g1, rfl, rfl, rfl, hby⟩ := HS.out
      clear HS
      obtain ⟨ix0, ix1, ix2⟩ := HI.out ((w.alloc (.cells #[.int .i64 x0, .int .i64 x1, .int .i64 x2, .int .i64 x3, .int .i64 (unzN a), .int .i64 0, .int .i64 0] 23)).drewN n)
      have HW : Hid (Below w.heap.size w ((w.alloc (.cells #[.int .i64 x0, .int .i64 x1, .int .i64 x2, .int .i64 x3, .int .i64 (unzN a), .int .i64 0, .int .i64 0] 23)).drewN n)) := below_drewN (below_alloc (Below.refl _ _) _) n
      have HY := hideIt hby
      clear hby
      have G1 := hideIt g1
      have L1 := rdN_len _ _ _ _ _ g1
      clear g1
      go_wp2_with fail
      refine (readNumber_any b _ m1 _ (HY.out.below hb HW.out) (by omega)).mono ?_
      rintro e w' ⟨⟨n', rfl⟩, ht⟩
      rcases ht with ⟨hrd, rfl⟩ | ⟨u, rest, v', hrd, rfl, hby⟩
      · have HN : Hid (readP (x0 :: x1 :: x2 :: x3 :: m) = none) := by
          show readP (x0 :: x1 :: x2 :: x3 :: m) = none
          simp only [readP, G1.out, hrd]
        clear hrd
        go_wp2
        exact bodyPost_ret (v := .tuple #[zeroE.agg, .bool false]) (by simp [results, Tryd.results28, go_sem, zeroE, Ev.agg]) rfl ⟨by rw [ret_none HN.out], bel_set (bel_set (bel_set (bel_set (bel_set (bel_set (bel_set (bel_set (below_drewN (below_alloc (Below.refl _ _) _) _) _ _) _ _) _ _) _ _) _ _) _ _) _ _) _ _⟩
      · have HR := hideIt hrd
        have HB2 := hideIt (hby.back hb HW.out)
        clear hrd hby
        go_wp2
        go_roundw
        case rel => exact ⟨2, by omega, rfl, n + n', _, _, _, (set_ev _ _ _ _ _ _ _ _ _ _ _).2.1, a, m1, u, rest, G1.out, HR.out, rfl, rfl, rfl, HB2.out⟩
        case measure => simp [intOf]
    · obtain ⟨a, m1, d, m2, g1, g2, rfl, rfl, rfl, hby⟩ := HS.out
      clear HS
      obtain ⟨ix0, ix1, ix2⟩ := HI.out ((w.alloc (.cells #[.int .i64 x0, .int .i64 x1, .int .i64 x2, .int .i64 x3, .int .i64 (unzN a), .int .i64 (unzN d), .int .i64 0] 23)).drewN n)
      have HW : Hid (Below w.heap.size w ((w.alloc (.cells #[.int .i64 x0, .int .i64 x1, .int .i64 x2, .int .i64 x3, .int .i64 (unzN a), .int .i64 (unzN d), .int .i64 0] 23)).drewN n)) := below_drewN (below_alloc (Below.refl _ _) _) n
      have HY := hideIt hby
      clear hby
      have G1 := hideIt g1
      have G2 := hideIt g2
      have L1 := rdN_len _ _ _ _ _ g1
      have L2 := rdN_len _ _ _ _ _ g2
      clear g1 g2
      go_wp2_with fail
      refine (readNumber_any b _ m2 _ (HY.out.below hb HW.out) (by omega)).mono ?_
      rintro e w' ⟨⟨n', rfl⟩, ht⟩
      rcases ht with ⟨hrd, rfl⟩ | ⟨u, rest, v', hrd, rfl, hby⟩
      · have HN : Hid (readP (x0 :: x1 :: x2 :: x3 :: m) = none) := by
          show readP (x0 :: x1 :: x2 :: x3 :: m) = none
          simp only [readP, G1.out, G2.out, hrd]
        clear hrd
        go_wp2
        exact bodyPost_ret (v := .tuple #[zeroE.agg, .bool false]) (by simp [results, Tryd.results28, go_sem, zeroE, Ev.agg]) rfl ⟨by rw [ret_none HN.out], bel_set (bel_set (bel_set (bel_set (bel_set (bel_set (bel_set (bel_set (below_drewN (below_alloc (Below.refl _ _) _) _) _ _) _ _) _ _) _ _) _ _) _ _) _ _) _ _⟩
      · have HR := hideIt hrd
        have HB2 := hideIt (hby.back hb HW.out)
        clear hrd hby
        go_wp2
        go_roundw
        case rel => exact ⟨3, by omega, rfl, n + n', _, _, _, (set_ev _ _ _ _ _ _ _ _ _ _ _).2.2, a, m1, d, m2, u, rest, G1.out, G2.out, HR.out, rfl, rfl, rfl⟩
        case measure => simp [intOf]
    · obtain ⟨a, m1, d, m2, f, m3, g1, g2, g3, rfl, rfl, rfl⟩ := HS.out
      clear HS
      have HN : Hid (rdE (x0 :: x1 :: x2 :: x3 :: m) = .tuple #[(⟨x0, x1, x2, x3, unzN a, unzN d, unzN f⟩ : Ev).agg, .bool true]) := by
        show rdE (x0 :: x1 :: x2 :: x3 :: m) = _
        simp only [rdE, readP, g1, g2, g3]
      clear g1 g2 g3
      go_wp2
      exact bodyPost_ret (v := .tuple #[(⟨x0, x1, x2, x3, unzN a, unzN d, unzN f⟩ : Ev).agg, .bool true]) (by simp [results, Tryd.results28, go_sem, Ev.agg]) rfl ⟨by rw [HN.out], bel_set (bel_set (bel_set (bel_set (bel_set (bel_set (bel_set (below_drewN (below_alloc (Below.refl _ _) _) _) _ _) _ _) _ _) _ _) _ _) _ _) _ _⟩

theorem read_any (v : Value) (l : List Nat) (w : World) (hq : ByQ w v l) (hl : l.length ≤ 70000) :
    Calls Tryd.prog 28 #[v] w fun e w' => e = .returned (rdE l) ∧ Below w.heap.size w w' := by
  by_cases h4 : l.length < 4
  · exact read_short v l w hq h4
  · obtain ⟨hB, ⟨rfl, a0, c0, rfl, _⟩ | ⟨b, o, c, rfl, hc, hb, hA⟩⟩ := hq
    · simp at h4
    · match l, h4 with
      | [], h4 => simp at h4
      | [_], h4 => simp at h4
      | [_, _], h4 => simp at h4
      | [_, _, _], h4 => simp at h4
      | x0 :: x1 :: x2 :: x3 :: m, _ =>
        by_cases hc4 : c = 4
        · subst hc4
          have hm : m = [] := List.eq_nil_of_length_eq_zero (by simp only [List.length_cons] at hc; omega)
          subst hm
          exact read_four b o x0 x1 x2 x3 w hB hb hA
        · exact read_long b o c x0 x1 x2 x3 m w hB hc hb hA (by simp only [List.length_cons] at hl; omega) hc4

end Go.Proofs.YtdncnljcihblbaaDoor
