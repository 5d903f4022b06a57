/-
  The statement EventFits walked: whatever the events, true.
-/
import Derived.Test.YtkedbcfejcakaabEvOps
import Derived.Test.YtkedbcfejcakaabWalkG
namespace Go.Proofs.Ytkedbcfejcakaab
open Go.RowKit

def seenL : List Ev := [⟨2, 1, 0, 4, 3, 0, 0⟩, ⟨2, 2, 0, 4, 3, 0, 3⟩]
theorem seen_fine : FineH seenL 2 := fun i h hi => by
  match i, h with
  | 0, _ => rfl
  | 1, _ => rfl
theorem seen_ops {L : List Opn} (h : OpsOf (hist seenL 2) L) : L = [⟨2, 0, 4, 3, 0, 3, 0, 1⟩] := by
  obtain ⟨qs, _, hm, hp, _⟩ := h
  have hq : qs = [] := by
    cases qs with
    | nil => rfl
    | cons q r =>
      have h1 := (hm q).1 (List.mem_cons_self ..)
      have h2 : (hist seenL 2).busy q = none := by
        show setO (setO (fun _ => none) 2 (some _)) 2 none q = none
        by_cases e : q = 2 <;> simp [setO, e]
      rw [h2] at h1
      cases h1
  subst hq
  have e : (hist seenL 2).done ++ [].filterMap (hist seenL 2).busy = [⟨2, 0, 4, 3, 0, 3, 0, 1⟩] := rfl
  rw [e] at hp
  exact List.perm_singleton.1 hp

set_option maxHeartbeats 1000000 in
theorem seen_any (w : World) : Calls Try.prog 5 #[] w fun e w' => e = .returned (.bool true) ∧ Below w.heap.size w w' := by
  have hE : EvsAt (w.alloc (.cells #[.int .i64 2, .int .i64 1, .int .i64 0, .int .i64 4, .int .i64 3, .int .i64 0, .int .i64 0, .int .i64 2, .int .i64 2, .int .i64 0, .int .i64 4, .int .i64 3, .int .i64 0, .int .i64 3] 33)) w.heap.size 0 seenL := fun i h => by
    match i, h with
    | 0, _ => exact ⟨by simp [seenL], by simp [seenL], by simp [seenL], by simp [seenL], by simp [seenL], by simp [seenL], by simp [seenL]⟩
    | 1, _ => exact ⟨by simp [seenL], by simp [seenL], by simp [seenL], by simp [seenL], by simp [seenL], by simp [seenL], by simp [seenL]⟩
  have HC := hideIt (evOps_some seenL w.heap.size 0 2 _ (by decide) hE (by simp))
  clear hE
  go_enter Try.func5, Try.ntmps5
  go_wp2_with fail
  refine HC.out.mono ?_
  rintro e w1 ⟨h1 | ⟨_, _, a, cp, L, rfl, ho, hcap, hat⟩, hb1⟩
  · obtain ⟨_, _, _, h⟩ := h1
    exact absurd ⟨by decide, seen_fine⟩ h
  · obtain rfl := seen_ops ho
    obtain ⟨g, rfl, hg⟩ := hat (by decide)
    obtain ⟨c0, c1, c2, c3, c4, c5, c6, c7⟩ := hg 0 (by decide)
    simp only [Nat.zero_mul, Nat.zero_add, List.getElem_cons_zero] at c0 c1 c2 c3 c4 c5 c6 c7
    have R1 := hideIt (belJ (belA (Below.refl _ _) _) hb1)
    clear hat hg ho hb1
    go_wp2
    go_ret
    exact ⟨rfl, R1.out⟩

set_option maxHeartbeats 400000 in
theorem checkOps_none (a : Option Addr) (cap : Nat) (w : World) : Calls Try.prog 6 #[.slice a 0 cap] w fun e w' => e = .returned .nilIface ∧ w' = w := by
  go_enter Try.func6, Try.ntmps6
  go_wp2
  refine wp_loop_rounds 1 ?_
  rw [rounds_succ]
  go_wp2
  go_ret
  exact ⟨rfl, rfl⟩

/-- CheckOps of what a history makes: nothing is wrong. -/
theorem checkOps_fine {l : List Ev} {n : Nat} {s : Hs} {L : List Opn} (I : Inv l n s) (hn : n ≤ 200) (ho : OpsOf s L) (g cap : Nat) (w : World) (hlen : L.length ≤ 40) (hcap : L.length ≤ cap) (hl : OpsAt w g 0 L) (hg : g < w.heap.size) :
    Calls Try.prog 6 #[.slice (some ⟨g, 0, none⟩) L.length cap] w fun e w' => e = .returned .nilIface ∧ Below w.heap.size w w' := by
  refine (checkOps_any L g 0 cap w (by omega) hcap hl hg).mono ?_
  rintro e w' ⟨n, rfl, ht, hb⟩
  have h0 : Told L 0 := told0 L hlen (fun j hj => opsOf_fine I hn ho j hj)
  obtain rfl := told_one ht h0
  exact ⟨by simp [toldV], hb⟩

theorem opsOf_nil {L : List Opn} (h : OpsOf (hist [] 0) L) : L = [] := by
  obtain ⟨qs, _, hm, hp, _⟩ := h
  have hq : qs = [] := by
    cases qs with
    | nil => rfl
    | cons q r =>
      have h1 := (hm q).1 (List.mem_cons_self ..)
      simp [hist, Hs.new] at h1
  subst hq
  exact List.perm_nil.1 hp

set_option maxHeartbeats 400000 in
theorem fits_long (a : Option Addr) (n cap : Nat) (w : World) (h : 130 < n) (h2 : n ≤ maxLen) :
    Calls Try.prog 3 #[.slice a n cap] w fun e w' => e = .returned (.bool true) ∧ Below w.heap.size w w' := by
  unfold maxLen at h2
  go_enter Try.func3, Try.ntmps3
  go_wp2
  go_ret
  exact ⟨rfl, Below.refl _ _⟩

set_option maxHeartbeats 1000000 in
theorem fits_none (a : Option Addr) (cap : Nat) (w : World) :
    Calls Try.prog 3 #[.slice a 0 cap] w fun e w' => e = .returned (.bool true) ∧ Below w.heap.size w w' := by
  go_enter Try.func3, Try.ntmps3
  go_wp2_with fail
  refine (evOps_none a cap w).mono ?_
  rintro e w1 ⟨h1 | ⟨_, _, a1, cp, L, rfl, ho, hcap, hat⟩, hb1⟩
  · obtain ⟨_, _, _, h⟩ := h1
    exact absurd ⟨by simp, fun i h => absurd h (Nat.not_lt_zero _)⟩ h
  · obtain rfl := opsOf_nil ho
    clear ho hat hcap
    go_wp2_with fail
    refine (seen_any _).mono ?_
    rintro e w2 ⟨rfl, hb2⟩
    go_wp2_with fail
    refine (checkOps_none _ _ _).mono ?_
    rintro e w3 ⟨rfl, rfl⟩
    go_wp2
    refine wp_loop_rounds 1 ?_
    rw [rounds_succ]
    go_wp2
    go_ret
    exact ⟨rfl, belJ hb1 hb2⟩

set_option maxRecDepth 100000 in
set_option maxHeartbeats 2000000 in
theorem fits_some (l : List Ev) (b off cap : Nat) (w : World) (hlen : l.length ≤ 130) (hl : EvsAt w b off l) (hb : b < w.heap.size)
    (hc : Calls Try.prog 4 #[.slice (some ⟨b, off, none⟩) l.length cap] w fun e w' => OpsTold l e w' ∧ Below w.heap.size w w') :
    Calls Try.prog 3 #[.slice (some ⟨b, off, none⟩) l.length cap] w fun e w' => e = .returned (.bool true) ∧ Below w.heap.size w w' := by
  have HL := hideIt hl
  have HC := hideIt hc
  clear hl hc
  have h130 : decide (130 < (l.length : Int)) = false := by simp; omega
  go_enter Try.func3, Try.ntmps3
  go_wp2_with fail
  refine HC.out.mono ?_
  rintro e w1 ⟨⟨t, x, rfl, _⟩ | ⟨h120, hfine, a1, cp, L, rfl, ho, ⟨hcap, h1000⟩, hat⟩, hb1⟩
  · go_wp2_with fail
    refine (seen_any _).mono ?_
    rintro e w2 ⟨rfl, hb2⟩
    go_wp2_with fail
    refine (seen_any _).mono ?_
    rintro e w3 ⟨rfl, hb3⟩
    go_wp2
    go_ret
    exact ⟨rfl, belJ (belJ hb1 hb2) hb3⟩
  · have hinv := inv_hist l l.length (Nat.le_refl _) hfine
    have HG := hideIt (opsOf_good hinv ho)
    have HCK := hideIt (checkOps_fine hinv (by omega) ho)
    clear hinv hfine ho
    by_cases hL : L.length = 0
    · have e0 : L = [] := List.length_eq_zero_iff.1 hL
      subst e0
      clear HG HCK hat hL hcap h1000
      go_wp2_with fail
      refine (seen_any _).mono ?_
      rintro e w2 ⟨rfl, hb2⟩
      go_wp2_with fail
      refine (checkOps_none _ _ _).mono ?_
      rintro e w3 ⟨rfl, rfl⟩
      go_wp2
      refine wp_loop_rounds 1 ?_
      rw [rounds_succ]
      go_wp2
      go_ret
      exact ⟨rfl, belJ hb1 hb2⟩
    · obtain ⟨g, rfl, hg⟩ := hat (by omega)
      have hg1 : g < w1.heap.size := (hg 0 (by omega)).lt
      have HG1 := hideIt hg
      clear hat hg
      by_cases h40 : L.length ≤ 40
      · have h40' : decide ((L.length : Int) ≤ 40) = true := by simp; omega
        go_wp2_with fail
        refine (seen_any _).mono ?_
        rintro e w2 ⟨rfl, hb2⟩
        have hsz2 := hb2.size
        go_wp2_with fail
        refine (HCK.out g cp w2 h40 hcap (HG1.out.below hg1 hb2) (by omega)).mono ?_
        rintro e w3 ⟨rfl, hb3⟩
        have hsz3 := hb3.size
        have RW := hideIt (belJ (belJ hb1 hb2) hb3)
        have HGW := hideIt ((HG1.out.below hg1 hb2).below (by omega) hb3)
        have hgW : g < w3.heap.size := by omega
        clear hb1 hb2 hb3 HCK
        go_wp2
        go_loopw [5] (fun i wr => ∃ j : Nat, j ≤ L.length ∧ i = .int .i64 j ∧ Below w3.heap.size w3 wr) (fun i _ => L.length - (intOf i).toNat)
        case atStart => exact ⟨0, Nat.zero_le _, rfl, Below.refl _ _⟩
        case round =>
          obtain ⟨j, hj, rfl, hnx⟩ := hrel
          have R2 := hideIt (belJ RW.out hnx)
          have hszr := hnx.size
          by_cases hjl : j < L.length
          · obtain ⟨x, HX⟩ : ∃ x, Hid (L[j] = x) := ⟨_, hideIt rfl⟩
            have gx := HG.out L[j] (List.getElem_mem hjl)
            have cx := (HGW.out j hjl).below hgW hnx
            rw [HX.out] at gx cx
            have g3 := gx.ret
            obtain ⟨i, hi, e1, e2, _, e4, e5, e6, e7, e8⟩ := gx.made
            obtain ⟨y, HY⟩ : ∃ y, Hid (l[i] = y) := ⟨_, hideIt rfl⟩
            have cy := (HL.out i hi).below hb R2.out
            rw [HY.out] at e2 e4 e5 e6 e7 e8 cy
            obtain ⟨x0, x1, x2, x3, x4, x5, x6, x7⟩ := cx
            obtain ⟨y0, y1, y2, y3, y4, y5, y6⟩ := cy
            simp only [Nat.zero_add] at x0 x1 x2 x3 x4 x5 x6 x7
            rw [e1] at x6
            have b1 : (y.t != 1) = false := by simp [e2]
            have b2 : (y.p != x.p) = false := by simp [e4]
            have b3 : (y.k != x.k) = false := by simp [e5]
            have b4 : (y.d != x.d) = false := by simp [e6]
            have b5 : (y.a != x.a) = false := by simp [e7]
            have b6 : (y.b != x.b) = false := by simp [e8]
            have i1 : (0 : Int) ≤ (i : Int) := by omega
            have i2 : (i : Int) < (l.length : Int) := by omega
            have i3 : decide ((l.length : Int) ≤ (i : Int)) = false := by simp; omega
            have i4 : decide ((l.length : Int) ≤ x.e) = false := by simp; omega
            have i5 : decide ((i : Int) < 0) = false := by simp
            have hbr : b < wr.heap.size := by have := R2.out.size; omega
            have hgr : g < wr.heap.size := by omega
            have R3 := hideIt hnx
            clear gx e1 e2 e4 e5 e6 e7 e8 hnx
            go_wp2
            go_roundw
            case rel => exact ⟨j + 1, by omega, by go_num, belA (belA R3.out _) _⟩
            case measure => simp [intOf]; omega
          · go_wp2
            go_ret
            exact ⟨rfl, R2.out⟩
      · have h40' : decide ((L.length : Int) ≤ 40) = false := by simp; omega
        go_wp2_with fail
        refine (seen_any _).mono ?_
        rintro e w2 ⟨rfl, hb2⟩
        have hsz2 := hb2.size
        have RW := hideIt (belJ hb1 hb2)
        have HGW := hideIt (HG1.out.below hg1 hb2)
        have hgW : g < w2.heap.size := by omega
        clear hb1 hb2 HCK
        go_wp2
        go_loopw [5] (fun i wr => ∃ j : Nat, j ≤ L.length ∧ i = .int .i64 j ∧ Below w2.heap.size w2 wr) (fun i _ => L.length - (intOf i).toNat)
        case atStart => exact ⟨0, Nat.zero_le _, rfl, Below.refl _ _⟩
        case round =>
          obtain ⟨j, hj, rfl, hnx⟩ := hrel
          have R2 := hideIt (belJ RW.out hnx)
          have hszr := hnx.size
          by_cases hjl : j < L.length
          · obtain ⟨x, HX⟩ : ∃ x, Hid (L[j] = x) := ⟨_, hideIt rfl⟩
            have gx := HG.out L[j] (List.getElem_mem hjl)
            have cx := (HGW.out j hjl).below hgW hnx
            rw [HX.out] at gx cx
            have g3 := gx.ret
            obtain ⟨i, hi, e1, e2, _, e4, e5, e6, e7, e8⟩ := gx.made
            obtain ⟨y, HY⟩ : ∃ y, Hid (l[i] = y) := ⟨_, hideIt rfl⟩
            have cy := (HL.out i hi).below hb R2.out
            rw [HY.out] at e2 e4 e5 e6 e7 e8 cy
            obtain ⟨x0, x1, x2, x3, x4, x5, x6, x7⟩ := cx
            obtain ⟨y0, y1, y2, y3, y4, y5, y6⟩ := cy
            simp only [Nat.zero_add] at x0 x1 x2 x3 x4 x5 x6 x7
            rw [e1] at x6
            have b1 : (y.t != 1) = false := by simp [e2]
            have b2 : (y.p != x.p) = false := by simp [e4]
            have b3 : (y.k != x.k) = false := by simp [e5]
            have b4 : (y.d != x.d) = false := by simp [e6]
            have b5 : (y.a != x.a) = false := by simp [e7]
            have b6 : (y.b != x.b) = false := by simp [e8]
            have i1 : (0 : Int) ≤ (i : Int) := by omega
            have i2 : (i : Int) < (l.length : Int) := by omega
            have i3 : decide ((l.length : Int) ≤ (i : Int)) = false := by simp; omega
            have i4 : decide ((l.length : Int) ≤ x.e) = false := by simp; omega
            have i5 : decide ((i : Int) < 0) = false := by simp
            have hbr : b < wr.heap.size := by have := R2.out.size; omega
            have hgr : g < wr.heap.size := by omega
            have R3 := hideIt hnx
            clear gx e1 e2 e4 e5 e6 e7 e8 hnx
            go_wp2
            go_roundw
            case rel => exact ⟨j + 1, by omega, by go_num, belA (belA R3.out _) _⟩
            case measure => simp [intOf]; omega
          · go_wp2
            go_ret
            exact ⟨rfl, R2.out⟩

end Go.Proofs.Ytkedbcfejcakaab
