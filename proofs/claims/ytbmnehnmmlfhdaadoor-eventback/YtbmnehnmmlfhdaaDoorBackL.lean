/-
  The statement EventBack walked: whatever the events, true.
-/
import Derived.Test.YtbmnehnmmlfhdaaDoorParseW
import Derived.BigQuiet
namespace Go.Proofs.YtbmnehnmmlfhdaaDoor
open Go.RowKit Go.Lib

def seenL : List Ev := [⟨2, 1, 0, 4, 3, 0, 0⟩, ⟨2, 2, 0, 4, 3, 0, 3⟩]
theorem seen_fine : FineH seenL 2 := fun i h hi => by
  match i, h with
  | 0, _ => rfl
  | 1, _ => rfl
theorem seen_ops {L : List Opn} (h : OpsOf (hist seenL 2) L) : L = [⟨2, 0, 4, 3, 0, 3, 0, 1⟩] := by
  obtain ⟨qs, _, hm, hp, _⟩ := h
  have hq : qs = [] := by
    cases qs with
    | nil => rfl
    | cons q r =>
      have h1 := (hm q).1 (List.mem_cons_self ..)
      have h2 : (hist seenL 2).busy q = none := by
        show setO (setO (fun _ => none) 2 (some _)) 2 none q = none
        by_cases e : q = 2 <;> simp [setO, e]
      rw [h2] at h1
      cases h1
  subst hq
  have e : (hist seenL 2).done ++ [].filterMap (hist seenL 2).busy = [⟨2, 0, 4, 3, 0, 3, 0, 1⟩] := rfl
  rw [e] at hp
  exact List.perm_singleton.1 hp

set_option maxHeartbeats 1000000 in
theorem seen_any (w : World) : Calls Tryd.prog 5 #[] w fun e w' => e = .returned (.bool true) ∧ Below w.heap.size w w' := by
  have hE : EvsAt (w.alloc (.cells #[.int .i64 2, .int .i64 1, .int .i64 0, .int .i64 4, .int .i64 3, .int .i64 0, .int .i64 0, .int .i64 2, .int .i64 2, .int .i64 0, .int .i64 4, .int .i64 3, .int .i64 0, .int .i64 3] 31)) w.heap.size 0 seenL := fun i h => by
    match i, h with
    | 0, _ => exact ⟨by simp [seenL], by simp [seenL], by simp [seenL], by simp [seenL], by simp [seenL], by simp [seenL], by simp [seenL]⟩
    | 1, _ => exact ⟨by simp [seenL], by simp [seenL], by simp [seenL], by simp [seenL], by simp [seenL], by simp [seenL], by simp [seenL]⟩
  have HC := hideIt (evOps_some seenL w.heap.size 0 2 _ (by decide) hE (by simp))
  clear hE
  go_enter Tryd.func5, Tryd.ntmps5
  go_wp2_with fail
  refine HC.out.mono ?_
  rintro e w1 ⟨⟨h1, _⟩ | ⟨k, g, n, hk, _, hs, hn, _⟩ | ⟨_, _, a, cp, L, rfl, ho, hcap, hat⟩, hb1⟩
  · exact absurd h1 (by decide)
  · exact absurd ((seen_fine k hk hk).symm.trans hs).symm hn
  · obtain rfl := seen_ops ho
    obtain ⟨g, rfl, hg⟩ := hat (by decide)
    obtain ⟨c0, c1, c2, c3, c4, c5, c6, c7⟩ := hg 0 (by decide)
    simp only [Nat.zero_mul, Nat.zero_add, List.getElem_cons_zero] at c0 c1 c2 c3 c4 c5 c6 c7
    have R1 := hideIt (belJ (belA (Below.refl _ _) _) hb1)
    clear hat hg ho hb1
    go_wp2
    go_ret
    exact ⟨rfl, R1.out⟩

set_option maxHeartbeats 400000 in
theorem back_long (n : Nat) (a : Option Addr) (cap : Nat) (w : World) (h : 130 < n) (h2 : n ≤ maxLen) :
    Calls Tryd.prog 3 #[.slice a n cap] w fun e w' => e = .returned (.bool true) ∧ Below w.heap.size w w' := by
  unfold maxLen at h2
  go_enter Tryd.func3, Tryd.ntmps3
  go_wp2
  go_ret
  exact ⟨rfl, Below.refl _ _⟩

set_option maxRecDepth 100000 in
set_option maxHeartbeats 4000000 in
theorem back_bad (l : List Ev) (a : Option Addr) (cap : Nat) (w : World) (hlen : l.length ≤ 130) (hbad : 120 < l.length ∨ ∃ e ∈ l, e.fault ≠ 0) (ht : Calls Tryd.prog 4 #[.slice a l.length cap] w fun x w' => TextTold l x ∧ Below w.heap.size w w') :
    Calls Tryd.prog 3 #[.slice a l.length cap] w fun e w' => e = .returned (.bool true) ∧ Below w.heap.size w w' := by
  have HT := hideIt ht
  have HBD := hideIt hbad
  have HS := hideIt seen_any
  clear ht hbad
  have h130 : decide (130 < (l.length : Int)) = false := by simp; omega
  go_enter Tryd.func3, Tryd.ntmps3
  go_wp2_with fail
  refine HT.out.mono ?_
  rintro x w1 ⟨⟨_, rfl | ⟨g, rfl⟩⟩ | ⟨h1, h2, _⟩, hb1⟩
  · have HB1 := hideIt hb1
    clear hb1
    go_wp2_with fail
    refine (HS.out _).mono ?_
    rintro x w2 ⟨rfl, hb2⟩
    have HB2 := hideIt (belJ HB1.out hb2)
    clear hb2
    go_wp2_with fail
    refine (HS.out _).mono ?_
    rintro x w3 ⟨rfl, hb3⟩
    have HB3 := hideIt (belJ HB2.out hb3)
    clear hb3
    go_wp2
    go_ret
    exact ⟨rfl, HB3.out⟩
  · have HB1 := hideIt hb1
    clear hb1
    go_wp2_with fail
    refine (HS.out _).mono ?_
    rintro x w2 ⟨rfl, hb2⟩
    have HB2 := hideIt (belJ HB1.out hb2)
    clear hb2
    go_wp2_with fail
    refine (HS.out _).mono ?_
    rintro x w3 ⟨rfl, hb3⟩
    have HB3 := hideIt (belJ HB2.out hb3)
    clear hb3
    go_wp2
    go_ret
    exact ⟨rfl, HB3.out⟩
  · rcases HBD.out with h | ⟨e, he, hz⟩
    · omega
    · exact absurd (h2 e he) hz

theorem evCells_at (L : List Ev) (i c : Nat) (hi : i < L.length) (hc : c < 7) : (evCells L)[i * 7 + c]? = L[i].cells[c]? := by
  induction L generalizing i with
  | nil => simp at hi
  | cons x r ih =>
    show (x.cells ++ evCells r)[i * 7 + c]? = _
    cases i with
    | zero =>
      rw [List.getElem?_append_left (by show _ < 7; omega)]
      simp
    | succ i =>
      rw [List.getElem?_append_right (by show 7 ≤ _; omega), show (i + 1) * 7 + c - x.cells.length = i * 7 + c from by show (i + 1) * 7 + c - 7 = _; omega, ih i (by simpa using hi)]
      simp

theorem evsAt_own {w : World} {base g n cap : Nat} {l : List Ev} (h : w.ownsRow base 31 7 (.slice (some ⟨g, 0, none⟩) n cap) l.length (evCells l)) : EvsAt w g 0 l ∧ g < w.heap.size := by
  obtain ⟨_, h | ⟨g', cap', cur, hv, _, hg, _, _, _, ht⟩⟩ := h
  · cases h.1
  · cases hv
    refine ⟨fun i hi => ?_, (Array.getElem?_eq_some_iff.1 hg).1⟩
    have hc : ∀ c, c < 7 → w.cell? ⟨g, 0 + i * 7 + c, none⟩ = l[i].cells[c]? := fun c hc => by
      rw [cell_of_row w g _ cur 31 (0, 0) hg, ← evCells_at l i c hi hc, ← ht, List.getElem?_take_of_lt (by omega)]
      simp
    exact ⟨hc 0 (by decide), hc 1 (by decide), hc 2 (by decide), hc 3 (by decide), hc 4 (by decide), hc 5 (by decide), hc 6 (by decide)⟩

set_option maxRecDepth 100000 in
set_option maxHeartbeats 4000000 in
theorem back_good (l : List Ev) (b off cap : Nat) (w : World) (m : Int) (hlen : l.length ≤ 120) (h0 : 0 < l.length) (hf : ∀ e ∈ l, e.fault = 0) (hl : EvsAt w b off l) (hb : b < w.heap.size) (hp : Pow w) (h9 : 2 ≤ w.heap.size) (hm : w.cell? ⟨0, 0, none⟩ = some (.int .i64 m)) :
    Calls Tryd.prog 3 #[.slice (some ⟨b, off, none⟩) l.length cap] w fun e w' => e = .returned (.bool true) ∧ Below w.heap.size w w' := by
  have HT := hideIt (text_some l b off cap w hlen hl hb hp h9)
  have HS := hideIt seen_any
  have HL := hideIt hl
  have HP := hideIt hp
  have HM := hideIt hm
  have HF := hideIt hf
  clear hl hp hm hf
  have h130 : decide (130 < (l.length : Int)) = false := by simp; omega
  go_enter Tryd.func3, Tryd.ntmps3
  go_wp2_with fail
  refine HT.out.mono ?_
  rintro x w1 ⟨⟨h1 | ⟨e, he, hz⟩, _⟩ | ⟨h1, h2, rfl⟩, hb1⟩
  · omega
  · exact absurd (HF.out e he) hz
  · have HB1 := hideIt hb1
    clear hb1 h1 h2
    go_wp2_with fail
    refine (HS.out _).mono ?_
    rintro x w2 ⟨rfl, hb2⟩
    have HB2 := hideIt (belJ HB1.out hb2)
    clear hb2
    go_wp2_with fail
    refine (parse_any l HF.out hlen m w2 (HP.out.below HB2.out h9) (by have := HB2.out.size; omega) ((HB2.out.cell (p := ⟨0, 0, none⟩) (by show 0 < w.heap.size; omega)).trans HM.out)).mono ?_
    rintro x w3 ⟨v, rfl, hown, hb3⟩
    have HB3 := hideIt (belJ HB2.out hb3)
    obtain ⟨g, vc, rfl⟩ : ∃ g c, v = .slice (some ⟨g, 0, none⟩) l.length c := by
      rcases hown.2 with ⟨h1, h2⟩ | ⟨g, cap, cur, h1, _⟩
      · omega
      · exact ⟨_, _, h1⟩
    obtain ⟨hm3, hg3⟩ := evsAt_own hown
    have HM3 := hideIt hm3
    have HL3 := hideIt (HL.out.below hb HB3.out)
    clear hown hb3 hm3
    go_wp2_with fail
    go_loopw [6] (fun i wr => ∃ k : Nat, k ≤ l.length ∧ i = .int .i64 k ∧ Below w3.heap.size w3 wr) (fun i _ => l.length - (intOf i).toNat)
    case atStart => exact ⟨0, Nat.zero_le _, rfl, Below.refl _ _⟩
    case round =>
      obtain ⟨k, hk, rfl, hnx⟩ := hrel
      have HNX := hideIt hnx
      have hsz := hnx.size
      by_cases hkl : k < l.length
      · obtain ⟨e, HE⟩ : ∃ e, Hid (l[k] = e) := ⟨_, hideIt rfl⟩
        have hc := (HL3.out k hkl).below (B := w3.heap.size) (Nat.lt_of_lt_of_le hb HB3.out.size) hnx
        have hd := (HM3.out k hkl).below (B := w3.heap.size) hg3 hnx
        rw [HE.out] at hc hd
        obtain ⟨c0, c1, c2, c3, c4, c5, c6⟩ := hc
        obtain ⟨d0, d1, d2, d3, d4, d5, d6⟩ := hd
        simp only [Nat.zero_add] at d0 d1 d2 d3 d4 d5 d6
        clear hnx
        go_wp2
        go_quiet (fail)
        go_wp2
        exact ⟨⟨k + 1, by omega, rfl, ⟨HNX.out.os, HNX.out.tape, HNX.out.output, HNX.out.size, HNX.out.block⟩⟩, by simp [intOf]; omega⟩
      · clear hnx
        have HT2 := hideIt (text_some l g 0 vc wr hlen (HM3.out.below (B := w3.heap.size) hg3 HNX.out) (by omega) (HP.out.below (belJ HB3.out HNX.out) h9) (by have := HB3.out.size; omega))
        go_wp2_with fail
        refine HT2.out.mono ?_
        rintro x w5 ⟨⟨h1 | ⟨e, he, hz⟩, _⟩ | ⟨h1, h2, rfl⟩, hb5⟩
        · omega
        · exact absurd (HF.out e he) hz
        · have HB5 := hideIt (belJ (belJ HB3.out HNX.out) hb5)
          clear hb5 h1 h2
          go_wp2
          go_ret
          exact ⟨rfl, HB5.out⟩

set_option maxRecDepth 100000 in
set_option maxHeartbeats 4000000 in
theorem back_none (a : Option Addr) (cap : Nat) (w : World) (m : Int) (hp : Pow w) (h9 : 2 ≤ w.heap.size) (hm : w.cell? ⟨0, 0, none⟩ = some (.int .i64 m)) :
    Calls Tryd.prog 3 #[.slice a 0 cap] w fun e w' => e = .returned (.bool true) ∧ Below w.heap.size w w' := by
  have HT := hideIt (fun (a : Option Addr) (cap : Nat) (w : World) => text_none a cap w)
  have HS := hideIt seen_any
  have HP := hideIt hp
  have HM := hideIt hm
  clear hp hm
  go_enter Tryd.func3, Tryd.ntmps3
  go_wp2_with fail
  refine (HT.out _ _ _).mono ?_
  rintro x w1 ⟨⟨h1 | ⟨e, he, hz⟩, _⟩ | ⟨_, _, rfl⟩, hb1⟩
  · cases h1
  · cases he
  · have HB1 := hideIt hb1
    clear hb1
    go_wp2_with fail
    refine (HS.out _).mono ?_
    rintro x w2 ⟨rfl, hb2⟩
    have HB2 := hideIt (belJ HB1.out hb2)
    clear hb2
    go_wp2_with fail
    refine (parse_any [] (by simp) (by simp) m w2 (HP.out.below HB2.out h9) (by have := HB2.out.size; omega) ((HB2.out.cell (p := ⟨0, 0, none⟩) (by show 0 < w.heap.size; omega)).trans HM.out)).mono ?_
    rintro x w3 ⟨v, rfl, hown, hb3⟩
    have HB3 := hideIt (belJ HB2.out hb3)
    obtain ⟨g, vc, rfl⟩ : ∃ g c, v = .slice g 0 c := by
      rcases hown.2 with ⟨h1, h2⟩ | ⟨g, cap, cur, h1, _⟩
      · exact ⟨_, _, h1⟩
      · exact ⟨_, _, h1⟩
    clear hown hb3
    go_wp2_with fail
    refine wp_loop_rounds 1 ?_
    rw [rounds_succ]
    go_wp2_with fail
    refine (HT.out _ _ _).mono ?_
    rintro x w4 ⟨⟨h1 | ⟨e, he, hz⟩, _⟩ | ⟨_, _, rfl⟩, hb4⟩
    · cases h1
    · cases he
    · have HB4 := hideIt (belJ HB3.out hb4)
      clear hb4
      go_wp2
      go_ret
      exact ⟨rfl, HB4.out⟩

end Go.Proofs.YtbmnehnmmlfhdaaDoor
