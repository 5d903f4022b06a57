/-
  The statements ClockAhead and ClockTimes, walked.
-/
import Derived.Test.YtmonbkoelehdlaaDoorAtC
import Derived.Test.YtmonbkoelehdlaaDoorTrW
namespace Go.Proofs.YtmonbkoelehdlaaDoor
open Go.RowKit

/-- What the two listed variables hold, and what came in. -/
structure InC (w : World) (a : Option Addr) (cap : Nat) (l : List Stp) : Prop where
  max : l.length ≤ maxLen
  cap : l.length ≤ cap
  at_ : StpsQ w a l
  fine : FineAt w
  typ : TypAt w

set_option maxRecDepth 100000 in
set_option maxHeartbeats 4000000 in
theorem ca_walk (l : List Stp) (a : Option Addr) (cap : Nat) (w : World) (h : InC w a cap l) :
    Calls Tryd.prog 5 #[.slice a l.length cap] w fun e w' => e = .returned (.bool true) ∧ Below w.heap.size w w' := by
  have HI := hideIt h
  have hmax := h.max
  clear h
  by_cases h60 : l.length ≤ 60
  · have HS := hideIt (steps_any l a cap w h60 HI.out.at_)
    go_enter Tryd.func5, Tryd.ntmps5
    go_wp2_with fail
    refine HS.out.mono ?_
    rintro e w1 ⟨a', cap', rfl, hc', hq', hb1⟩
    have HB1 := hideIt hb1
    have HQ1 := hideIt hq'
    have HC := hideIt (rCheck_any l a' cap' w1 hc' h60 hq' (HI.out.fine.below hb1))
    clear hb1 hq' HS
    go_wp2_with fail
    refine HC.out.mono ?_
    rintro e w2 ⟨n, pl, rfl, hck, hb2⟩
    have HCk := hideIt hck
    have HB2 := hideIt (belJ HB1.out hb2)
    have HQ2 := hideIt (HQ1.out.below hb2)
    clear hck hb2 HC HQ1
    unfold fltA
    have HBx : Hid (Below w.heap.size w (w2.alloc (.cells #[.int .i64 n, .int .i64 pl] 27))) := belA HB2.out _
    have HQx := hideIt (HQ2.out.below ((Below.refl _ _).alloc (Nat.le_refl _) (.cells #[.int .i64 n, .int .i64 pl] 27)))
    have c0 : (w2.alloc (.cells #[.int .i64 n, .int .i64 pl] 27)).cell? ⟨w2.heap.size, 0, none⟩ = some (.int .i64 n) := by simp
    have c1 : (w2.alloc (.cells #[.int .i64 n, .int .i64 pl] 27)).cell? ⟨w2.heap.size, 1, none⟩ = some (.int .i64 pl) := by simp
    go_upto_region 5 with fail
    generalize w2.alloc (.cells #[.int .i64 n, .int .i64 pl] 27) = W at HBx HQx c0 c1 ⊢
    generalize w2.heap.size = G at c0 c1 ⊢
    clear HB1 HB2 HQ2
    have HKeep : Hid (∀ W', Below W.heap.size W W' → InC W' a cap l ∧ W'.cell? ⟨G, 0, none⟩ = some (.int .i64 n) ∧ W'.cell? ⟨G, 1, none⟩ = some (.int .i64 pl) ∧ Below w.heap.size w W') := fun W' hW => by
      have hb := belJ HBx.out hW
      have hG := World.block_lt_of_cell? W _ c0
      exact ⟨⟨hmax, HI.out.cap, HI.out.at_.below hb, HI.out.fine.below hb, HI.out.typ.below hb⟩, (hW.cell (p := ⟨G, 0, none⟩) hG).trans c0, (hW.cell (p := ⟨G, 1, none⟩) hG).trans c1, hb⟩
    by_cases hn : n = 0
    · subst hn
      have HA := hideIt (ahead9_any l a' cap' W h60 HQx.out)
      go_wp2_with fail
      refine HA.out.mono ?_
      intro e w3 h3
      obtain ⟨v, rfl, hrd, hb3⟩ := h3.read
      have HRd := hideIt hrd
      obtain ⟨va, vc, rfl, hvc, _⟩ := hrd
      have HB3 := hideIt hb3
      obtain ⟨hin3, _, _, _⟩ := HKeep.out w3 hb3
      have HC := hideIt (ahead_any l a cap w3 hmax hin3.at_)
      clear h3 hb3 HA hin3 c0 c1
      go_wp2_with fail
      refine HC.out.mono ?_
      rintro e w4 ⟨v4, err, n4, pl4, rfl, hck, her, _, hok, hb4⟩
      obtain ⟨rfl, rfl⟩ := hck.one HCk.out
      obtain ⟨B, rb, rfl, hmat⟩ := hok rfl
      have HMat := hideIt hmat
      have HB4 := hideIt (belJ HB3.out hb4)
      obtain ⟨hin4, d0, d1, hbw4⟩ := HKeep.out w4 HB4.out
      have HAt := hideIt (at_told err 0 pl4 w4 her hin4.typ)
      have HRd4 := hideIt (HRd.out.below hb4)
      obtain ⟨rfl, rfl⟩ := her.nil
      unfold fltA at HAt
      clear hck her hok hmat hb4 hin4 hbw4 HC
      go_wp2_with fail
      refine HAt.out.mono ?_
      rintro e w5 ⟨rfl, hb5⟩
      have HSm := hideIt (sameBools_any l.length h60 (aheadC l) _ _ w5 (HMat.out.readM.below hb5) (HRd4.out.below hb5))
      have HB5 := hideIt (belJ HB4.out hb5)
      clear hb5
      go_wp2_with fail
      refine HSm.out.mono ?_
      rintro e w6 ⟨rfl, hb6⟩
      go_wp2
      go_ret
      exact ⟨rfl, belJ (HKeep.out _ HB5.out).2.2.2 hb6⟩
    · have hn' : (n == 0) = false := by simp [hn]
      obtain ⟨hin3, _, _, _⟩ := HKeep.out W (Below.refl _ _)
      have HC := hideIt (ahead_any l a cap W hmax hin3.at_)
      clear hin3
      go_wp2_with fail
      refine HC.out.mono ?_
      rintro e w4 ⟨v4, err, n4, pl4, rfl, hck, her, hno, _, hb4⟩
      obtain ⟨rfl, rfl⟩ := hck.one HCk.out
      obtain rfl := hno hn
      have HB4 := hideIt hb4
      obtain ⟨hin4, d0, d1, hbw4⟩ := HKeep.out w4 hb4
      have HAt := hideIt (at_told err n4 pl4 w4 her hin4.typ)
      obtain ⟨tt, uu, rfl⟩ := her.ne hn
      unfold fltA at HAt
      clear hck her hno hb4 hin4 hbw4 HC c0 c1
      go_wp2_with fail
      refine HAt.out.mono ?_
      rintro e w5 ⟨rfl, hb5⟩
      have HSm := hideIt (sameBools_any 0 (by omega) (fun _ _ => false) _ _ w5 (readM_nil w5 _) (readM_nil w5 _))
      have HB5 := hideIt (belJ HB4.out hb5)
      clear hb5
      go_wp2_with fail
      refine HSm.out.mono ?_
      rintro e w6 ⟨rfl, hb6⟩
      go_wp2
      go_ret
      exact ⟨rfl, belJ (HKeep.out _ HB5.out).2.2.2 hb6⟩
  · go_enter Tryd.func5, Tryd.ntmps5
    go_wp2
    go_ret
    exact ⟨rfl, Below.refl _ _⟩
set_option maxRecDepth 100000 in
set_option maxHeartbeats 4000000 in
theorem ct_walk (l : List Stp) (a : Option Addr) (cap : Nat) (w : World) (h : InC w a cap l) :
    Calls Tryd.prog 3 #[.slice a l.length cap] w fun e w' => e = .returned (.bool true) ∧ Below w.heap.size w w' := by
  have HI := hideIt h
  have hmax := h.max
  clear h
  by_cases h60 : l.length ≤ 60
  · have HS := hideIt (steps_any l a cap w h60 HI.out.at_)
    go_enter Tryd.func3, Tryd.ntmps3
    go_wp2_with fail
    refine HS.out.mono ?_
    rintro e w1 ⟨a', cap', rfl, hc', hq', hb1⟩
    have HB1 := hideIt hb1
    have HQ1 := hideIt hq'
    have HC := hideIt (rCheck_any l a' cap' w1 hc' h60 hq' (HI.out.fine.below hb1))
    clear hb1 hq' HS
    go_wp2_with fail
    refine HC.out.mono ?_
    rintro e w2 ⟨n, pl, rfl, hck, hb2⟩
    have HCk := hideIt hck
    have HB2 := hideIt (belJ HB1.out hb2)
    have HQ2 := hideIt (HQ1.out.below hb2)
    clear hck hb2 HC HQ1
    unfold fltA
    have HBx : Hid (Below w.heap.size w (w2.alloc (.cells #[.int .i64 n, .int .i64 pl] 27))) := belA HB2.out _
    have HQx := hideIt (HQ2.out.below ((Below.refl _ _).alloc (Nat.le_refl _) (.cells #[.int .i64 n, .int .i64 pl] 27)))
    have c0 : (w2.alloc (.cells #[.int .i64 n, .int .i64 pl] 27)).cell? ⟨w2.heap.size, 0, none⟩ = some (.int .i64 n) := by simp
    have c1 : (w2.alloc (.cells #[.int .i64 n, .int .i64 pl] 27)).cell? ⟨w2.heap.size, 1, none⟩ = some (.int .i64 pl) := by simp
    go_upto_region 5 with fail
    generalize w2.alloc (.cells #[.int .i64 n, .int .i64 pl] 27) = W at HBx HQx c0 c1 ⊢
    generalize w2.heap.size = G at c0 c1 ⊢
    clear HB1 HB2 HQ2
    have HKeep : Hid (∀ W', Below W.heap.size W W' → InC W' a cap l ∧ W'.cell? ⟨G, 0, none⟩ = some (.int .i64 n) ∧ W'.cell? ⟨G, 1, none⟩ = some (.int .i64 pl) ∧ Below w.heap.size w W') := fun W' hW => by
      have hb := belJ HBx.out hW
      have hG := World.block_lt_of_cell? W _ c0
      exact ⟨⟨hmax, HI.out.cap, HI.out.at_.below hb, HI.out.fine.below hb, HI.out.typ.below hb⟩, (hW.cell (p := ⟨G, 0, none⟩) hG).trans c0, (hW.cell (p := ⟨G, 1, none⟩) hG).trans c1, hb⟩
    by_cases hn : n = 0
    · subst hn
      have HA := hideIt (rTimes_any l a' cap' W h60 HQx.out)
      go_wp2_with fail
      refine HA.out.mono ?_
      rintro e w3 ⟨g, t, rfl, hlt, htb, hib, hb3⟩
      have HIb := hideIt hib
      have HLt := hideIt hlt
      have HB3 := hideIt hb3
      obtain ⟨hin3, _, _, _⟩ := HKeep.out w3 hb3
      have HC := hideIt (times_any l a cap w3 hmax hin3.at_)
      clear hb3 HA hin3 c0 c1 hib hlt
      go_wp2_with fail
      refine HC.out.mono ?_
      rintro e w4 ⟨v4, err, n4, pl4, rfl, hck, her, _, hok, hb4⟩
      obtain ⟨rfl, rfl⟩ := hck.one HCk.out
      obtain ⟨g4, t4, rfl, _, hct, _, hi4⟩ := hok rfl
      have he4 := longT_one HLt.out (counts_long HCk.out.clOk hct)
      have HI4 := hideIt (hi4.same (f' := fun k => (t k : Int)) fun k hk => by rw [he4 k hk])
      have HB4 := hideIt (belJ HB3.out hb4)
      obtain ⟨hin4, d0, d1, hbw4⟩ := HKeep.out w4 HB4.out
      have HIb4 := hideIt (HIb.out.readI.below hb4)
      have HEr := hideIt her
      obtain ⟨rfl, rfl⟩ := her.nil
      clear hck her hok hi4 hct he4 hb4 hin4 hbw4 HC
      have HAt : Hid (∀ W' v, Below w4.heap.size w4 W' → ErrAt W' v 0 (-1) → Calls Tryd.prog 13 #[v, .agg #[.int .i64 0, .int .i64 (-1)]] W' fun e w' => e = .returned (.bool true) ∧ Below W'.heap.size W' w') := fun W' v hW he => at_told v 0 (-1) W' he ((HKeep.out W' (belJ HB4.out hW)).1.typ)
      have HCh : Hid (∀ W', Below w4.heap.size w4 W' → Calls Tryd.prog 15 #[.slice a l.length cap] W' fun e w' => ∃ v, e = .returned v ∧ ErrAt w' v 0 (-1) ∧ Below W'.heap.size W' w') := fun W' hW => (check_any l a cap W' hmax ((HKeep.out W' (belJ HB4.out hW)).1.at_)).mono fun e w' ⟨v, m, pm, he, hc, hr, hb⟩ => by
        obtain ⟨rfl, rfl⟩ := hc.one HCk.out
        exact ⟨v, he, hr, hb⟩
      have HCc : Hid (∀ W', Below w4.heap.size w4 W' → W'.cell? ⟨G, 0, none⟩ = some (.int .i64 0) ∧ W'.cell? ⟨G, 1, none⟩ = some (.int .i64 (-1))) := fun W' hW => ⟨(HKeep.out W' (belJ HB4.out hW)).2.1, (HKeep.out W' (belJ HB4.out hW)).2.2.1⟩
      have HSm : Hid (∀ W', Below w4.heap.size w4 W' → Calls Tryd.prog 14 #[.slice (some ⟨g4, 0, none⟩) l.length l.length, .slice (some ⟨g, 0, none⟩) l.length l.length] W' fun e w' => e = .returned (.bool true) ∧ Below W'.heap.size W' w') := fun W' hW => sameInts_any l.length h60 (fun k => (t k : Int)) _ _ W' (HI4.out.readI.below hW) (HIb4.out.below hW)
      go_upto_region 9 with fail
      go_region_with (first | (go_at_call 14; refine (HSm.out _ hb5).mono ?_; rintro e w6 ⟨rfl, hb6'⟩; have hb6 : Below w4.heap.size w4 w6 := belJ hb5 hb6'; clear hb6'; obtain ⟨x0, x1⟩ := HCc.out w6 hb6) | (go_at_call 15; refine (HCh.out _ hb6).mono ?_; rintro e w7 ⟨ev, rfl, her7, hb7'⟩; have hb7 : Below w4.heap.size w4 w7 := belJ hb6 hb7'; clear hb7'; obtain ⟨x0, x1⟩ := HCc.out w7 hb7) | (go_at_call 13; first | (refine (HAt.out _ _ hb7 her7).mono ?_; rintro e w8 ⟨rfl, hb8'⟩; have hb8 : Below w4.heap.size w4 w8 := belJ hb7 hb8'; clear hb8') | (refine (HAt.out _ _ (Below.drew (Below.refl _ _)) (HEr.out.below (Below.drew (Below.refl _ _)))).mono ?_; rintro e w5 ⟨rfl, hb5'⟩; have hb5 : Below w4.heap.size w4 w5 := belJ (Below.drew (Below.refl _ _)) hb5'; clear hb5'; obtain ⟨x0, x1⟩ := HCc.out w5 hb5)))
      all_goals
        go_wp2
        go_ret
        exact ⟨rfl, (HKeep.out _ (belJ HB4.out hb8)).2.2.2⟩
    · have hn' : (n == 0) = false := by simp [hn]
      obtain ⟨hin3, _, _, _⟩ := HKeep.out W (Below.refl _ _)
      have HC := hideIt (times_any l a cap W hmax hin3.at_)
      clear hin3
      go_wp2_with fail
      refine HC.out.mono ?_
      rintro e w4 ⟨v4, err, n4, pl4, rfl, hck, her, hno, _, hb4⟩
      obtain ⟨rfl, rfl⟩ := hck.one HCk.out
      obtain rfl := hno hn
      have HB4 := hideIt hb4
      obtain ⟨hin4, d0, d1, hbw4⟩ := HKeep.out w4 hb4
      have HEr := hideIt her
      obtain ⟨tt, uu, rfl⟩ := her.ne hn
      clear hck her hno hb4 hin4 hbw4 HC c0 c1
      have HAt : Hid (∀ W' v, Below w4.heap.size w4 W' → ErrAt W' v n4 pl4 → Calls Tryd.prog 13 #[v, .agg #[.int .i64 n4, .int .i64 pl4]] W' fun e w' => e = .returned (.bool true) ∧ Below W'.heap.size W' w') := fun W' v hW he => at_told v n4 pl4 W' he ((HKeep.out W' (belJ HB4.out hW)).1.typ)
      have HCh : Hid (∀ W', Below w4.heap.size w4 W' → Calls Tryd.prog 15 #[.slice a l.length cap] W' fun e w' => ∃ v, e = .returned v ∧ ErrAt w' v n4 pl4 ∧ Below W'.heap.size W' w') := fun W' hW => (check_any l a cap W' hmax ((HKeep.out W' (belJ HB4.out hW)).1.at_)).mono fun e w' ⟨v, m, pm, he, hc, hr, hb⟩ => by
        obtain ⟨rfl, rfl⟩ := hc.one HCk.out
        exact ⟨v, he, hr, hb⟩
      have HCc : Hid (∀ W', Below w4.heap.size w4 W' → W'.cell? ⟨G, 0, none⟩ = some (.int .i64 n4) ∧ W'.cell? ⟨G, 1, none⟩ = some (.int .i64 pl4)) := fun W' hW => ⟨(HKeep.out W' (belJ HB4.out hW)).2.1, (HKeep.out W' (belJ HB4.out hW)).2.2.1⟩
      have HSm : Hid (∀ W', Below w4.heap.size w4 W' → Calls Tryd.prog 14 #[.slice none 0 0, .slice none 0 0] W' fun e w' => e = .returned (.bool true) ∧ Below W'.heap.size W' w') := fun W' hW => sameInts_any 0 (by omega) (fun _ => 0) _ _ W' (readI_nil W' _) (readI_nil W' _)
      go_upto_region 9 with fail
      go_region_with (first | (go_at_call 14; refine (HSm.out _ hb5).mono ?_; rintro e w6 ⟨rfl, hb6'⟩; have hb6 : Below w4.heap.size w4 w6 := belJ hb5 hb6'; clear hb6'; obtain ⟨x0, x1⟩ := HCc.out w6 hb6) | (go_at_call 15; refine (HCh.out _ hb6).mono ?_; rintro e w7 ⟨ev, rfl, her7, hb7'⟩; have hb7 : Below w4.heap.size w4 w7 := belJ hb6 hb7'; clear hb7'; obtain ⟨x0, x1⟩ := HCc.out w7 hb7) | (go_at_call 13; first | (refine (HAt.out _ _ hb7 her7).mono ?_; rintro e w8 ⟨rfl, hb8'⟩; have hb8 : Below w4.heap.size w4 w8 := belJ hb7 hb8'; clear hb8') | (refine (HAt.out _ _ (Below.drew (Below.refl _ _)) (HEr.out.below (Below.drew (Below.refl _ _)))).mono ?_; rintro e w5 ⟨rfl, hb5'⟩; have hb5 : Below w4.heap.size w4 w5 := belJ (Below.drew (Below.refl _ _)) hb5'; clear hb5'; obtain ⟨x0, x1⟩ := HCc.out w5 hb5)))
      all_goals
        go_wp2
        go_ret
        exact ⟨rfl, (HKeep.out _ (belJ HB4.out hb8)).2.2.2⟩
  · go_enter Tryd.func3, Tryd.ntmps3
    go_wp2
    go_ret
    exact ⟨rfl, Below.refl _ _⟩
end Go.Proofs.YtmonbkoelehdlaaDoor
