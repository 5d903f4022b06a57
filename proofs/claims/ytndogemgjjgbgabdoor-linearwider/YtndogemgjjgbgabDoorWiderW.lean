/-
  The statement LinearWider walked: whatever is handed in, true.
-/
import Derived.Test.YtndogemgjjgbgabDoorWiderM
import Derived.Test.YtndogemgjjgbgabDoorWitnessW
import Derived.Test.YtndogemgjjgbgabDoorPickW
namespace Go.Proofs.YtndogemgjjgbgabDoor
open Go.RowKit

theorem sh_parts {o : Int} {ops : List Opn} {ord : List Int} {w : World} {e : Ending} {w' : World} (h : ShTold o ops ord w e w') :
    Below w.heap.size w w' ∧ ((∃ n, n ≠ 0 ∧ e = .returned (.tuple #[.bool false, .iface 43 (.int .i64 n)])) ∨ (e = .returned (.tuple #[.bool false, .nilIface]) ∧ ¬ ShowsM o ops ord) ∨ (e = .returned (.tuple #[.bool true, .nilIface]) ∧ objB o = true ∧ CkTold o ops 0 ∧ ShowsM o ops ord)) := by
  obtain ⟨hb, ⟨_, rfl⟩ | ⟨_, n, hn, _, rfl⟩ | ⟨ho, hc, b, hbb, rfl⟩⟩ := h
  · exact ⟨hb, .inl ⟨1, by decide, by rw [toldV_some (by decide)]⟩⟩
  · exact ⟨hb, .inl ⟨n, hn, by rw [toldV_some hn]⟩⟩
  · cases b
    · exact ⟨hb, .inr (.inl ⟨rfl, fun h => by cases hbb.2 h⟩)⟩
    · exact ⟨hb, .inr (.inr ⟨rfl, ho, hc, hbb.1 rfl⟩)⟩

theorem told_times {l : List Opn} (h : Told l 0) {n : Nat} (hn : n < l.length) : -1000000 ≤ (opN l n).c ∧ (opN l n).c ≤ 1000000 ∧ -1000000 ≤ (opN l n).e ∧ (opN l n).e ≤ 1000000 := by
  have h1 := (fault_zero ((told_zero h).2 n hn)).1
  rw [opN_at hn]
  unfold rangeB numB at h1
  simp only [Bool.and_eq_true, decide_eq_true_eq] at h1
  omega
theorem wrap_small {x : Int} (h1 : -9223372036854775808 ≤ x) (h2 : x < 9223372036854775808) : IntKind.i64.wrap x = x := by rw [IntKind.wrap_i64]; omega
theorem wide_next {ops : List Opn} {k i : Nat} (he : 0 ≤ (opN ops k).e) : (if i = k then { (if i = k then { wideF ops k i with c := 3 * (opN ops k).c } else wideF ops k i) with e := 3 * (opN ops k).e } else (if i = k then { wideF ops k i with c := 3 * (opN ops k).c } else wideF ops k i)) = wideF ops (k + 1) i := by
  by_cases h : i = k
  · subst h; simp [wideF, wideOp, he]
  · have : (i < k) ↔ (i < k + 1) := by omega
    simp [wideF, h, this]
theorem wide_next' {ops : List Opn} {k i : Nat} (he : ¬ 0 ≤ (opN ops k).e) : (if i = k then { wideF ops k i with c := 3 * (opN ops k).c } else wideF ops k i) = wideF ops (k + 1) i := by
  by_cases h : i = k
  · subst h; simp [wideF, wideOp, he]
  · have : (i < k) ↔ (i < k + 1) := by omega
    simp [wideF, h, this]
theorem wide_late {ops : List Opn} {q i : Nat} {d : Int} (he : 0 ≤ (opN ops q).e) (hi : i < ops.length) : (if i = q then { wideF ops ops.length i with e := 3 * (opN ops q).e + d } else wideF ops ops.length i) = lateF ops q d i := by
  by_cases h : i = q
  · subst h; simp [wideF, lateF, he, hi]
  · simp [wideF, lateF, h, hi]
theorem wide_late' {ops : List Opn} {q i : Nat} (he : ¬ 0 ≤ (opN ops q).e) (hi : i < ops.length) : wideF ops ops.length i = lateF ops q 0 i := by
  by_cases h : i = q
  · subst h; simp [wideF, lateF, he, hi]
  · simp [wideF, lateF, h, hi]

set_option maxRecDepth 100000 in
set_option maxHeartbeats 4000000 in
theorem wider_rest (o : Int) (ops : List Opn) (ord : List Int) (which by' : Int) (a a2 : Option Addr) (cap cap2 : Nat) (w : World) (h0 : 0 < ops.length) (h20 : ops.length ≤ 20) (h30 : ord.length ≤ 30)
    (hl : OpsIn w (.slice a ops.length cap) ops) (hv : HasInts w (.slice a2 ord.length cap2) ord) (hK : KnownAt w) :
    Calls Tryd.prog 4 #[.int .i64 o, .slice a ops.length cap, .slice a2 ord.length cap2, .int .i64 which, .int .i64 by'] w fun e w' => e = .returned (.bool true) ∧ Below w.heap.size w w' := by
  have hpos : 0 < w.heap.size := World.block_lt_of_cell? w ⟨0, 0 * 13 + 0, none⟩ (hK 0 0 (by decide) (by decide))
  have g1 : decide (20 < (ops.length : Int)) = false := by simp; omega
  have g2 : ((ops.length : Int) == 0) = false := by rw [beq_eq_false_iff_ne]; omega
  have g3 : decide (30 < (ord.length : Int)) = false := by simp; omega
  have HS : Hid (∀ w1 l u, Below w.heap.size w w1 → l.length ≤ 60 → OpsIn w1 u l → Calls Tryd.prog 10 #[.int .i64 o, u, .slice a2 ord.length cap2] w1 fun e w' => ShTold o l ord w1 e w') := hideIt (fun w1 l u hb hn hu => shows_any o l ord u _ w1 hn (by omega) hu (hv.below hb) (hK.below hpos hb))
  have HT : Hid (∀ w1, Below w.heap.size w w1 → Calls Tryd.prog 8 #[] w1 fun e w' => e = .returned (.bool true) ∧ Below w1.heap.size w1 w') := hideIt (fun w1 hb => toldK_any w1 (hK.below hpos hb))
  have HL := hideIt hl
  have HP : Hid (∀ w1, Calls Tryd.prog 6 #[.int .i64 which, .int .i64 ops.length] w1 fun e w' => ∃ k : Nat, k < ops.length ∧ e = .returned (.int .i64 k) ∧ w' = w1) := hideIt (fun w1 => pick_any which ops.length w1 h0 (by omega))
  obtain ⟨m, hm, HP2⟩ : ∃ m : Nat, m < 40 ∧ Hid (∀ w1, Calls Tryd.prog 6 #[.int .i64 by', .int .i64 40] w1 fun e w' => e = .returned (.int .i64 m) ∧ w' = w1) := ⟨pickN by' 40, Nat.mod_lt _ (by decide), hideIt (fun w1 => pick_is by' 40 w1 (by decide) (by decide))⟩
  clear hK hl hv
  go_enter Tryd.func4, Tryd.ntmps4
  go_wp2_with fail
  refine (HS.out _ ops _ (Below.refl _ _) (by omega) HL.out).mono ?_
  intro e w1 hsh
  obtain ⟨hb1, ⟨n, hn, rfl⟩ | ⟨rfl, _⟩ | ⟨rfl, hob, hck, hsm⟩⟩ := sh_parts hsh
  · clear hsh
    have HB1 := hideIt hb1
    clear hb1
    go_wp2_with fail
    refine (HT.out _ HB1.out).mono ?_
    rintro e w2 ⟨rfl, hb2⟩
    have HB2 := hideIt (belJ HB1.out hb2)
    clear hb2
    go_wp2_with fail
    refine (HT.out _ HB2.out).mono ?_
    rintro e w3 ⟨rfl, hb3⟩
    have HB3 := hideIt (belJ HB2.out hb3)
    clear hb3
    go_wp2
    go_ret
    exact ⟨rfl, HB3.out⟩
  · clear hsh
    have HB1 := hideIt hb1
    clear hb1
    go_wp2_with fail
    refine (HT.out _ HB1.out).mono ?_
    rintro e w2 ⟨rfl, hb2⟩
    have HB2 := hideIt (belJ HB1.out hb2)
    clear hb2
    go_wp2_with fail
    refine (HT.out _ HB2.out).mono ?_
    rintro e w3 ⟨rfl, hb3⟩
    have HB3 := hideIt (belJ HB2.out hb3)
    clear hb3
    go_wp2
    go_ret
    exact ⟨rfl, HB3.out⟩
  · clear hsh
    have HB1 := hideIt hb1
    have HCK := hideIt hck
    have HSM := hideIt hsm
    clear hb1 hck hsm
    go_wp2_with fail
    refine (HT.out _ HB1.out).mono ?_
    rintro e w2 ⟨rfl, hb2⟩
    have HB2 := hideIt (belJ HB1.out hb2)
    clear hb2
    obtain ⟨g, c, w3, hrun, hwd, hb3, hgg, hc⟩ := wide_app (HL.out.below HB2.out) h0 h20 24
    have HR := hideIt hrun
    have HB3 := hideIt (belJ HB2.out hb3)
    have HW := hideIt hwd
    clear hrun hb3 hwd
    go_wp2_with (at_builtin; refine Lib.wpList_append_run _ rfl _ _ 24 24 rfl _ _ rfl rfl _ _ HR.out ?_)
    go_loopw [14] (fun i wr => ∃ k : Nat, k ≤ ops.length ∧ i = .int .i64 k ∧ WdAt wr g ops.length (wideF ops k) ∧ Below w.heap.size w wr) (fun i _ => ops.length - (intOf i).toNat)
    case atStart => exact ⟨0, by omega, rfl, HW.out.same (fun i _ => by simp [wideF]), HB3.out⟩
    case round =>
      obtain ⟨k, hk, rfl, hwr, hbr⟩ := hrel
      have HWR := hideIt hwr
      have HBR := hideIt hbr
      clear hwr hbr
      by_cases hkl : k < ops.length
      · have k1 : (0 : Int) ≤ (k : Int) := by omega
        have k2 : (k : Int) < (ops.length : Int) := by omega
        obtain ⟨t1, t2, t3, t4⟩ := told_times (ckTold_told HCK.out) hkl
        obtain ⟨c0, c1, c2, c3, c4, c5, c6, c7⟩ := HWR.out.ops k hkl
        have ek : wideF ops k k = opN ops k := by simp [wideF]
        rw [ek] at c6 c7
        have x1 : ∀ i, wr.frozen? ⟨g, i, none⟩ = false := HWR.out.fz
        have r1 : IntKind.i64.wrap (3 * (opN ops k).c) = 3 * (opN ops k).c := wrap_small (by omega) (by omega)
        have r2 : IntKind.i64.wrap (3 * (opN ops k).e) = 3 * (opN ops k).e := wrap_small (by omega) (by omega)
        have y7 : (wr.setCell ⟨g, k * 8 + 6, none⟩ (.int .i64 (3 * (opN ops k).c))).cell? ⟨g, k * 8 + 7, none⟩ = some (.int .i64 (opN ops k).e) := by
          rw [World.cell?_setCell_other _ _ _ _ (ne_off (by omega))]; exact c7
        have gW : w.heap.size ≤ g := Nat.le_trans HB2.out.size hgg
        by_cases he : 0 ≤ (opN ops k).e
        · have he' : decide (0 ≤ (opN ops k).e) = true := by simpa using he
          have HN : Hid (WdAt ((wr.setCell ⟨g, k * 8 + 6, none⟩ (.int .i64 (3 * (opN ops k).c))).setCell ⟨g, k * 8 + 7, none⟩ (.int .i64 (3 * (opN ops k).e))) g ops.length (wideF ops (k + 1)) ∧ Below w.heap.size w ((wr.setCell ⟨g, k * 8 + 6, none⟩ (.int .i64 (3 * (opN ops k).c))).setCell ⟨g, k * 8 + 7, none⟩ (.int .i64 (3 * (opN ops k).e)))) :=
            hideIt ⟨((HWR.out.putC hkl _).putE hkl _).same (fun i _ => wide_next he), (HBR.out.setCell (p := ⟨g, k * 8 + 6, none⟩) gW _).setCell (p := ⟨g, k * 8 + 7, none⟩) gW _⟩
          clear c0 c1 c2 c3 c4 c5 he ek
          go_wp2
          go_roundw
          case rel => exact ⟨k + 1, by omega, by go_num, HN.out.1, HN.out.2⟩
          case measure => simp [intOf]; omega
        · have he' : decide (0 ≤ (opN ops k).e) = false := by simpa using he
          have HN : Hid (WdAt (wr.setCell ⟨g, k * 8 + 6, none⟩ (.int .i64 (3 * (opN ops k).c))) g ops.length (wideF ops (k + 1)) ∧ Below w.heap.size w (wr.setCell ⟨g, k * 8 + 6, none⟩ (.int .i64 (3 * (opN ops k).c)))) :=
            hideIt ⟨(HWR.out.putC hkl _).same (fun i _ => wide_next' he), HBR.out.setCell (p := ⟨g, k * 8 + 6, none⟩) gW _⟩
          clear c0 c1 c2 c3 c4 c5 he ek
          go_wp2
          go_roundw
          case rel => exact ⟨k + 1, by omega, by go_num, HN.out.1, HN.out.2⟩
          case measure => simp [intOf]; omega
      · obtain rfl : k = ops.length := by omega
        go_wp2_with fail
        refine (HP.out _).mono ?_
        rintro e w' ⟨q, hq, rfl, hw⟩
        have hw := hw.symm
        subst hw
        have k1 : (0 : Int) ≤ (q : Int) := by omega
        have k2 : (q : Int) < (ops.length : Int) := by omega
        obtain ⟨t1, t2, t3, t4⟩ := told_times (ckTold_told HCK.out) hq
        obtain ⟨c0, c1, c2, c3, c4, c5, c6, c7⟩ := HWR.out.ops q hq
        have x1 : ∀ i, wr.frozen? ⟨g, i, none⟩ = false := HWR.out.fz
        have gW : w.heap.size ≤ g := Nat.le_trans HB2.out.size hgg
        clear c0 c1 c2 c3 c4 c5 c6
        by_cases he : 0 ≤ (opN ops q).e
        · have ek : (wideF ops ops.length q).e = 3 * (opN ops q).e := by simp [wideF, wideOp, hq, he]
          rw [ek] at c7
          have he' : decide (0 ≤ 3 * (opN ops q).e) = true := by simp; omega
          have r3 : IntKind.i64.wrap ((m : Int) * 3) = (m : Int) * 3 := wrap_small (by omega) (by omega)
          have r4 : IntKind.i64.wrap ((m : Int) * 3 + 1) = (m : Int) * 3 + 1 := wrap_small (by omega) (by omega)
          have r5 : IntKind.i64.wrap (3 * (opN ops q).e + ((m : Int) * 3 + 1)) = 3 * (opN ops q).e + ((m : Int) * 3 + 1) := wrap_small (by omega) (by omega)
          have HN : Hid (∀ W4, W4 = (wr.setCell ⟨g, q * 8 + 7, none⟩ (.int .i64 (3 * (opN ops q).e + ((m : Int) * 3 + 1)))).drew → WdAt W4 g ops.length (lateF ops q ((m : Int) * 3 + 1)) ∧ Below w.heap.size w W4) := hideIt (fun W4 e => by
            subst e
            have h1 := (HWR.out.putE hq (3 * (opN ops q).e + ((m : Int) * 3 + 1))).same (fun i hi => wide_late he hi)
            exact ⟨⟨h1.blk, h1.ops⟩, (HBR.out.setCell (p := ⟨g, q * 8 + 7, none⟩) gW _).drew⟩)
          clear he ek
          go_wp2_with fail
          go_region_with (go_at_call 6; refine (HP2.out _).mono ?_; rintro e w' ⟨rfl, rfl⟩)
          all_goals
            generalize hW4 : (wr.setCell ⟨g, q * 8 + 7, none⟩ (.int .i64 (3 * (opN ops q).e + ((m : Int) * 3 + 1)))).drew = W4
            obtain ⟨hn1, hn2⟩ := HN.out W4 hW4.symm
            have HN1 := hideIt hn1
            have HN2 := hideIt hn2
            clear hn1 hn2 hW4 c7 x1
            go_wp2_with fail
            refine (HS.out _ (listF ops.length (lateF ops q ((m : Int) * 3 + 1))) _ HN2.out (by rw [listF_len]; omega) (HN1.out.opsIn hc (by unfold maxLen; omega))).mono ?_
            intro e w5 hsh5
            obtain ⟨hb5, ⟨n, hn, rfl⟩ | ⟨rfl, hno⟩ | ⟨rfl, _⟩⟩ := sh_parts hsh5
            · have HB5 := hideIt (belJ HN2.out hb5)
              clear hsh5 hb5
              go_wp2
              go_ret
              exact ⟨rfl, HB5.out⟩
            · exact absurd (wid_shows (late_wid ops q ((m : Int) * 3 + 1) (by omega)) HSM.out) hno
            · have HB5 := hideIt (belJ HN2.out hb5)
              clear hsh5 hb5
              go_wp2
              go_ret
              exact ⟨rfl, HB5.out⟩
        · have ek : (wideF ops ops.length q).e = (opN ops q).e := by simp [wideF, wideOp, hq, he]
          rw [ek] at c7
          have he' : decide (0 ≤ (opN ops q).e) = false := by simpa using he
          have HN : Hid (WdAt wr g ops.length (lateF ops q 0) ∧ Below w.heap.size w wr) := hideIt ⟨HWR.out.same (fun i hi => wide_late' he hi), HBR.out⟩
          clear he ek
          go_wp2_with fail
          refine (HS.out _ (listF ops.length (lateF ops q 0)) _ HN.out.2 (by rw [listF_len]; omega) (HN.out.1.opsIn hc (by unfold maxLen; omega))).mono ?_
          intro e w5 hsh5
          obtain ⟨hb5, ⟨n, hn, rfl⟩ | ⟨rfl, hno⟩ | ⟨rfl, _⟩⟩ := sh_parts hsh5
          · have HB5 := hideIt (belJ HN.out.2 hb5)
            clear hsh5 hb5
            go_wp2
            go_ret
            exact ⟨rfl, HB5.out⟩
          · exact absurd (wid_shows (late_wid ops q 0 (by omega)) HSM.out) hno
          · have HB5 := hideIt (belJ HN.out.2 hb5)
            clear hsh5 hb5
            go_wp2
            go_ret
            exact ⟨rfl, HB5.out⟩

set_option maxHeartbeats 1000000 in
theorem linearWider_walk (o : Int) (ops : List Opn) (ord : List Int) (which by' : Int) (u v : Value) (w : World) (hl : OpsIn w u ops) (hv : HasInts w v ord) (hK : KnownAt w) :
    Calls Tryd.prog 4 #[.int .i64 o, u, v, .int .i64 which, .int .i64 by'] w fun e w' => e = .returned (.bool true) ∧ Below w.heap.size w w' := by
  have hl' := hl
  have hv' := hv
  obtain ⟨a, cap, rfl, _, _, _⟩ := hl
  obtain ⟨a2, cap2, rfl, _, _, _, _⟩ := hv
  by_cases h20 : 20 < ops.length
  · have g1 : decide (20 < (ops.length : Int)) = true := by simp; omega
    clear hl' hv' hK
    go_enter Tryd.func4, Tryd.ntmps4
    go_wp2
    go_ret
    exact ⟨rfl, Below.refl _ _⟩
  · have g1 : decide (20 < (ops.length : Int)) = false := by simp; omega
    by_cases h0 : ops.length = 0
    · have g2 : ((ops.length : Int) == 0) = true := by rw [beq_iff_eq]; omega
      clear hl' hv' hK
      go_enter Tryd.func4, Tryd.ntmps4
      go_wp2
      go_ret
      exact ⟨rfl, Below.refl _ _⟩
    · have g2 : ((ops.length : Int) == 0) = false := by rw [beq_eq_false_iff_ne]; omega
      by_cases h30 : 30 < ord.length
      · have g3 : decide (30 < (ord.length : Int)) = true := by simp; omega
        clear hl' hv' hK
        go_enter Tryd.func4, Tryd.ntmps4
        go_wp2
        go_ret
        exact ⟨rfl, Below.refl _ _⟩
      · exact wider_rest o ops ord which by' a a2 cap cap2 w (by omega) (by omega) (by omega) hl' hv' hK

end Go.Proofs.YtndogemgjjgbgabDoor
