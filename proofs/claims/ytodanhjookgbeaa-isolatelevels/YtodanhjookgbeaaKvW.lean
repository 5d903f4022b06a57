/-
  The statement IsolateLevels' body, walked.
-/
import Derived.Test.YtodanhjookgbeaaKlWZ
import Derived.Test.YtodanhjookgbeaaKiW
import Derived.Test.YtodanhjookgbeaaKvPZ
namespace Go.Proofs.Ytodanhjookgbeaa
open Go.RowKit

theorem toldV_pos {n : Int} (h : ¬ n = 0) : toldV n = .iface 75 (.int .i64 n) := by
  unfold toldV
  rw [if_neg h]

set_option maxRecDepth 100000 in
set_option maxHeartbeats 4000000 in
theorem levels_walk (s : ISt) (a b : Option Addr) (ca cb : Nat) (w : World) (h : StyQ w a ca b cb s) :
    Calls Try.prog 3 #[.agg #[.slice a s.txs.length ca, .slice b s.ord.length cb]] w fun e w' => e = .returned (.bool true) ∧ Below w.heap.size w w' := by
  have HB : Hid (Below w.heap.size w (w.alloc (.cells #[.slice a s.txs.length ca, .slice b s.ord.length cb] 25))) := belA (Below.refl _ _) _
  obtain ⟨c0, c1⟩ := box2 w (.slice a s.txs.length ca) (.slice b s.ord.length cb) 25
  have HS := hideIt (h.below HB.out)
  clear h
  go_enter Try.func3, Try.ntmps3
  go_wp2_with fail
  generalize hW : w.alloc _ = W at HB c0 c1 HS ⊢
  clear hW
  have HBox : Hid (∀ Z, Below W.heap.size W Z → Z.cell? ⟨w.heap.size, 0, none⟩ = some (.slice a s.txs.length ca) ∧ Z.cell? ⟨w.heap.size, 1, none⟩ = some (.slice b s.ord.length cb)) := fun Z hZ => ⟨(hZ.cell (p := ⟨w.heap.size, 0, none⟩) (World.block_lt_of_cell? W _ c0)).trans c0, (hZ.cell (p := ⟨w.heap.size, 1, none⟩) (World.block_lt_of_cell? W _ c1)).trans c1⟩
  clear c0 c1
  refine (long_any s 60 a b ca cb W HS.out).mono ?_
  rintro e W1 ⟨r, rfl, hb1⟩
  have HBx := hideIt hb1
  clear hb1
  cases r
  rotate_left 1
  · have HFi := hideIt (belJ HB.out HBx.out)
    clear HBox HBx HB
    go_wp2
    go_ret
    exact ⟨rfl, HFi.out⟩
  obtain ⟨d0, d1⟩ := HBox.out _ HBx.out
  have HF := hideIt (finds_any s a b ca cb W1 (HS.out.below HBx.out))
  unfold FinTold at HF
  go_wp2_with fail
  refine HF.out.mono ?_
  rintro e W2 ⟨v, rfl, hY, hN, hb2⟩
  replace HBx := hideIt (belJ HBx.out hb2)
  clear HF hb2 d0 d1
  obtain ⟨d0, d1⟩ := HBox.out _ HBx.out
  have HSe := hideIt (serial_any s a b ca cb W2 (HS.out.below HBx.out))
  unfold SerTold at HSe
  go_wp2_with fail
  refine HSe.out.mono ?_
  rintro e W3 ⟨x, rfl, hx, hb3⟩
  replace HBx := hideIt (belJ HBx.out hb3)
  clear HSe d0 d1
  have HIs := hideIt (isolates_any W3)
  go_wp2_with fail
  refine HIs.out.mono ?_
  rintro e W4 ⟨rfl, hb4⟩
  replace HBx := hideIt (belJ HBx.out hb4)
  clear HIs
  by_cases hf : fltI s = 0
  · obtain ⟨B, rfl, hB⟩ := hY hf
    replace hB := (hB.below hb3 hB.lt)
    replace hB := (hB.below hb4 hB.lt)
    obtain ⟨l1, l2, l3⟩ := lv_facts hf
    rw [hf, show toldV 0 = .nilIface from rfl]
    have HLv := hideIt (fun Z hZ => level_any s a b ca cb Z hZ)
    unfold LevTold at HLv
    rw [hf, if_pos rfl, show toldV 0 = .nilIface from rfl] at HLv
    have hL3 : lvlI s = 3 → serG s = 0 := fun h => by
      unfold lvlI at h
      rw [l3]
      generalize fndB s 0 = x0 at *
      generalize fndB s 1 = x1 at *
      generalize fndB s 2 = x2 at *
      generalize fndB s 3 = x3 at *
      generalize fndB s 5 = x5 at *
      revert h
      cases x0 <;> cases x1 <;> cases x2 <;> cases x3 <;> cases x5 <;> simp
    have HL3 := hideIt hL3
    have HC : Hid (∀ Z, Below W4.heap.size W4 Z → Z.cell? ⟨B, 0, none⟩ = some (.bool (fndB s 0)) ∧ Z.cell? ⟨B, 3, none⟩ = some (.bool (fndB s 3)) ∧ Z.cell? ⟨B, 4, none⟩ = some (.bool (fndB s 4)) ∧ Z.cell? ⟨B, 5, none⟩ = some (.bool (fndB s 5))) := fun Z hZ => ⟨(hB.below hZ hB.lt).bit 0 (by omega), (hB.below hZ hB.lt).bit 3 (by omega), (hB.below hZ hB.lt).bit 4 (by omega), (hB.below hZ hB.lt).bit 5 (by omega)⟩
    have Hl1 := hideIt l1
    have Hl2 := hideIt l2
    have Hl3 := hideIt l3
    clear hY hN hb3 hb4 hB l1 l2 l3 hL3 hx
    generalize fndB s 0 = x0 at HC Hl1
    generalize fndB s 3 = x3 at HC Hl1 Hl3
    generalize fndB s 4 = x4 at HC Hl2
    generalize fndB s 5 = x5 at HC Hl2 Hl3
    obtain ⟨lv, hlv⟩ : ∃ lv, lvlI s = lv := ⟨_, rfl⟩
    rw [hlv] at HLv HL3
    clear hlv
    obtain ⟨e0, e3, e4, e5⟩ := HC.out _ (Below.refl _ _)
    obtain ⟨d0, d1⟩ := HBox.out _ HBx.out
    cases x3
    · cases x5
      · cases x0
        · cases x4
          · have HT : Hid (serG s = 0) := Hl3.out.2 ⟨rfl, rfl⟩
            rw [HT.out, show toldV 0 = .nilIface from rfl]
            clear Hl1 Hl2 Hl3 HL3 HT
            go_wp2_with fail
            refine (HLv.out W4 (HS.out.below HBx.out)).mono ?_
            rintro e W5 ⟨rfl, hb5⟩
            obtain ⟨f0, f3, f4, f5⟩ := HC.out _ hb5
            have HFz := hideIt (belJ (belJ HB.out HBx.out) hb5)
            clear HC HBox HBx HB HS HLv hb5 d0 d1 e0 e3 e4 e5 hf
            obtain ⟨q, hq⟩ : ∃ q, (lv == 3) = q := ⟨_, rfl⟩
            cases q
            · go_wp2_with fail
              go_quiet (fail)
              go_wp2
              go_ret
              exact ⟨rfl, below_drewN HFz.out _⟩
            · go_wp2_with fail
              go_quiet (fail)
              go_wp2
              go_ret
              exact ⟨rfl, below_drewN HFz.out _⟩
          · exact absurd (Hl2.out rfl) (by simp)
        · exact absurd (Hl1.out rfl) (by simp)
      · cases x0
        · cases x4
          · have HT : Hid (¬ serG s = 0) := fun h => by have := Hl3.out.1 h; simp at this
            rw [toldV_pos HT.out]
            have hq : (lv == 3) = false := by rw [beq_eq_false_iff_ne]; exact fun h => HT.out (HL3.out h)
            clear Hl1 Hl2 Hl3 HL3 HT
            go_wp2_with fail
            refine (HLv.out W4 (HS.out.below HBx.out)).mono ?_
            rintro e W5 ⟨rfl, hb5⟩
            obtain ⟨f0, f3, f4, f5⟩ := HC.out _ hb5
            have HFz := hideIt (belJ (belJ HB.out HBx.out) hb5)
            clear HC HBox HBx HB HS HLv hb5 d0 d1 e0 e3 e4 e5 hf
            go_wp2_with fail
            go_quiet (fail)
            go_wp2
            go_ret
            exact ⟨rfl, below_drewN HFz.out _⟩
          · have HT : Hid (¬ serG s = 0) := fun h => by have := Hl3.out.1 h; simp at this
            rw [toldV_pos HT.out]
            have hq : (lv == 3) = false := by rw [beq_eq_false_iff_ne]; exact fun h => HT.out (HL3.out h)
            clear Hl1 Hl2 Hl3 HL3 HT
            go_wp2_with fail
            refine (HLv.out W4 (HS.out.below HBx.out)).mono ?_
            rintro e W5 ⟨rfl, hb5⟩
            obtain ⟨f0, f3, f4, f5⟩ := HC.out _ hb5
            have HFz := hideIt (belJ (belJ HB.out HBx.out) hb5)
            clear HC HBox HBx HB HS HLv hb5 d0 d1 e0 e3 e4 e5 hf
            go_wp2_with fail
            go_quiet (fail)
            go_wp2
            go_ret
            exact ⟨rfl, below_drewN HFz.out _⟩
        · exact absurd (Hl1.out rfl) (by simp)
    · cases x5
      · cases x0
        · cases x4
          · have HT : Hid (¬ serG s = 0) := fun h => by have := Hl3.out.1 h; simp at this
            rw [toldV_pos HT.out]
            have hq : (lv == 3) = false := by rw [beq_eq_false_iff_ne]; exact fun h => HT.out (HL3.out h)
            clear Hl1 Hl2 Hl3 HL3 HT
            go_wp2_with fail
            refine (HLv.out W4 (HS.out.below HBx.out)).mono ?_
            rintro e W5 ⟨rfl, hb5⟩
            obtain ⟨f0, f3, f4, f5⟩ := HC.out _ hb5
            have HFz := hideIt (belJ (belJ HB.out HBx.out) hb5)
            clear HC HBox HBx HB HS HLv hb5 d0 d1 e0 e3 e4 e5 hf
            go_wp2_with fail
            go_quiet (fail)
            go_wp2
            go_ret
            exact ⟨rfl, below_drewN HFz.out _⟩
          · exact absurd (Hl2.out rfl) (by simp)
        · cases x4
          · have HT : Hid (¬ serG s = 0) := fun h => by have := Hl3.out.1 h; simp at this
            rw [toldV_pos HT.out]
            have hq : (lv == 3) = false := by rw [beq_eq_false_iff_ne]; exact fun h => HT.out (HL3.out h)
            clear Hl1 Hl2 Hl3 HL3 HT
            go_wp2_with fail
            refine (HLv.out W4 (HS.out.below HBx.out)).mono ?_
            rintro e W5 ⟨rfl, hb5⟩
            obtain ⟨f0, f3, f4, f5⟩ := HC.out _ hb5
            have HFz := hideIt (belJ (belJ HB.out HBx.out) hb5)
            clear HC HBox HBx HB HS HLv hb5 d0 d1 e0 e3 e4 e5 hf
            go_wp2_with fail
            go_quiet (fail)
            go_wp2
            go_ret
            exact ⟨rfl, below_drewN HFz.out _⟩
          · exact absurd (Hl2.out rfl) (by simp)
      · cases x0
        · cases x4
          · have HT : Hid (¬ serG s = 0) := fun h => by have := Hl3.out.1 h; simp at this
            rw [toldV_pos HT.out]
            have hq : (lv == 3) = false := by rw [beq_eq_false_iff_ne]; exact fun h => HT.out (HL3.out h)
            clear Hl1 Hl2 Hl3 HL3 HT
            go_wp2_with fail
            refine (HLv.out W4 (HS.out.below HBx.out)).mono ?_
            rintro e W5 ⟨rfl, hb5⟩
            obtain ⟨f0, f3, f4, f5⟩ := HC.out _ hb5
            have HFz := hideIt (belJ (belJ HB.out HBx.out) hb5)
            clear HC HBox HBx HB HS HLv hb5 d0 d1 e0 e3 e4 e5 hf
            go_wp2_with fail
            go_quiet (fail)
            go_wp2
            go_ret
            exact ⟨rfl, below_drewN HFz.out _⟩
          · have HT : Hid (¬ serG s = 0) := fun h => by have := Hl3.out.1 h; simp at this
            rw [toldV_pos HT.out]
            have hq : (lv == 3) = false := by rw [beq_eq_false_iff_ne]; exact fun h => HT.out (HL3.out h)
            clear Hl1 Hl2 Hl3 HL3 HT
            go_wp2_with fail
            refine (HLv.out W4 (HS.out.below HBx.out)).mono ?_
            rintro e W5 ⟨rfl, hb5⟩
            obtain ⟨f0, f3, f4, f5⟩ := HC.out _ hb5
            have HFz := hideIt (belJ (belJ HB.out HBx.out) hb5)
            clear HC HBox HBx HB HS HLv hb5 d0 d1 e0 e3 e4 e5 hf
            go_wp2_with fail
            go_quiet (fail)
            go_wp2
            go_ret
            exact ⟨rfl, below_drewN HFz.out _⟩
        · cases x4
          · have HT : Hid (¬ serG s = 0) := fun h => by have := Hl3.out.1 h; simp at this
            rw [toldV_pos HT.out]
            have hq : (lv == 3) = false := by rw [beq_eq_false_iff_ne]; exact fun h => HT.out (HL3.out h)
            clear Hl1 Hl2 Hl3 HL3 HT
            go_wp2_with fail
            refine (HLv.out W4 (HS.out.below HBx.out)).mono ?_
            rintro e W5 ⟨rfl, hb5⟩
            obtain ⟨f0, f3, f4, f5⟩ := HC.out _ hb5
            have HFz := hideIt (belJ (belJ HB.out HBx.out) hb5)
            clear HC HBox HBx HB HS HLv hb5 d0 d1 e0 e3 e4 e5 hf
            go_wp2_with fail
            go_quiet (fail)
            go_wp2
            go_ret
            exact ⟨rfl, below_drewN HFz.out _⟩
          · have HT : Hid (¬ serG s = 0) := fun h => by have := Hl3.out.1 h; simp at this
            rw [toldV_pos HT.out]
            have hq : (lv == 3) = false := by rw [beq_eq_false_iff_ne]; exact fun h => HT.out (HL3.out h)
            clear Hl1 Hl2 Hl3 HL3 HT
            go_wp2_with fail
            refine (HLv.out W4 (HS.out.below HBx.out)).mono ?_
            rintro e W5 ⟨rfl, hb5⟩
            obtain ⟨f0, f3, f4, f5⟩ := HC.out _ hb5
            have HFz := hideIt (belJ (belJ HB.out HBx.out) hb5)
            clear HC HBox HBx HB HS HLv hb5 d0 d1 e0 e3 e4 e5 hf
            go_wp2_with fail
            go_quiet (fail)
            go_wp2
            go_ret
            exact ⟨rfl, below_drewN HFz.out _⟩
  · have HSg : Hid (serG s = fltI s) := by unfold serG; rw [if_neg hf]; rfl
    have HSv : Hid (serV s = []) := by unfold serV; rw [HSg.out, if_neg hf]; rfl
    obtain rfl := hN hf
    rw [HSv.out] at hx
    rw [HSg.out]
    obtain ⟨xa, xc, rfl, _, _⟩ := hx
    rw [toldV_pos hf]
    have HFi := hideIt (fun Z hZ => belJ (belJ HB.out HBx.out) (w1 := Z) hZ)
    clear hY hN hb3 hb4
    go_wp2_with fail
    refine (isolates_any W4).mono ?_
    rintro e W5 ⟨rfl, hb5⟩
    have HFz := hideIt (HFi.out _ hb5)
    clear HFi hb5 HSg HSv HBox HBx hf
    go_wp2
    go_ret
    exact ⟨rfl, HFz.out⟩
end Go.Proofs.Ytodanhjookgbeaa
