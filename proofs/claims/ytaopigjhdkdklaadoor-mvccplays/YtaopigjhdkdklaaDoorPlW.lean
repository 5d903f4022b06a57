/-
  The statement MvccPlays, walked: the program's base and the document's, asked the same, tell the same and end as the same story.
-/
import Derived.Test.YtaopigjhdkdklaaDoorDdC
import Derived.Test.YtaopigjhdkdklaaDoorEqS
import Derived.Test.YtaopigjhdkdklaaDoorDnB
import Derived.Test.YtaopigjhdkdklaaDoorMvB
namespace Go.Proofs.YtaopigjhdkdklaaDoor
open Go.RowKit

section
variable {w0 w1 W W' : World} {kp kp' : PrK} {kd kd' : DbK} {c : Bool} {n : Nat} {st st' : MvS}
theorem DocB.base (h : DocB w1 W kd c n st) (hb : Below w0.heap.size w0 w1) : DocB w0 W kd c n st :=
  ⟨hb.trans (h.bel.mono hb.size), h.blk, h.tb, fun t ht => ⟨(h.tx t ht).1, (h.tx t ht).2.1, own_mono (h.tx t ht).2.2 hb.size⟩, h.rb, fun q hq => ⟨(h.rw_ q hq).1, own_mono (h.rw_ q hq).2 hb.size⟩, own_mono h.bg hb.size, own_mono h.en hb.size, h.ov,
    ⟨Nat.le_trans hb.size h.lo.1, Nat.le_trans hb.size h.lo.2.1, Nat.le_trans hb.size h.lo.2.2.1, Nat.le_trans hb.size h.lo.2.2.2⟩, h.doo, h.drr, h.drb, h.dbe⟩
/-- Both bases, apart. -/
def TwoB (w0 W : World) (kp : PrK) (kd : DbK) (c : Bool) (n : Nat) (sp sd : MvS) : Prop := PrB w0 W kp c n sp ∧ DocB w0 W kd c n sd ∧ ∀ b, kp.own n b → ¬ kd.own n b
theorem TwoB.below {sp sd : MvS} (h : TwoB w0 W kp kd c n sp sd) (hb : Below W.heap.size W W') : TwoB w0 W' kp kd c n sp sd := ⟨h.1.below hb, h.2.1.below hb, h.2.2⟩
theorem TwoB.first {sp sd sp' : MvS} (h : TwoB w0 W kp kd c n sp sd) (h1 : PrB w0 W' kp' c n sp') (hf : PFr kp n W W' kp') : TwoB w0 W' kp' kd c n sp' sd := by
  refine ⟨h1, h.2.1.keep h1.bel fun b hb => hf.2.2.1 b (h.2.1.own_lt hb).2 fun hp => h.2.2 b hp hb, fun b hp hd => ?_⟩
  rcases hf.2.2.2 b hp with e | e
  · exact h.2.2 b e hd
  · have := (h.2.1.own_lt hd).2
    omega
theorem TwoB.second {sp sd sd' : MvS} (h : TwoB w0 W kp kd c n sp sd) (h1 : DocB w0 W' kd' c n sd') (hf : DFr kd n W W' kd') : TwoB w0 W' kp kd' c n sp sd' := by
  refine ⟨h.1.keep h1.bel fun b hb => hf.2.2.1 b (h.1.own_lt hb).2 fun hp => h.2.2 b hb hp, h1, fun b hp hd => ?_⟩
  rcases hf.2.2.2 b hd with e | e
  · exact h.2.2 b hp e
  · have := (h.1.own_lt hp).2
    omega
end

set_option maxRecDepth 100000 in
theorem new_bad {x : Int} (hx : x < 0 ∨ 8 < x) (c : Bool) (W : World) : Calls Tryd.prog 8 #[.int .i64 x, .bool c] W fun e W' => e = .returned (.tuple #[.pointer none, toldV 4]) ∧ Below W.heap.size W W' := by
  rw [toldV_pos (by decide)]
  rcases hx with hx | hx
  · go_enter Tryd.func8, Tryd.ntmps8
    go_wp2
    go_ret2
    exact ⟨rfl, Below.refl _ _⟩
  · have h0 : ¬ x < 0 := by omega
    go_enter Tryd.func8, Tryd.ntmps8
    go_wp2
    go_ret2
    exact ⟨rfl, Below.refl _ _⟩

set_option maxRecDepth 100000 in
set_option maxHeartbeats 8000000 in
theorem plays_walk (x : Int) (c : Bool) (l : List (Int × Int × Int)) (hlm : l.length ≤ maxLen) (a : Option Addr) (cap : Nat) (W : World) (ha : AsksQ W a l) (hg : GlE W) :
    Calls Tryd.prog 3 #[.int .i64 x, .bool c, .slice a l.length cap] W fun e W' => e = .returned (.bool true) ∧ Below W.heap.size W W' := by
  have HA := hideIt ha
  have HG := hideIt hg
  have hmx : (l.length : Int) ≤ 9223372036854775807 := by unfold maxLen at hlm; omega
  clear ha hg
  by_cases h80 : 80 < l.length
  · have h80' : (80 : Int) < (l.length : Int) := by omega
    go_enter Tryd.func3, Tryd.ntmps3
    go_wp2
    go_ret
    exact ⟨rfl, Below.refl _ _⟩
  have h80' : ¬ (80 : Int) < (l.length : Int) := by omega
  by_cases hx : x < 0 ∨ 8 < x
  · have HN := hideIt (new_bad hx c W)
    have HBr : Hid (∀ Z, Below W.heap.size W Z → Calls Tryd.prog 9 #[toldV 4, .int .i64 4] Z fun e w' => e = .returned (.bool true) ∧ Below Z.heap.size Z w') := fun Z hZ => bare_any 4 Z (HG.out.below hZ)
    generalize toldV 4 = tv at *
    rcases hx with hx | hx
    · go_enter Tryd.func3, Tryd.ntmps3
      go_wp2_with fail
      refine HN.out.mono ?_
      rintro e W1 ⟨rfl, hb1⟩
      have HB1 := hideIt hb1
      clear hb1
      go_wp2_with fail
      refine (HBr.out _ HB1.out).mono ?_
      rintro e W2 ⟨rfl, hb2⟩
      go_wp2
      go_ret
      exact ⟨rfl, belJ HB1.out hb2⟩
    · have hx0 : ¬ x < 0 := by omega
      go_enter Tryd.func3, Tryd.ntmps3
      go_wp2_with fail
      refine HN.out.mono ?_
      rintro e W1 ⟨rfl, hb1⟩
      have HB1 := hideIt hb1
      clear hb1
      go_wp2_with fail
      refine (HBr.out _ HB1.out).mono ?_
      rintro e W2 ⟨rfl, hb2⟩
      go_wp2
      go_ret
      exact ⟨rfl, belJ HB1.out hb2⟩
  obtain ⟨n, rfl⟩ : ∃ n : Nat, x = n := ⟨x.toNat, by omega⟩
  have hn : n ≤ 8 := by omega
  have hx0 : ¬ (n : Int) < 0 := by omega
  have hx8 : ¬ (8 : Int) < (n : Int) := by omega
  have HN := hideIt (new_any n c W hn)
  clear hx
  go_enter Tryd.func3, Tryd.ntmps3
  go_wp2_with fail
  refine HN.out.mono ?_
  rintro e W1 ⟨kp, rfl, hP, hPo⟩
  have HP := hideIt hP
  have HPo := hideIt hPo
  clear HN hP hPo
  have HDn := hideIt (dnew_any n c W1 hn)
  go_wp2_with fail
  refine HDn.out.mono ?_
  rintro e W2 ⟨kd, rfl, hD⟩
  have HTw : Hid (TwoB W W2 kp kd c n mv0 mv0) := by
    refine ⟨HP.out.below hD.bel, hD.base HP.out.bel, fun b h1 h2 => ?_⟩
    have e1 := (HP.out.own_lt h1).2
    have e2 := (hD.own_lt h2).1
    omega
  clear HDn HP HPo hD
  generalize hB1 : kp.B = B1
  generalize hB2 : kd.B = B2
  go_wp2_with fail
  go_loopw [10] (fun v wz => ∃ j : Nat, j ≤ l.length ∧ v = .int .i64 j ∧ ∃ kp kd, kp.B = B1 ∧ kd.B = B2 ∧ TwoB W wz kp kd c n (runM c n mv0 (l.take j)) (runM c n mv0 (l.take j))) (fun v _ => l.length - (intOf v).toNat)
  case atStart => exact ⟨0, Nat.zero_le _, rfl, kp, kd, hB1, hB2, HTw.out⟩
  case round =>
    clear HTw hB1 hB2
    obtain ⟨j, hj, rfl, kp, kd, hB1, hB2, htw⟩ := hrel
    rename World => wz
    have HTw := hideIt htw
    clear htw
    by_cases hin : j < l.length
    · have hin' : (j : Int) < (l.length : Int) := by omega
      obtain ⟨b, off, rfl, hb, hq⟩ : ∃ b off, a = some ⟨b, off, none⟩ ∧ b < W.heap.size ∧ ∀ k (_ : k < l.length), W.cell? ⟨b, off + k * 3, none⟩ = some (.int .i64 l[k].1) ∧ W.cell? ⟨b, off + k * 3 + 1, none⟩ = some (.int .i64 l[k].2.1) ∧ W.cell? ⟨b, off + k * 3 + 2, none⟩ = some (.int .i64 l[k].2.2) := by
        rcases HA.out with e | e
        · rw [e] at hin; simp at hin
        · exact e
      obtain ⟨q0, q1, q2⟩ := hq j hin
      have HX : Hid (∀ Y, Below W.heap.size W Y → Y.cell? ⟨b, off + j * 3, none⟩ = some (.int .i64 l[j].1) ∧ Y.cell? ⟨b, off + j * 3 + 1, none⟩ = some (.int .i64 l[j].2.1) ∧ Y.cell? ⟨b, off + j * 3 + 2, none⟩ = some (.int .i64 l[j].2.2)) := fun Y hY => ⟨(hY.cell (p := ⟨b, off + j * 3, none⟩) hb).trans q0, (hY.cell (p := ⟨b, off + j * 3 + 1, none⟩) hb).trans q1, (hY.cell (p := ⟨b, off + j * 3 + 2, none⟩) hb).trans q2⟩
      have HI : Hid (MvI n (runM c n mv0 (l.take j))) := run_ok c n (l.take j) (MvI.start n)
      have HT : Hid (runM c n mv0 (l.take (j + 1)) = doM c n (runM c n mv0 (l.take j)) l[j].1 l[j].2.1 l[j].2.2) := by
        show runM c n mv0 (l.take (j + 1)) = _
        rw [List.take_add_one, List.getElem?_eq_getElem hin]
        exact runM_app _ _ _ _ _
      have HTm : Hid ((runM c n mv0 (l.take j)).tm ≤ 1000) := by
        show (runM c n mv0 (l.take j)).tm ≤ 1000
        have := tm_run c n (l.take j) mv0
        have e : mv0.tm = 0 := rfl
        rw [List.length_take] at this
        omega
      clear q0 q1 q2 hq
      generalize l[j] = y at HX HT
      obtain ⟨yp, yk, ym⟩ := y
      dsimp only at HX HT
      generalize runM c n mv0 (l.take j) = st at *
      have HB0 := hideIt HTw.out.1.bel
      have HTd : Hid (TwoB W wz.drew kp kd c n st st) := HTw.out.below (Below.refl _ _).drew
      have HD1 := hideIt (do_any HTd.out.1 HI.out hn HTm.out yp yk ym)
      rw [hB1] at HD1
      have HD2 : Hid (∀ Z kp', TwoB W Z kp' kd c n (doM c n st yp yk ym) st → Calls Tryd.prog 12 #[.pointer (some ⟨B2, 0, none⟩), .agg #[.int .i64 yp, .int .i64 yk, .int .i64 ym]] Z fun e W' => DdTold W Z kd c n (tellM c n st yp yk ym) (doM c n st yp yk ym) e W') := fun Z kp' h => by
        rw [← hB2]
        exact ddo_any h.2.1 HI.out hn HTm.out yp yk ym
      have HBr : Hid (∀ Z, Below W.heap.size W Z → Calls Tryd.prog 9 #[toldV (tellM c n st yp yk ym), .int .i64 (tellM c n st yp yk ym)] Z fun e w' => e = .returned (.bool true) ∧ Below Z.heap.size Z w') := fun Z hZ => bare_any _ Z (HG.out.below hZ)
      go_wp2_with fail
      refine wp_region_held_drew (S := (fun w' => Below W.heap.size W w')) (by kernel_rfl) HB0.out.drew (fun hHeld => ?_)
      refine wpAnyH_take (i := 0) (v := ?_) rfl (by kernel_rfl) (by kernel_rfl) (by kernel_rfl) (fun _ _ _ h => h) (Or.inl ⟨by rfl, ?_⟩) (by assumption) ?_
      rotate_left 1
      · intro wz sb
        obtain ⟨y0, y1, y2⟩ := HX.out wz sb
        go_simp
        all_goals with_reducible rfl
      simp only [Act.put, List.setIfInBounds_toArray, List.set_cons_zero, List.set_cons_succ, List.getElem_toArray, List.getElem_cons_zero]
      refine wpAnyH_take (i := 1) (v := ?_) rfl (by kernel_rfl) (by kernel_rfl) (by kernel_rfl) (fun _ _ _ h => h) (Or.inl ⟨by rfl, ?_⟩) (by assumption) ?_
      rotate_left 1
      · intro wz sb
        obtain ⟨y0, y1, y2⟩ := HX.out wz sb
        go_simp
        all_goals with_reducible rfl
      simp only [Act.put, List.setIfInBounds_toArray, List.set_cons_zero, List.set_cons_succ, List.getElem_toArray, List.getElem_cons_zero, List.getElem_cons_succ]
      refine wpAnyH_take (i := 2) (v := ?_) rfl (by kernel_rfl) (by kernel_rfl) (by kernel_rfl) (fun _ _ _ h => h) (Or.inl ⟨by rfl, ?_⟩) (by assumption) ?_
      rotate_left 1
      · intro wz sb
        obtain ⟨y0, y1, y2⟩ := HX.out wz sb
        go_simp
        all_goals with_reducible rfl
      simp only [Act.put, List.setIfInBounds_toArray, List.set_cons_zero, List.set_cons_succ, List.getElem_toArray, List.getElem_cons_zero, List.getElem_cons_succ]
      refine wpAnyH_take (i := 3) (v := ?_) rfl (by kernel_rfl) (by kernel_rfl) (by kernel_rfl) (fun _ _ _ h => h) (Or.inl ⟨by rfl, ?_⟩) (by assumption) ?_
      rotate_left 1
      · intro wz sb
        obtain ⟨y0, y1, y2⟩ := HX.out wz sb
        go_simp
        all_goals with_reducible rfl
      simp only [Act.put, List.setIfInBounds_toArray, List.set_cons_zero, List.set_cons_succ, List.getElem_toArray, List.getElem_cons_zero, List.getElem_cons_succ]
      refine wpAnyH_take (i := 4) (v := ?_) rfl (by kernel_rfl) (by kernel_rfl) (by kernel_rfl) (fun _ _ _ h => h) (Or.inl ⟨by rfl, ?_⟩) (by assumption) ?_
      rotate_left 1
      · intro wz sb
        obtain ⟨y0, y1, y2⟩ := HX.out wz sb
        go_simp
        all_goals with_reducible rfl
      simp only [Act.put, List.setIfInBounds_toArray, List.set_cons_zero, List.set_cons_succ, List.getElem_toArray, List.getElem_cons_zero, List.getElem_cons_succ]
      refine wpAnyH_take (i := 6) (v := ?_) rfl (by kernel_rfl) (by kernel_rfl) (by kernel_rfl) (fun _ _ _ h => h) (Or.inl ⟨by rfl, ?_⟩) (by assumption) ?_
      rotate_left 1
      · intro wz sb
        obtain ⟨y0, y1, y2⟩ := HX.out wz sb
        go_simp
        all_goals with_reducible rfl
      simp only [Act.put, List.setIfInBounds_toArray, List.set_cons_zero, List.set_cons_succ, List.getElem_toArray, List.getElem_cons_zero, List.getElem_cons_succ]
      refine wpAnyH_take (i := 7) (v := ?_) rfl (by kernel_rfl) (by kernel_rfl) (by kernel_rfl) (fun _ _ _ h => h) (Or.inl ⟨by rfl, ?_⟩) (by assumption) ?_
      rotate_left 1
      · intro wz sb
        obtain ⟨y0, y1, y2⟩ := HX.out wz sb
        go_simp
        all_goals with_reducible rfl
      simp only [Act.put, List.setIfInBounds_toArray, List.set_cons_zero, List.set_cons_succ, List.getElem_toArray, List.getElem_cons_zero, List.getElem_cons_succ]
      refine wpAnyH_take (i := 8) (v := ?_) rfl (by kernel_rfl) (by kernel_rfl) (by kernel_rfl) (fun _ _ _ h => h) (Or.inl ⟨by rfl, ?_⟩) (by assumption) ?_
      rotate_left 1
      · intro wz sb
        obtain ⟨y0, y1, y2⟩ := HX.out wz sb
        go_simp
        all_goals with_reducible rfl
      simp only [Act.put, List.setIfInBounds_toArray, List.set_cons_zero, List.set_cons_succ, List.getElem_toArray, List.getElem_cons_zero, List.getElem_cons_succ]
      refine wpAnyH_take (i := 9) (v := ?_) rfl (by kernel_rfl) (by kernel_rfl) (by kernel_rfl) (fun _ _ _ h => h) (Or.inl ⟨by rfl, ?_⟩) (by assumption) ?_
      rotate_left 1
      · intro wz sb
        obtain ⟨y0, y1, y2⟩ := HX.out wz sb
        go_simp
        all_goals with_reducible rfl
      simp only [Act.put, List.setIfInBounds_toArray, List.set_cons_zero, List.set_cons_succ, List.getElem_toArray, List.getElem_cons_zero, List.getElem_cons_succ]
      refine wpAnyH_take (i := 10) (v := ?_) rfl (by kernel_rfl) (by kernel_rfl) (by kernel_rfl) (fun _ _ _ h => h) (Or.inl ⟨by rfl, ?_⟩) (by assumption) ?_
      rotate_left 1
      · intro wz sb
        obtain ⟨y0, y1, y2⟩ := HX.out wz sb
        go_simp
        all_goals with_reducible rfl
      simp only [Act.put, List.setIfInBounds_toArray, List.set_cons_zero, List.set_cons_succ, List.getElem_toArray, List.getElem_cons_zero, List.getElem_cons_succ]
      refine wpAnyH_take (i := 11) (v := ?_) rfl (by kernel_rfl) (by kernel_rfl) (by kernel_rfl) (fun _ _ _ h => h) (Or.inl ⟨by rfl, ?_⟩) (by assumption) ?_
      rotate_left 1
      · intro wz sb
        obtain ⟨y0, y1, y2⟩ := HX.out wz sb
        go_simp
        all_goals with_reducible rfl
      simp only [Act.put, List.setIfInBounds_toArray, List.set_cons_zero, List.set_cons_succ, List.getElem_toArray, List.getElem_cons_zero, List.getElem_cons_succ]
      refine wpAnyH_take (i := 12) (v := ?_) rfl (by kernel_rfl) (by kernel_rfl) (by kernel_rfl) (fun _ _ _ h => h) (Or.inl ⟨by rfl, ?_⟩) (by assumption) ?_
      rotate_left 1
      · intro wz sb
        obtain ⟨y0, y1, y2⟩ := HX.out wz sb
        go_simp
        all_goals with_reducible rfl
      simp only [Act.put, List.setIfInBounds_toArray, List.set_cons_zero, List.set_cons_succ, List.getElem_toArray, List.getElem_cons_zero, List.getElem_cons_succ]
      refine wpAnyH_take (i := 13) (v := ?_) rfl (by kernel_rfl) (by kernel_rfl) (by kernel_rfl) (fun _ _ _ h => h) (Or.inl ⟨by rfl, ?_⟩) (by assumption) ?_
      rotate_left 1
      · intro wz sb
        obtain ⟨y0, y1, y2⟩ := HX.out wz sb
        go_simp
        all_goals with_reducible rfl
      simp only [Act.put, List.setIfInBounds_toArray, List.set_cons_zero, List.set_cons_succ, List.getElem_toArray, List.getElem_cons_zero, List.getElem_cons_succ]
      refine wpAnyH_take (i := 14) (v := ?_) rfl (by kernel_rfl) (by kernel_rfl) (by kernel_rfl) (fun _ _ _ h => h) (Or.inl ⟨by rfl, ?_⟩) (by assumption) ?_
      rotate_left 1
      · intro wz sb
        obtain ⟨y0, y1, y2⟩ := HX.out wz sb
        go_simp
        all_goals with_reducible rfl
      simp only [Act.put, List.setIfInBounds_toArray, List.set_cons_zero, List.set_cons_succ, List.getElem_toArray, List.getElem_cons_zero, List.getElem_cons_succ]
      refine wpAnyH_take (i := 15) (v := ?_) rfl (by kernel_rfl) (by kernel_rfl) (by kernel_rfl) (fun _ _ _ h => h) (Or.inl ⟨by rfl, ?_⟩) (by assumption) ?_
      rotate_left 1
      · intro wz sb
        obtain ⟨y0, y1, y2⟩ := HX.out wz sb
        go_simp
        all_goals with_reducible rfl
      simp only [Act.put, List.setIfInBounds_toArray, List.set_cons_zero, List.set_cons_succ, List.getElem_toArray, List.getElem_cons_zero, List.getElem_cons_succ]
      refine wpAnyH_take (i := 16) (v := ?_) rfl (by kernel_rfl) (by kernel_rfl) (by kernel_rfl) (fun _ _ _ h => h) (Or.inl ⟨by rfl, ?_⟩) (by assumption) ?_
      rotate_left 1
      · intro wz sb
        obtain ⟨y0, y1, y2⟩ := HX.out wz sb
        go_simp
        all_goals with_reducible rfl
      simp only [Act.put, List.setIfInBounds_toArray, List.set_cons_zero, List.set_cons_succ, List.getElem_toArray, List.getElem_cons_zero, List.getElem_cons_succ]
      refine wpAnyH_take (i := 17) (v := ?_) rfl (by kernel_rfl) (by kernel_rfl) (by kernel_rfl) (fun _ _ _ h => h) (Or.inl ⟨by rfl, ?_⟩) (by assumption) ?_
      rotate_left 1
      · intro wz sb
        obtain ⟨y0, y1, y2⟩ := HX.out wz sb
        go_simp
        all_goals with_reducible rfl
      simp only [Act.put, List.setIfInBounds_toArray, List.set_cons_zero, List.set_cons_succ, List.getElem_toArray, List.getElem_cons_zero, List.getElem_cons_succ]
      refine wpAnyH_take (i := 18) (v := ?_) rfl (by kernel_rfl) (by kernel_rfl) (by kernel_rfl) (fun _ _ _ h => h) (Or.inl ⟨by rfl, ?_⟩) (by assumption) ?_
      rotate_left 1
      · intro wz sb
        obtain ⟨y0, y1, y2⟩ := HX.out wz sb
        go_simp
        all_goals with_reducible rfl
      simp only [Act.put, List.setIfInBounds_toArray, List.set_cons_zero, List.set_cons_succ, List.getElem_toArray, List.getElem_cons_zero, List.getElem_cons_succ]
      refine wpAnyH_take (i := 19) (v := ?_) rfl (by kernel_rfl) (by kernel_rfl) (by kernel_rfl) (fun _ _ _ h => h) (Or.inl ⟨by rfl, ?_⟩) (by assumption) ?_
      rotate_left 1
      · intro wz sb
        obtain ⟨y0, y1, y2⟩ := HX.out wz sb
        go_simp
        all_goals with_reducible rfl
      simp only [Act.put, List.setIfInBounds_toArray, List.set_cons_zero, List.set_cons_succ, List.getElem_toArray, List.getElem_cons_zero, List.getElem_cons_succ]
      refine wpAnyH_take (i := 20) (v := ?_) rfl (by kernel_rfl) (by kernel_rfl) (by kernel_rfl) (fun _ _ _ h => h) (Or.inl ⟨by rfl, ?_⟩) (by assumption) ?_
      rotate_left 1
      · intro wz sb
        obtain ⟨y0, y1, y2⟩ := HX.out wz sb
        go_simp
        all_goals with_reducible rfl
      simp only [Act.put, List.setIfInBounds_toArray, List.set_cons_zero, List.set_cons_succ, List.getElem_toArray, List.getElem_cons_zero, List.getElem_cons_succ]
      refine wpAnyH_take (i := 21) (v := ?_) rfl (by kernel_rfl) (by kernel_rfl) (by kernel_rfl) (fun _ _ _ h => h) (Or.inl ⟨by rfl, ?_⟩) (by assumption) ?_
      rotate_left 1
      · intro wz sb
        obtain ⟨y0, y1, y2⟩ := HX.out wz sb
        go_simp
        all_goals with_reducible rfl
      simp only [Act.put, List.setIfInBounds_toArray, List.set_cons_zero, List.set_cons_succ, List.getElem_toArray, List.getElem_cons_zero, List.getElem_cons_succ]
      refine wpAnyH_take (i := 22) (v := ?_) rfl (by kernel_rfl) (by kernel_rfl) (by kernel_rfl) (fun _ _ _ h => h) (Or.inl ⟨by rfl, ?_⟩) (by assumption) ?_
      rotate_left 1
      · intro wz sb
        obtain ⟨y0, y1, y2⟩ := HX.out wz sb
        go_simp
        all_goals with_reducible rfl
      simp only [Act.put, List.setIfInBounds_toArray, List.set_cons_zero, List.set_cons_succ, List.getElem_toArray, List.getElem_cons_zero, List.getElem_cons_succ]
      refine wpAnyH_ready (rs := [5]) (by kernel_rfl) (by simp) (AllReadyH.cons rfl (fun K hK => ?_) AllReadyH.nil)
      go_simp
      refine HD1.out.mono ?_
      rintro e W3 ⟨kp', rfl, hp3, hf3⟩
      have HT3 := hideIt (HTd.out.first hp3 hf3)
      have HK3 : Hid (kp'.B = B1) := hf3.1.trans hB1
      refine hK.out _ _ hp3.bel (fun hHeld => ?_)
      clear hK K hp3 hf3 HD1
      refine wpAnyH_ready (rs := [23]) (by kernel_rfl) (by simp) (AllReadyH.cons rfl (fun K hK => ?_) AllReadyH.nil)
      go_simp
      refine (HD2.out _ _ HT3.out).mono ?_
      rintro e W4 ⟨kd', rfl, hd4, hf4⟩
      have HT4 := hideIt (HT3.out.second hd4 hf4)
      have HK4 : Hid (kd'.B = B2) := hf4.1.trans hB2
      refine hK.out _ _ hd4.bel (fun hHeld => ?_)
      clear hK K hd4 hf4 HD2
      generalize toldV (tellM c n st yp yk ym) = tv at *
      generalize tellM c n st yp yk ym = tn at *
      refine wpAnyH_ready (rs := [24]) (by kernel_rfl) (by simp) (AllReadyH.cons rfl (fun K hK => ?_) AllReadyH.nil)
      go_simp
      refine (HBr.out _ hHeld).mono ?_
      rintro e W5 ⟨rfl, hb5⟩
      have HT5 := hideIt (HT4.out.below hb5)
      refine hK.out _ _ (belJ hHeld hb5) (fun hHeld => ?_)
      clear hK K hb5 HBr
      refine wpAnyH_take (i := 25) (v := ?_) rfl (by kernel_rfl) (by kernel_rfl) (by kernel_rfl) (fun _ _ _ h => h) (Or.inl ⟨by rfl, ?_⟩) (by assumption) ?_
      rotate_left 1
      · intro wz sb
        obtain ⟨y0, y1, y2⟩ := HX.out wz sb
        go_simp
        all_goals with_reducible rfl
      simp only [Act.put, List.setIfInBounds_toArray, List.set_cons_zero, List.set_cons_succ, List.getElem_toArray, List.getElem_cons_zero, List.getElem_cons_succ]
      refine wpAnyH_done (by kernel_rfl) ?_ _
      go_wp2_with fail
      go_roundw
      case rel => exact ⟨j + 1, by omega, by go_num, kp', kd', HK3.out, HK4.out, by rw [HT.out]; exact HT5.out⟩
      case measure => simp [intOf]; omega
    · have hin' : ¬ (j : Int) < (l.length : Int) := by omega
      have HI : Hid (MvI n (runM c n mv0 (l.take j))) := run_ok c n (l.take j) (MvI.start n)
      have HS := hideIt (sameStory_any HTw.out.1 HTw.out.2.1 HI.out hn)
      rw [hB1, hB2] at HS
      go_wp2_with fail
      refine HS.out.mono ?_
      rintro e W6 ⟨rfl, hb6⟩
      go_wp2
      go_ret
      exact ⟨rfl, belJ HTw.out.1.bel hb6⟩
end Go.Proofs.YtaopigjhdkdklaaDoor
