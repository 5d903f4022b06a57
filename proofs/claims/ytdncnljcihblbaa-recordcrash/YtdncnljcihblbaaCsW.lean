/-
  The statement RecordCrash: walked.
-/
import Derived.Test.YtdncnljcihblbaaLdX
namespace Go.Proofs.Ytdncnljcihblbaa
open Go.RowKit

set_option maxHeartbeats 2000000 in
set_option maxRecDepth 100000 in
theorem crashes_any (vl vs : Value) (l : List Ev) (ss : List Bool) (kp : Int) (w : World) (hl : EvQ w vl l) (hs : BoQ w vs ss) :
    Calls Try.prog 4 #[vl, vs, .int .i64 kp] w fun r w' => r = .returned (.bool true) ∧ Below w.heap.size w w' := by
  have HL := hideIt hl
  have HS := hideIt hs
  obtain ⟨al, cl, rfl, hcl, _⟩ := hl
  clear hs
  by_cases h60 : l.length ≤ 60
  · have h60' : ¬ (60 : Int) < (l.length : Int) := by omega
    go_enter Try.func4, Try.ntmps4
    go_wp2_with fail
    refine (logged_any _ _ l ss _ HL.out HS.out h60).mono ?_
    rintro x w1 ⟨G, all, sure, va, rfl, hlog, hsu, hal, hown, hb1⟩
    obtain ⟨aa, ca, rfl, hca⟩ := own_shape2 hown
    have HB1 := hideIt hb1
    have HE1 := hideIt (own_evq hown)
    have HLG := hideIt hlog
    have hle := hlog.le
    have hfl := frames_len hlog.ok
    have hok := hlog.ok
    have HOK := hideIt hok
    clear hlog hown hb1 hok
    go_wp2_with fail
    refine (size_any _ _ _ _ HLG.out).mono ?_
    rintro x w2 ⟨rfl, n2, rfl⟩
    have HB2 := hideIt (below_drewN HB1.out n2)
    go_wp2_with fail
    refine (kept_any _).mono ?_
    rintro x w3 ⟨rfl, hb3⟩
    have hb13 : Below w1.heap.size w1 w3 := (below_drewN (Below.refl _ _) n2).trans hb3
    have HB3 := hideIt (below_join HB1.out hb13)
    have HE3 := hideIt (HE1.out.below hb13)
    have HL3 := hideIt (HLG.out.below hb13)
    clear hb3 hb13
    obtain ⟨fa, hfa⟩ : ∃ fa, fa = (framesL all).length := ⟨_, rfl⟩
    obtain ⟨fs, hfs⟩ : ∃ fs, fs = (framesL (all.take sure)).length := ⟨_, rfl⟩
    rw [← hfa] at hle hfl ⊢
    rw [← hfs] at hle ⊢
    have HFA := hideIt hfa
    have HFS := hideIt hfs
    clear hfa hfs
    have hlt1 : ¬ (fa : Int) < (fs : Int) := by omega
    have hlt2 : ¬ (fs : Int) < 0 := by omega
    have HP : Hid (∀ W, Calls Try.prog 12 #[.int .i64 kp, .int .i64 ((fa : Int) - (fs : Int) + 1)] W fun e w' => ∃ m : Nat, m ≤ fa - fs ∧ e = .returned (.int .i64 (m : Nat)) ∧ w' = W) := by
      intro W
      have h := pick_is kp (fa - fs + 1) W (by omega) (by omega)
      rw [show ((fa - fs + 1 : Nat) : Int) = (fa : Int) - (fs : Int) + 1 from by omega] at h
      refine h.mono ?_
      rintro e w' ⟨rfl, rfl⟩
      have h2 : pickN kp (fa - fs + 1) < fa - fs + 1 := Nat.mod_lt _ (by omega)
      exact ⟨_, by omega, rfl, rfl⟩
    go_wp2_with fail
    refine (HP.out _).mono ?_
    rintro x w4 ⟨m, hm, rfl, rfl⟩
    have hcr := crash_ok G all (framesL (all.take sure)).length m (.slice none 0 0) [] w4 HL3.out (by rw [← HFA.out, ← HFS.out]; exact hm) ⟨fun _ h => (List.not_mem_nil h).elim, Or.inl ⟨rfl, none, 0, rfl, fun _ => rfl⟩⟩ (by simp)
    rw [List.append_nil, ← HFS.out] at hcr
    have HC := hideIt hcr
    clear hcr
    go_wp2_with fail
    refine HC.out.mono ?_
    rintro x w5 ⟨v5, rfl, ho5, hb5⟩
    obtain ⟨a5, c5, rfl, hc5⟩ := own_shape2 ho5
    obtain ⟨j, hj, hrec, hmax⟩ := rec_cut all (fs + m) HOK.out
    have hsj : sure ≤ j := hmax sure hsu (by rw [← HFS.out]; omega)
    have hby : Byt ((framesL all).take (fs + m)) := (frames_byte HOK.out).take _
    have hBl : ((framesL all).take (fs + m)).length ≤ 70000 := by
      have := frames_len HOK.out
      simp; omega
    have hnj := (rec_spec ((framesL all).take (fs + m)).length ((framesL all).take (fs + m)) (Nat.le_refl _)).2.1
    have hag := rec_again ((framesL all).take (fs + m))
    have hq5 := own_byq hby ho5
    have HR5 := hideIt (recover_any _ _ w5 hq5 hBl)
    rw [hrec] at HR5 hnj hag
    simp only at hnj hag
    have hjl : (all.take j).length = j := by simp; omega
    rw [hjl] at HR5
    have HB5 := hideIt (below_join HB3.out hb5)
    have HE5 := hideIt (HE3.out.below hb5)
    have HQ5 := hideIt hq5
    have HAG := hideIt hag
    have HJL := hideIt hjl
    clear ho5 hb5 hrec hmax hby hq5 hag hjl HC HP HLG HL3 HE3 HE1
    generalize (framesL all).take (fs + m) = B at *
    generalize hnv : (framesL (all.take j)).length = nj at *
    clear hnv
    go_wp2_with fail
    refine HR5.out.mono ?_
    rintro x w6 ⟨v6, rfl, ho6, hb6⟩
    obtain ⟨a6, c6, rfl, hc6⟩ := own_shape2 ho6
    have HB6 := hideIt (below_join HB5.out hb6)
    have HE6 := hideIt (HE5.out.below hb6)
    have HQ6 := hideIt (HQ5.out.below hb6)
    have HG6 := hideIt (own_evq (l := all.take j) (by rw [HJL.out]; exact ho6))
    clear ho6 hb6 HE5 HQ5
    have k1 : ¬ (j : Int) < (sure : Int) := by omega
    have k2 : ¬ (B.length : Int) < (nj : Int) := by omega
    have HBt := hideIt (begins_true _ _ (all.take j) all w6 (show EvQ w6 (.slice a6 j c6) (all.take j) from by have := HG6.out; exact this) HE6.out (List.take_prefix _ _) (by omega))
    go_wp2_with fail
    refine HBt.out.mono ?_
    rintro x w7 ⟨rfl, n7, rfl⟩
    have HB7 := hideIt (below_drewN HB6.out n7)
    have hb67 : Below w6.heap.size w6 (w6.drewN n7) := below_drewN (Below.refl _ _) n7
    have HG7 := hideIt (HG6.out.below hb67)
    have HR7 := hideIt (recover_any _ _ (w6.drewN n7) ((HQ6.out.below hb67).cut nj hnj) (by simp; omega))
    rw [HAG.out, HJL.out] at HR7
    clear HBt HG6 hb67
    have hnc : nj ≤ c5 := by omega
    go_wp2_with fail
    refine HR7.out.mono ?_
    rintro x w8 ⟨v8, rfl, ho8, hb8⟩
    obtain ⟨a8, c8, rfl, hc8⟩ := own_shape2 ho8
    have HB8 := hideIt (below_join HB7.out hb8)
    have HG8 := hideIt (HG7.out.below hb8)
    have HH8 := hideIt (own_evq (l := all.take j) (by rw [HJL.out]; exact ho8))
    have HBu := hideIt (begins_true _ _ (all.take j) (all.take j) w8 HH8.out HG8.out (List.prefix_refl _) (by rw [HJL.out]; omega))
    clear ho8 hb8 HG7
    go_wp2_with fail
    refine HBu.out.mono ?_
    rintro x w9 ⟨rfl, n9, rfl⟩
    go_wp2
    go_ret
    exact ⟨rfl, below_drewN HB8.out _⟩
  · have h60' : (60 : Int) < (l.length : Int) := by omega
    go_enter Try.func4, Try.ntmps4
    go_wp2
    go_ret
    exact ⟨rfl, Below.refl _ _⟩

end Go.Proofs.Ytdncnljcihblbaa
