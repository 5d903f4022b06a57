/-
  Package clock's fault, pass and Check, walked.
-/
import Derived.Test.YtmonbkoelehdlaaDoorVeW
namespace Go.Proofs.YtmonbkoelehdlaaDoor
open Go.RowKit

set_option maxHeartbeats 1000000 in
theorem fault_any (s : Stp) (w : World) : Calls Tryd.prog 29 #[s.agg] w fun e w' => e = .returned (.int .i64 (fltS s)) ∧ Below w.heap.size w w' := by
  unfold Stp.agg
  go_enter Tryd.func29, Tryd.ntmps29
  go_wp2
  all_goals (go_ret; refine ⟨ret_int ?_, belA (Below.refl _ _) _⟩; (try simp only [bne_iff_ne, ne_eq, bne_eq_false_iff_eq] at *); unfold fltS; (repeat' split) <;> first | rfl | omega)

/-- A map of numbers. -/
abbrev MapN (w : World) (M n : Nat) (f : Int → Option Int) : Prop := MapV Tryd.prog (fun b : Int => .int .i64 b) w M n f

/-- What pass tells, and what it keeps. -/
def passN (f : Int → Option Int) (s : Stp) : Int :=
  if s.k = 1 then 0 else if (s.k = 2 ∧ (f s.m).isSome = true) ∨ (s.k = 3 ∧ (f s.m).getD 0 = 3) then 9 else if s.k = 3 ∧ (f s.m).isSome = false then 7 else 0
def passF (f : Int → Option Int) (s : Stp) : Int → Option Int := if s.k = 1 then f else putK f s.m (some s.k)

set_option maxHeartbeats 2000000 in
theorem pass_any (s : Stp) (M n : Nat) (f : Int → Option Int) (w : World) (hm : MapN w M n f) (hn : n < 100) (hwf : (Lit.int .i64 s.m).wf = true) :
    Calls Tryd.prog 30 #[.map (some M), s.agg] w fun e w' => e = .returned (.int .i64 (passN f s)) ∧ (passN f s = 0 → MapN w' M (n + 1) (passF f s)) ∧ Below M w w' := by
  have HM := hideIt hm
  have HMl := hideIt hm.lt
  clear hm
  have HBl : Hid (∀ o, Below M w (w.alloc o)) := fun o => (Below.refl _ _).alloc (Nat.le_of_lt HMl.out) o
  unfold Stp.agg
  cases hf : f s.m with
  | none =>
    have HF := hideIt hf
    clear hf
    by_cases h1 : s.k = 1
    · have R0 : Hid (passN f s = 0) := by show passN f s = 0; unfold passN; rw [if_pos h1]
      have R1 : Hid (passF f s = f) := by show passF f s = f; unfold passF; rw [if_pos h1]
      go_enter Tryd.func30, Tryd.ntmps30
      go_wp2_with (at_lookup; refine wpList_look_none _ Tryd.underlying3 rfl _ _ rfl Tryd.underlying70 _ _ _ (zeroInt _) rfl (HM.out.alloc _) _ rfl hwf HF.out ?_)
      go_ret
      exact ⟨ret_int R0.out.symm, fun _ => by rw [R1.out]; exact (HM.out.alloc _).mono (by omega), HBl.out _⟩
    · by_cases h3 : s.k = 3
      · have R0 : Hid (passN f s = 7) := by show passN f s = 7; unfold passN; rw [HF.out, if_neg h1, if_neg (by simp [h3]), if_pos ⟨h3, rfl⟩]
        go_enter Tryd.func30, Tryd.ntmps30
        go_wp2_with (at_lookup; refine wpList_look_none _ Tryd.underlying3 rfl _ _ rfl Tryd.underlying70 _ _ _ (zeroInt _) rfl (HM.out.alloc _) _ rfl hwf HF.out ?_)
        go_ret
        exact ⟨ret_int R0.out.symm, fun h => (by rw [R0.out] at h; cases h), HBl.out _⟩
      · have R0 : Hid (passN f s = 0) := by show passN f s = 0; unfold passN; rw [HF.out, if_neg h1, if_neg (by simp [h3]), if_neg (by simp [h3])]
        by_cases h2 : s.k = 2
        · have R1 : Hid (passF f s = putK f s.m (some 2)) := by show passF f s = _; unfold passF; rw [if_neg h1, h2]
          go_enter Tryd.func30, Tryd.ntmps30
          go_wp2_with (first | (at_lookup; refine wpList_look_none _ Tryd.underlying3 rfl _ _ rfl Tryd.underlying70 _ _ _ (zeroInt _) rfl (HM.out.alloc _) _ rfl hwf HF.out ?_) | (at_mapUpdate; refine wpList_store_v _ Tryd.underlying3 rfl _ _ _ _ rfl _ Tryd.underlying70 _ _ _ rfl (HM.out.alloc _) (by omega) _ rfl hwf _ rfl ?_; intro w3 hm3 hg3))
          go_ret
          exact ⟨ret_int R0.out.symm, fun _ => by rw [R1.out]; exact hm3, (HBl.out _).grown hg3 (by simp; have := HMl.out; omega) (fun j hj => by cases hj; exact Nat.le_refl _)⟩
        · have R1 : Hid (passF f s = putK f s.m (some s.k)) := by show passF f s = _; unfold passF; rw [if_neg h1]
          go_enter Tryd.func30, Tryd.ntmps30
          go_wp2_with (first | (at_lookup; refine wpList_look_none _ Tryd.underlying3 rfl _ _ rfl Tryd.underlying70 _ _ _ (zeroInt _) rfl (HM.out.alloc _) _ rfl hwf HF.out ?_) | (at_mapUpdate; refine wpList_store_v _ Tryd.underlying3 rfl _ _ _ _ rfl _ Tryd.underlying70 _ _ _ rfl (HM.out.alloc _) (by omega) _ rfl hwf _ rfl ?_; intro w3 hm3 hg3))
          go_ret
          exact ⟨ret_int R0.out.symm, fun _ => by rw [R1.out]; exact hm3, (HBl.out _).grown hg3 (by simp; have := HMl.out; omega) (fun j hj => by cases hj; exact Nat.le_refl _)⟩
  | some d =>
    have HF := hideIt hf
    clear hf
    by_cases h1 : s.k = 1
    · have R0 : Hid (passN f s = 0) := by show passN f s = 0; unfold passN; rw [if_pos h1]
      have R1 : Hid (passF f s = f) := by show passF f s = f; unfold passF; rw [if_pos h1]
      go_enter Tryd.func30, Tryd.ntmps30
      go_wp2_with (at_lookup; refine wpList_look_some _ Tryd.underlying3 rfl _ _ rfl Tryd.underlying70 _ _ _ (zeroInt _) rfl (HM.out.alloc _) _ rfl hwf _ HF.out ?_)
      go_ret
      exact ⟨ret_int R0.out.symm, fun _ => by rw [R1.out]; exact (HM.out.alloc _).mono (by omega), HBl.out _⟩
    · by_cases h9 : s.k = 2 ∨ (s.k = 3 ∧ d = 3)
      · have R0 : Hid (passN f s = 9) := by show passN f s = 9; unfold passN; rw [HF.out, if_neg h1, if_pos (by simpa using h9)]
        rcases h9 with h2 | ⟨h3, hd⟩
        · go_enter Tryd.func30, Tryd.ntmps30
          go_wp2_with (at_lookup; refine wpList_look_some _ Tryd.underlying3 rfl _ _ rfl Tryd.underlying70 _ _ _ (zeroInt _) rfl (HM.out.alloc _) _ rfl hwf _ HF.out ?_)
          go_ret
          exact ⟨ret_int R0.out.symm, fun h => (by rw [R0.out] at h; cases h), HBl.out _⟩
        · go_enter Tryd.func30, Tryd.ntmps30
          go_wp2_with (at_lookup; refine wpList_look_some _ Tryd.underlying3 rfl _ _ rfl Tryd.underlying70 _ _ _ (zeroInt _) rfl (HM.out.alloc _) _ rfl hwf _ HF.out ?_)
          go_ret
          exact ⟨ret_int R0.out.symm, fun h => (by rw [R0.out] at h; cases h), HBl.out _⟩
      · have R0 : Hid (passN f s = 0) := by show passN f s = 0; unfold passN; rw [HF.out, if_neg h1, if_neg (by simpa using h9), if_neg (by simp)]
        have R1 : Hid (passF f s = putK f s.m (some s.k)) := by show passF f s = _; unfold passF; rw [if_neg h1]
        have h2 : ¬ s.k = 2 := fun h => h9 (.inl h)
        by_cases h3 : s.k = 3
        · have hd : ¬ d = 3 := fun h => h9 (.inr ⟨h3, h⟩)
          have R2 : Hid (passF f s = putK f s.m (some 3)) := by show passF f s = _; rw [R1.out, h3]
          clear h9 R1
          go_enter Tryd.func30, Tryd.ntmps30
          go_wp2_with (first | (at_lookup; refine wpList_look_some _ Tryd.underlying3 rfl _ _ rfl Tryd.underlying70 _ _ _ (zeroInt _) rfl (HM.out.alloc _) _ rfl hwf _ HF.out ?_) | (at_mapUpdate; refine wpList_store_v _ Tryd.underlying3 rfl _ _ _ _ rfl _ Tryd.underlying70 _ _ _ rfl (HM.out.alloc _) (by omega) _ rfl hwf _ rfl ?_; intro w3 hm3 hg3))
          go_ret
          exact ⟨ret_int R0.out.symm, fun _ => by rw [R2.out]; exact hm3, (HBl.out _).grown hg3 (by simp; have := HMl.out; omega) (fun j hj => by cases hj; exact Nat.le_refl _)⟩
        · clear h9
          go_enter Tryd.func30, Tryd.ntmps30
          go_wp2_with (first | (at_lookup; refine wpList_look_some _ Tryd.underlying3 rfl _ _ rfl Tryd.underlying70 _ _ _ (zeroInt _) rfl (HM.out.alloc _) _ rfl hwf _ HF.out ?_) | (at_mapUpdate; refine wpList_store_v _ Tryd.underlying3 rfl _ _ _ _ rfl _ Tryd.underlying70 _ _ _ rfl (HM.out.alloc _) (by omega) _ rfl hwf _ rfl ?_; intro w3 hm3 hg3))
          go_ret
          exact ⟨ret_int R0.out.symm, fun _ => by rw [R1.out]; exact hm3, (HBl.out _).grown hg3 (by simp; have := HMl.out; omega) (fun j hj => by cases hj; exact Nat.le_refl _)⟩

theorem pass_flt {l : List Stp} {k : Nat} (h : ∀ j, j < k → fltC l j = 0) : passN (mailF l k) (stZ l k) = fltM l k ∧ passF (mailF l k) (stZ l k) = mailF l (k + 1) := by
  have hd := mailF_done h (stZ l k).m
  refine ⟨?_, rfl⟩
  unfold passN fltM
  rw [hd.2]
  by_cases h1 : (stZ l k).k = 1
  · rw [if_pos h1, if_neg (by rw [h1]; simp), if_neg (by rw [h1]; simp)]
  · rw [if_neg h1]
    have e : ((stZ l k).k = 3 ∧ (mailF l k (stZ l k).m).getD 0 = 3) ↔ ((stZ l k).k = 3 ∧ gotB l (stZ l k).m k = true) := by rw [hd.1]
    simp only [e]

/-- The value of an error at a place. -/
def ErrAt (w : World) (v : Value) (n pl : Int) : Prop :=
  (n = 0 ∧ pl = -1 ∧ v = .nilIface) ∨ (n ≠ 0 ∧ pl = -1 ∧ v = .iface 25 (.int .i64 n)) ∨ (n ≠ 0 ∧ pl ≠ -1 ∧ ∃ g, v = .iface 72 (.pointer (some ⟨g, 0, none⟩)) ∧ g < w.heap.size ∧ w.cell? ⟨g, 0, none⟩ = some (.int .i64 n) ∧ w.cell? ⟨g, 1, none⟩ = some (.int .i64 pl))
theorem ErrAt.below {w w' : World} {v : Value} {n pl : Int} (h : ErrAt w v n pl) (hb : Below w.heap.size w w') : ErrAt w' v n pl := by
  rcases h with h | h | ⟨h1, h2, g, rfl, hg, c0, c1⟩
  · exact .inl h
  · exact .inr (.inl h)
  · exact .inr (.inr ⟨h1, h2, g, rfl, Nat.lt_of_lt_of_le hg hb.size, (hb.cell (p := ⟨g, 0, none⟩) hg).trans c0, (hb.cell (p := ⟨g, 1, none⟩) hg).trans c1⟩)
theorem ErrAt.nil {w : World} {v : Value} {pl : Int} (h : ErrAt w v 0 pl) : v = .nilIface ∧ pl = -1 := by
  rcases h with h | h | h
  · exact ⟨h.2.2, h.2.1⟩
  · exact absurd rfl h.1
  · exact absurd rfl h.1
theorem ErrAt.ne {w : World} {v : Value} {n pl : Int} (h : ErrAt w v n pl) (hn : n ≠ 0) : ∃ t u, v = .iface t u := by
  rcases h with h | h | ⟨_, _, g, rfl, _⟩
  · exact absurd h.1 hn
  · exact ⟨_, _, h.2.2⟩
  · exact ⟨_, _, rfl⟩

set_option maxRecDepth 100000 in
set_option maxHeartbeats 2000000 in
theorem check_any (l : List Stp) (a : Option Addr) (cap : Nat) (w : World) (hmax : l.length ≤ maxLen) (hl : StpsQ w a l) :
    Calls Tryd.prog 15 #[.slice a l.length cap] w fun e w' => ∃ v n pl, e = .returned v ∧ CkC l n pl ∧ ErrAt w' v n pl ∧ Below w.heap.size w w' := by
  have HL := hideIt hl
  clear hl
  by_cases h40 : l.length ≤ 40
  · go_enter Tryd.func15, Tryd.ntmps15
    have hmm := @run_makeMap Tryd.prog
    go_wp2
    clear hmm
    go_loopw [14] (fun i wr => ∃ k : Nat, k ≤ l.length ∧ i = .int .i64 k ∧ (∀ j, j < k → fltC l j = 0) ∧ MapN wr w.heap.size k (mailF l k) ∧ Below w.heap.size w wr) (fun i _ => l.length - (intOf i).toNat)
    case atStart => exact ⟨0, Nat.zero_le _, rfl, fun j hj => absurd hj (by omega), mapV_made _ _ _, belA (Below.refl _ _) _⟩
    case round =>
      obtain ⟨k, hk, rfl, ha, hm, hb⟩ := hrel
      have HA := hideIt ha
      have HM := hideIt hm
      have HB := hideIt hb
      have HMl : Hid (w.heap.size < wr.heap.size) := hm.lt
      clear ha hm hb
      by_cases hkl : k < l.length
      · obtain ⟨b, off, rfl, hlt, hst⟩ : ∃ b off, a = some ⟨b, off, none⟩ ∧ b < w.heap.size ∧ StpsAt w b off l := by
          rcases HL.out with h | h
          · subst h; simp at hkl
          · exact h
        obtain ⟨c0, c1, c2⟩ := (hst k hkl).below hlt HB.out
        have HX : Hid (stZ l k = l[k]) := stZ_at hkl
        generalize l[k] = x at c0 c1 c2 HX
        clear hst HL
        have HF : Hid (∀ W, Calls Tryd.prog 29 #[x.agg] W fun e w' => e = .returned (.int .i64 (fltS x)) ∧ Below W.heap.size W w') := fun W => fault_any x W
        obtain ⟨fs, HFS⟩ : ∃ fs, Hid (fltS x = fs) := ⟨_, hideIt rfl⟩
        rw [HFS.out] at HF
        unfold Stp.agg at HF
        go_wp2_with fail
        refine (HF.out _).mono ?_
        rintro e w2 ⟨rfl, hb2⟩
        have HB2 := hideIt (show Below wr.heap.size wr w2 from belJ (belA (Below.refl _ _) _) hb2)
        have e0 : w2.cell? ⟨wr.heap.size, 0, none⟩ = some (.int .i64 x.p) := by rw [hb2.cell (p := ⟨wr.heap.size, 0, none⟩) (by simp)]; simp
        have e1 : w2.cell? ⟨wr.heap.size, 1, none⟩ = some (.int .i64 x.k) := by rw [hb2.cell (p := ⟨wr.heap.size, 1, none⟩) (by simp)]; simp
        have e2 : w2.cell? ⟨wr.heap.size, 2, none⟩ = some (.int .i64 x.m) := by rw [hb2.cell (p := ⟨wr.heap.size, 2, none⟩) (by simp)]; simp
        clear hb2 c0 c1 c2
        by_cases hfs : fs = 0
        · subst hfs
          have HM2 := hideIt (show MapN w2 w.heap.size k (mailF l k) from MapV.below HM.out HB2.out HMl.out)
          have hpf := pass_flt HA.out
          have HP : Hid (∀ W, W = w2 → Calls Tryd.prog 30 #[.map (some w.heap.size), x.agg] W fun e w' => e = .returned (.int .i64 (fltM l k)) ∧ (fltM l k = 0 → MapN w' w.heap.size (k + 1) (mailF l (k + 1))) ∧ Below w.heap.size W w') := fun W hW => by
            subst hW
            have := pass_any x w.heap.size k (mailF l k) W HM2.out (by omega) (wf_of (by have := fltS_zero HFS.out; omega))
            rw [← HX.out, hpf.1, hpf.2] at this
            rw [← HX.out]
            exact this
          unfold Stp.agg at HP
          have HFC : Hid (fltC l k = fltM l k) := by show fltC l k = _; unfold fltC; rw [HX.out, if_pos HFS.out]
          clear hpf
          generalize fltM l k = m at HP HFC
          go_wp2_with fail
          refine (HP.out _ rfl).mono ?_
          rintro e w3 ⟨rfl, hm3, hb3⟩
          have HB3 : Hid (Below w.heap.size w w3) := HB.out.trans ((HB2.out.mono HB.out.size).trans hb3)
          by_cases hm0 : m = 0
          · subst hm0
            have R1 : Hid (∀ j, j < k + 1 → fltC l j = 0) := fun j hj => by
              by_cases e : j = k
              · subst e; exact HFC.out
              · exact HA.out j (by omega)
            have HM3 := hideIt (hm3 rfl)
            clear hm3 hb3
            go_wp2
            go_roundw
            case rel => exact ⟨k + 1, by omega, by go_num, R1.out, HM3.out, HB3.out⟩
            case measure => simp [intOf]; omega
          · have hm0' : (m != 0) = true := by simp [hm0]
            have R1 : Hid (CkC l m k) := .inr ⟨h40, .inr ⟨k, hkl, HA.out, by rw [HFC.out]; exact hm0, HFC.out.symm, rfl⟩⟩
            clear hm3 hb3
            go_wp2
            go_ret
            exact ⟨_, m, k, rfl, R1.out, .inr (.inr ⟨hm0, by omega, _, rfl, by simp, by simp, by simp⟩), belA HB3.out _⟩
        · have hfs' : (fs == 0) = false := by simp [hfs]
          have hfs2 : (fs != 0) = true := by simp [hfs]
          have HFC : Hid (fltC l k = fs) := by show fltC l k = _; unfold fltC; rw [HX.out, HFS.out, if_neg hfs]
          have R1 : Hid (CkC l fs k) := .inr ⟨h40, .inr ⟨k, hkl, HA.out, by rw [HFC.out]; exact hfs, HFC.out.symm, rfl⟩⟩
          have HB3 : Hid (Below w.heap.size w w2) := HB.out.trans (HB2.out.mono HB.out.size)
          go_wp2
          go_ret
          exact ⟨_, fs, k, rfl, R1.out, .inr (.inr ⟨hfs, by omega, _, rfl, by simp, by simp, by simp⟩), belA HB3.out _⟩
      · have R1 : Hid (CkC l 0 (-1)) := .inr ⟨h40, .inl ⟨fun j hj => HA.out j (by omega), rfl, rfl⟩⟩
        go_wp2
        go_ret
        exact ⟨_, 0, -1, rfl, R1.out, .inl ⟨rfl, rfl, rfl⟩, HB.out⟩
  · go_enter Tryd.func15, Tryd.ntmps15
    go_wp2
    go_ret
    exact ⟨_, 4, -1, rfl, .inl ⟨by omega, rfl, rfl⟩, .inr (.inl ⟨by decide, rfl, rfl⟩), Below.refl _ _⟩
end Go.Proofs.YtmonbkoelehdlaaDoor
