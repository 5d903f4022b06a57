/-
  The statements' own fact 'kept': walked.
-/
import Derived.Test.YtdncnljcihblbabRcW
namespace Go.Proofs.Ytdncnljcihblbab
open Go.RowKit

def oneE : Ev := ⟨1, 1, 0, 1, 0, 0, 0⟩
theorem oneE_ok : fltE oneE = 0 := by decide
theorem oneE_enc : encL oneE = [1, 1, 0, 1, 0, 0, 0] := by
  unfold encL zzN oneE
  simp [varL]
theorem oneE_len : (framesL [oneE]).length = 13 := by rw [show framesL [oneE] = frameL (encL oneE) by simp [framesL], frame_len, oneE_enc]; rfl
theorem oneE_rec : recL (framesL [oneE]) = ([oneE], 13) := by
  have h := rec_frames (l := [oneE]) (fun e he => by simp at he; subst he; exact oneE_ok) []
  rw [List.append_nil, rec_none (b := []) rfl, oneE_len] at h
  simpa using h

theorem own_form7 {w : World} {base : Nat} {e : TypeId} {v : Value} {n : Nat} {xs : List Value} (h : w.ownsRow base e 7 v n xs) (hn : 0 < n) : ∃ g c, v = .slice (some ⟨g, 0, none⟩) n c := by
  obtain ⟨_, ⟨_, h0⟩ | ⟨g, c, _, rfl, _⟩⟩ := h
  · omega
  · exact ⟨g, c, rfl⟩

set_option maxHeartbeats 2000000 in
set_option maxRecDepth 100000 in
theorem kept_any (w : World) : Calls Try.prog 10 #[] w fun e w' => e = .returned (.bool true) ∧ Below w.heap.size w w' := by
  have HL0 := hideIt (logIn_new w)
  have HA := hideIt (add_ok w.heap.size [] 0 oneE _ (logIn_new w) oneE_ok (by simp))
  have HS := hideIt (fun W (h : LogIn W w.heap.size ([] ++ [oneE]) 0) => sync_any w.heap.size [oneE] 0 W h)
  have HB : Hid (Byt (framesL [oneE])) := frames_byte (fun e he => by simp at he; subst he; exact oneE_ok)
  have HC : Hid (∀ W, LogIn W w.heap.size [oneE] (framesL [oneE]).length → Calls Try.prog 8 #[.pointer (some ⟨w.heap.size, 0, none⟩), .int .i64 0, .slice none 0 0] W fun r w' => ∃ g c, r = .returned (.tuple #[.slice (some ⟨g, 0, none⟩) 13 c, .nilIface]) ∧ ByQ w' (.slice (some ⟨g, 0, none⟩) 13 c) (framesL [oneE]) ∧ Below W.heap.size W w') := by
    intro W h
    refine Calls.mono (crash_ok w.heap.size [oneE] (framesL [oneE]).length 0 (.slice none 0 0) [] W h (Nat.zero_le _) ⟨fun _ h => (List.not_mem_nil h).elim, Or.inl ⟨rfl, none, 0, rfl, fun _ => rfl⟩⟩ (by simp)) ?_
    rintro x w' ⟨v, rfl, ho, hb⟩
    rw [Nat.add_zero, List.take_length, List.append_nil] at ho
    obtain ⟨g, c, rfl⟩ := own_form ho (by rw [oneE_len]; omega)
    have hq := own_byq HB.out ho
    rw [oneE_len] at hq ⊢
    exact ⟨g, c, rfl, hq, hb⟩
  have HR := hideIt (fun W v (h : ByQ W v (framesL [oneE])) => recover_any v (framesL [oneE]) W h (by rw [oneE_len]; omega))
  simp only [oneE_rec] at HR
  unfold oneE Ev.agg at HA
  simp only at HA
  go_enter Try.func10, Try.ntmps10
  go_wp2_with fail
  refine HA.out.mono ?_
  rintro x w1 ⟨rfl, hl1, hg1⟩
  have H1 := hideIt hl1
  have HB1 := hideIt (below_grown (below_alloc (Below.refl w.heap.size w) _) hg1 (Nat.le_refl _))
  clear hl1 hg1
  go_wp2_with fail
  refine (HS.out _ H1.out).mono ?_
  rintro x w2 ⟨rfl, hl2, hg2⟩
  have H2 := hideIt hl2
  have HB2 := hideIt (below_grown HB1.out hg2 (Nat.le_refl _))
  clear hl2 hg2
  go_wp2_with fail
  refine (HC.out _ H2.out).mono ?_
  rintro x w3 ⟨g, c, rfl, hq3, hb3⟩
  have HQ3 := hideIt hq3
  have HB3 := hideIt (below_join HB2.out hb3)
  clear hq3 hb3
  go_wp2_with fail
  refine (HR.out _ _ HQ3.out).mono ?_
  rintro x w4 ⟨v4, rfl, ho4, hb4⟩
  obtain ⟨g4, c4, rfl⟩ := own_form7 ho4 (by simp)
  have c4 := ho4.cellAt 0 (by simp)
  have c4' : w4.cell? ⟨g4, 0, none⟩ = some (.int .i64 1) := c4
  have HB4 := hideIt (below_join HB3.out hb4)
  clear ho4 hb4 c4
  go_wp2
  go_ret
  exact ⟨rfl, HB4.out⟩

end Go.Proofs.Ytdncnljcihblbab
