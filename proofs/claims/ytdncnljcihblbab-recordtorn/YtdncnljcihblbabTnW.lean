/-
  The statement RecordTorn: walked.
-/
import Derived.Test.YtdncnljcihblbabLdX
namespace Go.Proofs.Ytdncnljcihblbab
open Go.RowKit

set_option maxHeartbeats 2000000 in
set_option maxRecDepth 100000 in
theorem torn_any (vl vs vt : Value) (l : List Ev) (ss : List Bool) (tl : List Nat) (w : World) (hl : EvQ w vl l) (hs : BoQ w vs ss) (ht : ByQ w vt tl) :
    Calls Try.prog 3 #[vl, vs, vt] w fun r w' => r = .returned (.bool true) ∧ Below w.heap.size w w' := by
  have HL := hideIt hl
  have HS := hideIt hs
  have HT := hideIt ht
  obtain ⟨al, cl, rfl, hcl, _⟩ := hl
  obtain ⟨at', ct, rfl⟩ := ht.form
  clear hs ht
  by_cases h60 : l.length ≤ 60
  · by_cases h200 : tl.length ≤ 200
    · have h60' : ¬ (60 : Int) < (l.length : Int) := by omega
      have h200' : ¬ (200 : Int) < (tl.length : Int) := by omega
      go_enter Try.func3, Try.ntmps3
      go_wp2_with fail
      refine (logged_any _ _ l ss _ HL.out HS.out h60).mono ?_
      rintro x w1 ⟨G, all, sure, va, rfl, hlog, hsu, hal, hown, hb1, _⟩
      obtain ⟨aa, ca, rfl, hca⟩ := own_shape2 hown
      have HB1 := hideIt hb1
      have hcr := crash_ok G all (framesL (all.take sure)).length 0 _ tl w1 hlog (Nat.zero_le _) (HT.out.below hb1) (by omega)
      rw [Nat.add_zero, frames_take] at hcr
      have HC := hideIt hcr
      have HE1 := hideIt (own_evq hown)
      have HOK : Hid (OkL (all.take sure)) := fun e he => hlog.ok e (List.mem_of_mem_take he)
      clear hlog hown hb1 hcr
      go_wp2_with fail
      refine HC.out.mono ?_
      rintro x w2 ⟨v2, rfl, ho2, hb2⟩
      have hby : Byt (framesL (all.take sure) ++ tl) := (frames_byte HOK.out).append HT.out.1
      have hlen : (framesL (all.take sure) ++ tl).length ≤ 70000 := by
        have := frames_len HOK.out
        simp at this ⊢; omega
      have hrec := rec_frames HOK.out tl
      have HR := hideIt (recover_any v2 _ w2 (own_byq hby ho2) hlen)
      rw [hrec] at HR
      have HB2 := hideIt (below_join HB1.out hb2)
      have HE2 := hideIt (HE1.out.below hb2)
      clear ho2 hb2 hby hlen hrec
      go_wp2_with fail
      refine HR.out.mono ?_
      rintro x w3 ⟨v3, rfl, ho3, hb3⟩
      obtain ⟨a3, c3, rfl, hc3⟩ := own_shape2 ho3
      have HB3 := hideIt (below_join HB2.out hb3)
      have HE3 := hideIt (HE2.out.below hb3)
      have HG3 := hideIt (own_evq ho3)
      clear ho3 hb3
      go_wp2_with fail
      refine (kept_any _).mono ?_
      rintro x w4 ⟨rfl, hb4⟩
      have HB4 := hideIt (below_join HB3.out hb4)
      have HE4 := hideIt (HE3.out.below hb4)
      have HG4 := hideIt (HG3.out.below hb4)
      clear hb4
      have hl3 : (all.take sure ++ (recL tl).1).length = sure + (recL tl).1.length := by
        have : (all.take sure).length = sure := by simp; omega
        rw [List.length_append, this]
      have hsm : (recL tl).1.length ≤ 70000 := by
        have h1 := rec_spec tl.length tl (Nat.le_refl _)
        have h2 := frames_ge (recL tl).1
        have h3 := congrArg List.length h1.2.2
        simp at h3; omega
      have hsc : sure ≤ ca := by omega
      have HBt := hideIt (begins_true (.slice aa sure ca) (.slice a3 (sure + (recL tl).1.length) c3) (all.take sure) (all.take sure ++ (recL tl).1) w4 (HE4.out.take sure hsu) (by rw [← hl3]; exact HG4.out) (List.prefix_append _ _) (by rw [hl3]; omega))
      generalize (recL tl).1 = rt at *
      rw [hl3] at hc3
      go_wp2_with fail
      refine HBt.out.mono ?_
      rintro x w5 ⟨rfl, n5, rfl⟩
      go_wp2
      go_ret
      exact ⟨rfl, below_drewN HB4.out _⟩
    · have h200' : (200 : Int) < (tl.length : Int) := by omega
      go_enter Try.func3, Try.ntmps3
      go_wp2
      go_ret
      exact ⟨rfl, Below.refl _ _⟩
  · have h60' : (60 : Int) < (l.length : Int) := by omega
    go_enter Try.func3, Try.ntmps3
    go_wp2
    go_ret
    exact ⟨rfl, Below.refl _ _⟩

end Go.Proofs.Ytdncnljcihblbab
