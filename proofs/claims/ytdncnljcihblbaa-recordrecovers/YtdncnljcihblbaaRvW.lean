/-
  The statement RecordRecovers: walked.
-/
import Derived.Test.YtdncnljcihblbaaDRc
import Derived.Test.YtdncnljcihblbaaRcW
namespace Go.Proofs.Ytdncnljcihblbaa
open Go.RowKit

theorem frames_few : ∀ (es : List Ev), es.length ≤ (framesL es).length
  | [] => Nat.zero_le _
  | e :: es => by
    have := frames_few es
    rw [frames_cons, List.length_append, frame_len]
    simp; omega

set_option maxHeartbeats 2000000 in
set_option maxRecDepth 100000 in
theorem recovers_any (v : Value) (l : List Nat) (w : World) (hq : ByQ w v l) :
    Calls Try.prog 3 #[v] w fun r w' => r = .returned (.bool true) ∧ Below w.heap.size w w' := by
  have HQ := hideIt hq
  obtain ⟨a, c, rfl⟩ := hq.form
  by_cases h : l.length ≤ 2000
  · have h' : ¬ (2000 : Int) < (l.length : Int) := by omega
    have HP := hideIt (recover_any _ l w hq (by omega))
    have HD := hideIt (fun W (hq : ByQ W (.slice a l.length c) l) => refRecover_any (.slice a l.length c) l W hq (by omega))
    have hsp := rec_spec l.length l (Nat.le_refl _)
    have HL : Hid ((recL l).1.length ≤ 100000) := by
      show (recL l).1.length ≤ 100000
      have h1 := frames_few (recL l).1
      have h2 := congrArg List.length hsp.2.2
      rw [List.length_take] at h2
      omega
    clear hq hsp
    generalize (recL l).1 = es at *
    generalize (recL l).2 = n at *
    go_enter Try.func3, Try.ntmps3
    go_wp2_with fail
    refine HP.out.mono ?_
    rintro x w1 ⟨v1, rfl, ho1, hb1⟩
    have HB1 := hideIt hb1
    have HE1 := hideIt (ownT_evq ho1)
    obtain ⟨a1, c1, rfl⟩ := own_shapeX ho1
    clear ho1 hb1
    go_wp2_with fail
    refine (HD.out _ (HQ.out.below HB1.out)).mono ?_
    rintro x w2 ⟨v2, rfl, ho2, hb2⟩
    have HB2 := hideIt (below_join HB1.out hb2)
    have HE2 := hideIt (ownT_evq ho2)
    have HE3 := hideIt (HE1.out.low hb2)
    obtain ⟨a2, c2, rfl⟩ := own_shapeX ho2
    clear ho2 hb2
    go_wp2_with fail
    refine (sameEvents_true _ _ es _ HE3.out HE2.out HL.out).mono ?_
    rintro x w3 ⟨rfl, hb3⟩
    have HB3 := hideIt (below_join HB2.out hb3)
    clear hb3
    go_wp2
    go_ret
    exact ⟨rfl, HB3.out⟩
  · have h' : (2000 : Int) < (l.length : Int) := by omega
    clear hq
    go_enter Try.func3, Try.ntmps3
    go_wp2
    go_ret
    exact ⟨rfl, Below.refl _ _⟩

end Go.Proofs.Ytdncnljcihblbaa
