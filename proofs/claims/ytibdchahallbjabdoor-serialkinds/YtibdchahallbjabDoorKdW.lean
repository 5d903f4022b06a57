/-
  The statement SerialKinds, walked.
-/
import Derived.Test.YtibdchahallbjabDoorCfW
import Derived.Test.YtibdchahallbjabDoorMxW
import Derived.Test.YtibdchahallbjabDoorInT
namespace Go.Proofs.YtibdchahallbjabDoor
open Go.RowKit

set_option maxRecDepth 100000 in
set_option maxHeartbeats 8000000 in
theorem kd_walk (l : List Stp) (a : Option Addr) (cap : Nat) (w : World) (h : InT w a cap l) :
    Calls Tryd.prog 8 #[.slice a l.length cap] w fun e w' => e = .returned (.bool true) ∧ Below w.heap.size w w' := by
  have HI := hideIt h
  have hm2 : l.length ≤ 9223372036854775807 := h.max
  clear h
  by_cases h70 : l.length ≤ 70
  · have HC := hideIt (careful_any l a cap w HI.out.max HI.out.at_)
    unfold CfTold at HC
    go_enter Tryd.func8, Tryd.ntmps8
    go_wp2_with fail
    refine HC.out.mono ?_
    clear HC
    rintro e w1 ⟨rr, rc, rs, er, n, pl, rfl, her, hck, hno, hok, hb1⟩
    have HE := hideIt her
    have HB1 := hideIt hb1
    have HK : Hid ((n = 0 → (rs = true → rc = true) ∧ (rc = true → rr = true)) ∧ (n ≠ 0 → rr = false ∧ rc = false ∧ rs = false)) := ⟨fun h0 => by
      obtain ⟨e1, e2, e3⟩ := hok h0
      subst e1 e2 e3
      exact ⟨kinds_strict, kinds_clean⟩, hno⟩
    clear her hb1 hok hno hck
    have HBa : Hid (Below w.heap.size w (w1.alloc (.cells #[.bool rr, .bool rc, .bool rs] 48))) := belA HB1.out _
    have HTa : Hid (TriB (w1.alloc (.cells #[.bool rr, .bool rc, .bool rs] 48)) w1.heap.size rr rc rs) := triB_new w1 rr rc rs
    have HM : Hid (∀ W, Below w.heap.size w W → Calls Tryd.prog 19 #[] W fun e w' => e = .returned (.bool true) ∧ Below W.heap.size W w') := fun W hW => mixes_any W (HI.out.typ.below hW)
    go_upto_region 4 with fail
    generalize w1.alloc _ = W1 at HBa HTa ⊢
    generalize w1.heap.size = B at HTa ⊢
    have HC := hideIt (HM.out W1 HBa.out)
    go_wp2_with fail
    refine HC.out.mono ?_
    clear HC
    rintro e w2 ⟨rfl, hb2⟩
    have HB2 := hideIt (belJ HBa.out hb2)
    have HT2 := hideIt (HTa.out.below hb2 HTa.out.lt)
    clear hb2 HTa HBa
    by_cases hn0 : n = 0
    · have hnil : er = .nilIface := by
        rcases HE.out with ⟨_, _, h⟩ | ⟨h, _⟩ | ⟨h, _⟩
        · exact h
        · exact absurd hn0 h
        · exact absurd hn0 h
      subst hnil
      obtain ⟨k1, k2⟩ := HK.out.1 hn0
      have c0 := HT2.out.c0
      have c1 := HT2.out.c1
      have c2 := HT2.out.c2
      clear HK HE
      cases rs
      · cases rc
        · go_wp2
          go_ret
          exact ⟨rfl, HB2.out⟩
        · obtain rfl := k2 rfl
          go_wp2
          go_ret
          exact ⟨rfl, HB2.out⟩
      · obtain rfl := k1 rfl
        obtain rfl := k2 rfl
        go_wp2
        go_ret
        exact ⟨rfl, HB2.out⟩
    · have hne : ∃ t x, er = .iface t x := by
        rcases HE.out with ⟨h, _⟩ | ⟨_, _, h⟩ | ⟨_, _, g, h, _⟩
        · exact absurd h hn0
        · exact ⟨_, _, h⟩
        · exact ⟨_, _, h⟩
      obtain ⟨t, x, rfl⟩ := hne
      obtain ⟨rfl, rfl, rfl⟩ := HK.out.2 hn0
      clear HK HE
      have HC := hideIt (HM.out w2 HB2.out)
      go_wp2_with fail
      refine HC.out.mono ?_
      clear HC
      rintro e w3 ⟨rfl, hb3⟩
      have HB3 := hideIt (belJ HB2.out hb3)
      have HT3 := HT2.out.below hb3 HT2.out.lt
      have c0 := HT3.c0
      have c1 := HT3.c1
      have c2 := HT3.c2
      clear hb3 HT3
      go_wp2
      go_ret
      exact ⟨rfl, HB3.out⟩
  · have h70' : (70 : Int) < l.length := by omega
    go_enter Tryd.func8, Tryd.ntmps8
    go_wp2
    go_ret
    exact ⟨rfl, Below.refl _ _⟩
end Go.Proofs.YtibdchahallbjabDoor
