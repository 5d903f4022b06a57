/-
  The statement CausalFinds, walked.
-/
import Derived.Test.YtfojmbbhcmeejaaDoorRfW
import Derived.Test.YtfojmbbhcmeejaaDoorCahW
namespace Go.Proofs.YtfojmbbhcmeejaaDoor
open Go.RowKit

theorem rkFinds_any (l : List Opn) (ok : KOk l) (a : Option Addr) (cap : Nat) (w : World) (hl : OpsQ w a l) :
    Calls Tryd.prog 16 #[.slice a l.length cap] w fun e w' => e = .returned (tripV (findsK l)) ∧ Below w.heap.size w w' := by
  rcases hl with rfl | ⟨b, off, rfl, hb, hl⟩
  · exact rkFinds_none a cap w
  · by_cases h0 : 0 < l.length
    · exact rkFinds_some l ok b off cap w h0 hl hb
    · obtain rfl : l = [] := List.length_eq_zero_iff.1 (by omega)
      exact rkFinds_none _ cap w

set_option maxRecDepth 100000 in
set_option maxHeartbeats 2000000 in
theorem cf_walk (l : List Opn) (u : Value) (w : World) (hl : ∃ a cap, u = .slice a l.length cap ∧ l.length ≤ cap ∧ l.length ≤ maxLen ∧ OpsQ w a l) (hg : ErrK w) :
    Calls Tryd.prog 4 #[u] w fun e w' => e = .returned (.bool true) ∧ Below w.heap.size w w' := by
  obtain ⟨a, cap, rfl, hcap, hml, hh⟩ := hl
  unfold maxLen at hml
  have hpos : 1 < w.heap.size := World.block_lt_of_cell? w ⟨1, 0, none⟩ hg
  by_cases h60 : 60 < l.length
  · have h60' : decide (60 < (l.length : Int)) = true := by simp; omega
    clear hh hg
    go_enter Tryd.func4, Tryd.ntmps4
    go_wp2
    go_ret
    exact ⟨rfl, Below.refl _ _⟩
  · have h60' : decide (60 < (l.length : Int)) = false := by simp; omega
    have HC1 := hideIt (rkCheck_any l a cap w (by omega) hcap hh)
    have HR : Hid (∀ w1, KOk l → Below w.heap.size w w1 → Calls Tryd.prog 16 #[.slice a l.length cap] w1 fun e w' => e = .returned (tripV (findsK l)) ∧ Below w1.heap.size w1 w') := fun w1 ok hb => rkFinds_any l ok a cap w1 (hh.below hb)
    have HF : Hid (∀ w1, Below w.heap.size w w1 → Calls Tryd.prog 17 #[.slice a l.length cap] w1 fun e w' => FdTold l w1 e w') := fun w1 hb => kFinds_any l a cap w1 (by omega) hcap (hh.below hb)
    have HBE : Hid (∀ (n : Int) (w1 : World), Below w.heap.size w w1 → Calls Tryd.prog 10 #[toldV n, .int .i64 n] w1 fun e w' => e = .returned (.bool true) ∧ Below w1.heap.size w1 w') := fun n w1 hb => bare_told n w1 ((hb.cell (p := ⟨1, 0, none⟩) hpos).trans hg)
    clear hh hg
    go_enter Tryd.func4, Tryd.ntmps4
    go_wp2_with fail
    refine HC1.out.mono ?_
    rintro e w1 ⟨n, rfl, hct, hb1⟩
    have HCT := hideIt hct
    have HB1 := hideIt hb1
    clear hct hb1 HC1
    obtain ⟨tv, HTV⟩ : ∃ tv, Hid (toldV n = tv) := ⟨_, hideIt rfl⟩
    by_cases hn : n = 0
    · subst hn
      have HOk := hideIt (kOk_of HCT.out)
      obtain ⟨x, y, z, hxyz⟩ : ∃ x y z, findsK l = (x, y, z) := ⟨_, _, _, rfl⟩
      rw [hxyz] at HR
      unfold tripV at HR
      have HX := hideIt hxyz
      clear hxyz
      go_wp2_with fail
      refine (HR.out _ HOk.out HB1.out).mono ?_
      rintro e w2 ⟨rfl, hb2⟩
      have HB2 := hideIt (belJ HB1.out hb2)
      clear hb2
      go_wp2_with fail
      refine (HF.out _ HB2.out).mono ?_
      rintro e w3 ⟨m, c, p, q, rfl, hkt, h0, _, hb3⟩
      obtain rfl := hkt.one HCT.out
      have hcpq := (h0 rfl).trans HX.out
      injection hcpq with hc hpq
      injection hpq with hp hq
      subst hc hp hq
      rw [HTV.out]
      have HB3 := hideIt (belJ HB2.out hb3)
      clear hb3 hkt h0
      go_wp2_with fail
      refine (show Calls Tryd.prog 10 #[tv, .int .i64 0] _ _ from HTV.out ▸ (HBE.out 0 _ HB3.out)).mono ?_
      rintro e w4 ⟨rfl, hb4⟩
      have b1 : (c == c) = true := by simp
      have b2 : (p == p) = true := by simp
      have b3 : (q == q) = true := by simp
      go_wp2
      go_ret
      exact ⟨by simp, belJ HB3.out hb4⟩
    · have hn' : (n == 0) = false := by simp [hn]
      go_wp2_with fail
      refine (HF.out _ HB1.out).mono ?_
      rintro e w3 ⟨m, c, p, q, rfl, hkt, _, h1, hb3⟩
      obtain rfl := hkt.one HCT.out
      obtain ⟨rfl, rfl, rfl⟩ := h1 hn
      rw [HTV.out]
      have HB3 := hideIt (belJ HB1.out hb3)
      clear hb3 hkt h1
      go_wp2_with fail
      refine (show Calls Tryd.prog 10 #[tv, .int .i64 m] _ _ from HTV.out ▸ (HBE.out m _ HB3.out)).mono ?_
      rintro e w4 ⟨rfl, hb4⟩
      go_wp2
      go_ret
      exact ⟨rfl, belJ HB3.out hb4⟩

end Go.Proofs.YtfojmbbhcmeejaaDoor
