/-
  The statement QueueFinds, walked.
-/
import Derived.Test.YtelndpbkheoeaaaDoorRbWZ
import Derived.Test.YtelndpbkheoeaaaDoorCrWZ
namespace Go.Proofs.YtelndpbkheoeaaaDoor
open Go.RowKit

set_option maxHeartbeats 400000 in
theorem rqCheck_none (a : Option Addr) (cap : Nat) (w : World) : Calls Tryd.prog 14 #[.slice a 0 cap] w fun e w' => e = .returned (.int .i64 0) ∧ Below w.heap.size w w' := by
  go_enter Tryd.func14, Tryd.ntmps14
  go_wp2_with (go_at_call 27; refine (opsCheck_none a cap _).mono ?_; rintro e w' ⟨rfl, rfl⟩)
  refine wp_loop_rounds 1 ?_
  rw [rounds_succ]
  go_wp2
  go_ret
  exact ⟨rfl, Below.refl _ _⟩

theorem rqCheck_any (l : List Opn) (a : Option Addr) (cap : Nat) (w : World) (hlen : l.length ≤ 60) (hcap : l.length ≤ cap) (hl : OpsQ w a l) :
    Calls Tryd.prog 14 #[.slice a l.length cap] w fun e w' => ∃ n, e = .returned (.int .i64 n) ∧ CTold qFormB 9 l n ∧ Below w.heap.size w w' := by
  rcases hl with rfl | ⟨b, off, rfl, hb, hl⟩
  · exact (rqCheck_none a cap w).mono fun e w' ⟨he, hw⟩ => ⟨0, he, cTold_all told_nilQ (fun j hj => absurd hj (by simp)), hw⟩
  · by_cases h0 : 0 < l.length
    · exact rqCheck_some l b off cap w hlen h0 hcap hl hb
    · obtain rfl : l = [] := List.length_eq_zero_iff.1 (by omega)
      exact (rqCheck_none _ cap w).mono fun e w' ⟨he, hw⟩ => ⟨0, he, cTold_all told_nilQ (fun j hj => absurd hj (by simp)), hw⟩

set_option maxHeartbeats 1000000 in
theorem rFinds_none (a : Option Addr) (cap : Nat) (w : World) : Calls Tryd.prog 15 #[.slice a 0 cap] w fun e w' => e = .returned (.tuple #[.int .i64 0, .int .i64 0, .int .i64 0]) ∧ Below w.heap.size w w' := by
  go_enter Tryd.func15, Tryd.ntmps15
  go_wp2
  go_loopw [5] (fun j wr => ∃ c : Nat, 1 ≤ c ∧ c ≤ 5 ∧ j = .int .i64 c ∧ wr = w) (fun j _ => 6 - (intOf j).toNat)
  case atStart => exact ⟨1, by omega, by omega, rfl, rfl⟩
  case round =>
    obtain ⟨c, hc1, hc5, rfl, rfl⟩ := hrel
    by_cases hc : c ≤ 4
    · have hcI : (c : Int) ≤ 4 := by omega
      go_wp2
      refine wp_loop_rounds 1 ?_
      rw [rounds_succ]
      go_wp2
      go_roundw
      case rel => exact ⟨c + 1, by omega, by omega, by go_num, trivial⟩
      case measure => simp [intOf]; omega
    · have hcI : ¬ (c : Int) ≤ 4 := by omega
      go_wp2
      go_ret3
      exact ⟨rfl, Below.refl _ _⟩

theorem rFinds_any (l : List Opn) (a : Option Addr) (cap : Nat) (w : World) (ok : QOk l) (hlen : l.length ≤ 60) (hl : OpsQ w a l) :
    Calls Tryd.prog 15 #[.slice a l.length cap] w fun e w' => ∃ c p q, e = .returned (.tuple #[.int .i64 c, .int .i64 p, .int .i64 q]) ∧ FindsT l c p q ∧ Below w.heap.size w w' := by
  rcases hl with rfl | ⟨b, off, rfl, hb, hl⟩
  · exact (rFinds_none a cap w).mono fun e w' ⟨he, hw⟩ => ⟨0, 0, 0, he, .inl ⟨rfl, rfl, rfl, fun c _ _ i k hi => absurd hi (by simp)⟩, hw⟩
  · exact rFinds_some l b off cap w ok hlen hl hb

def ErrAt (w : World) : Prop := w.cell? ⟨1, 0, none⟩ = some (.iface 181 (.agg #[.pointer (some ⟨5, 29, none⟩)]))

set_option maxRecDepth 100000 in
set_option maxHeartbeats 2000000 in
theorem qf_walk (ops : List Opn) (u : Value) (w : World) (hl : ∃ a cap, u = .slice a ops.length cap ∧ ops.length ≤ cap ∧ ops.length ≤ maxLen ∧ OpsQ w a ops) (hg : ErrAt w) :
    Calls Tryd.prog 5 #[u] w fun e w' => e = .returned (.bool true) ∧ Below w.heap.size w w' := by
  obtain ⟨a, cap, rfl, hcap, hml, hh⟩ := hl
  unfold maxLen at hml
  have hpos : 1 < w.heap.size := World.block_lt_of_cell? w ⟨1, 0, none⟩ hg
  by_cases h60 : 60 < ops.length
  · have h60' : decide (60 < (ops.length : Int)) = true := by simp; omega
    clear hh hg
    go_enter Tryd.func5, Tryd.ntmps5
    go_wp2
    go_ret
    exact ⟨rfl, Below.refl _ _⟩
  · have h60' : decide (60 < (ops.length : Int)) = false := by simp; omega
    have HC1 := hideIt (rqCheck_any ops a cap w (by omega) hcap hh)
    have HR : Hid (∀ w1, QOk ops → Below w.heap.size w w1 → Calls Tryd.prog 15 #[.slice a ops.length cap] w1 fun e w' => ∃ c p q, e = .returned (.tuple #[.int .i64 c, .int .i64 p, .int .i64 q]) ∧ FindsT ops c p q ∧ Below w1.heap.size w1 w') := fun w1 ok hb => rFinds_any ops a cap w1 ok (by omega) (hh.below hb)
    have HF : Hid (∀ w1, Below w.heap.size w w1 → Calls Tryd.prog 16 #[.slice a ops.length cap] w1 fun e w' => FnTold ops w1 e w') := fun w1 hb => finds_any ops a cap w1 (by omega) hcap (hh.below hb)
    have HK : Hid (∀ w1, Below w.heap.size w w1 → Calls Tryd.prog 17 #[.slice a ops.length cap] w1 fun e w' => ∃ n, e = .returned (toldV n) ∧ CTold qFormB 9 ops n ∧ Below w1.heap.size w1 w') := fun w1 hb => qCheck_any ops a cap w1 (by omega) hcap (hh.below hb)
    have HBE : Hid (∀ (n : Int) (w1 : World), Below w.heap.size w w1 → Calls Tryd.prog 9 #[toldV n, .int .i64 n] w1 fun e w' => e = .returned (.bool true) ∧ Below w1.heap.size w1 w') := fun n w1 hb => bare_told n w1 ((hb.cell (p := ⟨1, 0, none⟩) hpos).trans hg)
    clear hh hg
    go_enter Tryd.func5, Tryd.ntmps5
    go_wp2_with fail
    refine HC1.out.mono ?_
    rintro e w1 ⟨n, rfl, hct, hb1⟩
    have HCT := hideIt hct
    have HB1 := hideIt hb1
    clear hct hb1 HC1
    have tail_ : Hid (∀ (w2 : World), Below w.heap.size w w2 → ∀ e w3, FnTold ops w2 e w3 → ∃ c p q, e = .returned (.tuple #[.int .i64 c, .int .i64 p, .int .i64 q, toldV n]) ∧ (n = 0 → FindsT ops c p q) ∧ (n ≠ 0 → c = 0 ∧ p = 0 ∧ q = 0) ∧ Below w.heap.size w w3) := fun w2 hb2 e w3 ⟨n', c, p, q, he, ht, h0, h1, hb3⟩ => by
      obtain rfl := ht.one HCT.out
      exact ⟨c, p, q, he, h0, h1, hb2.trans (hb3.mono hb2.size)⟩
    by_cases hn : n = 0
    · subst hn
      have ok := hideIt (qOk_of HCT.out)
      go_wp2_with fail
      refine (HR.out _ ok.out HB1.out).mono ?_
      rintro e w2 ⟨x, y, z, rfl, hxyz, hb2⟩
      have HXYZ := hideIt hxyz
      have HB2 := hideIt (HB1.out.trans (hb2.mono HB1.out.size))
      clear hxyz hb2
      go_wp2_with fail
      refine (HF.out _ HB2.out).mono ?_
      intro e w3 hfn
      obtain ⟨c, p, q, rfl, h0, _, hb3⟩ := tail_.out w2 HB2.out e w3 hfn
      obtain ⟨rfl, rfl, rfl⟩ := (h0 trivial).one HXYZ.out
      have HB3 := hideIt hb3
      clear hfn h0 hb3
      obtain ⟨tv, HTV⟩ : ∃ tv, Hid (toldV 0 = tv) := ⟨_, hideIt rfl⟩
      rw [HTV.out]
      go_wp2_with fail
      refine (show Calls Tryd.prog 9 #[tv, .int .i64 0] _ _ from HTV.out ▸ (HBE.out 0 _ HB3.out)).mono ?_
      rintro e w4 ⟨rfl, hb4⟩
      have HB4 := hideIt (HB3.out.trans (hb4.mono HB3.out.size))
      clear hb4
      go_wp2_with fail
      refine (HK.out _ HB4.out).mono ?_
      rintro e w5 ⟨n5, rfl, hct5, hb5⟩
      have hn5 : n5 = 0 := hct5.one HCT.out
      rw [hn5, HTV.out]
      have HB5 := hideIt (HB4.out.trans (hb5.mono HB4.out.size))
      clear hct5 hb5 hn5
      go_wp2_with fail
      refine (show Calls Tryd.prog 9 #[tv, .int .i64 0] _ _ from HTV.out ▸ (HBE.out 0 _ HB5.out)).mono ?_
      rintro e w6 ⟨rfl, hb6⟩
      have HB6 := hideIt (HB5.out.trans (hb6.mono HB5.out.size))
      clear hb6
      go_wp2
      go_ret
      exact ⟨rfl, HB6.out⟩
    · have hn' : (n == 0) = false := by simp [hn]
      go_wp2_with fail
      refine (HF.out _ HB1.out).mono ?_
      intro e w3 hfn
      obtain ⟨c, p, q, rfl, _, h1, hb3⟩ := tail_.out w1 HB1.out e w3 hfn
      obtain ⟨rfl, rfl, rfl⟩ := h1 hn
      have HB3 := hideIt hb3
      clear hfn h1 hb3
      obtain ⟨tv, HTV⟩ : ∃ tv, Hid (toldV n = tv) := ⟨_, hideIt rfl⟩
      rw [HTV.out]
      go_wp2_with fail
      refine (show Calls Tryd.prog 9 #[tv, .int .i64 n] _ _ from HTV.out ▸ (HBE.out n _ HB3.out)).mono ?_
      rintro e w4 ⟨rfl, hb4⟩
      have HB4 := hideIt (HB3.out.trans (hb4.mono HB3.out.size))
      clear hb4
      go_wp2_with fail
      refine (HK.out _ HB4.out).mono ?_
      rintro e w5 ⟨n5, rfl, hct5, hb5⟩
      have hn5 : n5 = n := hct5.one HCT.out
      rw [hn5, HTV.out]
      have HB5 := hideIt (HB4.out.trans (hb5.mono HB4.out.size))
      clear hct5 hb5 hn5
      go_wp2_with fail
      refine (show Calls Tryd.prog 9 #[tv, .int .i64 n] _ _ from HTV.out ▸ (HBE.out n _ HB5.out)).mono ?_
      rintro e w6 ⟨rfl, hb6⟩
      have HB6 := hideIt (HB5.out.trans (hb6.mono HB5.out.size))
      clear hb6
      go_wp2
      go_ret
      exact ⟨rfl, HB6.out⟩

end Go.Proofs.YtelndpbkheoeaaaDoor
