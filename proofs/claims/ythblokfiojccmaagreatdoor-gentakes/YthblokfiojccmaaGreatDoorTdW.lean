/-
  The document's tape.
-/
import Derived.Test.YthblokfiojccmaaGreatDoorTpW
namespace Go.Proofs.YthblokfiojccmaaGreatDoor.Gn
open Go.RowKit

set_option maxHeartbeats 4000000 in
set_option maxRecDepth 100000 in
theorem dBelow_any (base B o : Nat) (n : Int) (t : Tp) (w : World) (h : TpAt w base B o t) (hu : t.u ≤ 1000000000) (hn : n < 9223372036854775808) :
    Calls Tryz.prog 16 #[.pointer (some ⟨B, o, none⟩), .int .i64 n] w fun e w' => e = .returned (.int .i64 (t.below n)) ∧ ∃ k, w' = tpTurn (w.drewN k) B o t n := by
  obtain ⟨⟨a, cap, c0, hcap, hr⟩, c1, hm, hlo⟩ := h
  have HR := hideIt hr
  have hB : B < w.heap.size := World.block_lt_of_cell? w _ c1
  by_cases h0 : n ≤ 0
  · have e1 : t.below n = 0 := by unfold Tp.below; rw [if_pos h0]
    have e2 : ∀ w, tpTurn w B o t n = w := fun w => by unfold tpTurn; rw [if_pos h0]
    have H1 := hideIt e1
    have H2 := hideIt e2
    clear e1 e2 hr
    go_enter Tryz.func16, Tryz.ntmps16
    go_wp2
    go_ret
    exact ⟨ret_int H1.out.symm, 0, (H2.out _).symm⟩
  · have e1 : t.below n = t.val n := by unfold Tp.below; rw [if_neg h0]
    have e2 : ∀ w, tpTurn w B o t n = w.setCell ⟨B, o + 1, none⟩ (.int .i64 (t.u + 1 : Nat)) := fun w => by unfold tpTurn; rw [if_neg h0]
    have H1 := hideIt e1
    have H2 := hideIt e2
    have HV := hideIt (Tp.val_wrap (t := t) (by omega : 0 < n) hn)
    clear e1 e2 hr
    by_cases hlt : t.u < t.l.length
    · have hlt' : (t.u : Int) < (t.l.length : Int) := by omega
      rcases HR.out with h0' | ⟨b, off, rfl, hb0, hc⟩
      · rw [h0'] at hlt; exact absurd hlt (Nat.not_lt_zero _)
      have cc := hc t.u hlt
      rw [← Tp.cur_in hlt] at cc
      have hbB : b ≠ B := by omega
      have hb : b < w.heap.size := by omega
      clear hc
      generalize t.cur = x at *
      go_enter Tryz.func16, Tryz.ntmps16
      go_wp2_with fail
      go_quiet (fail)
      go_wp2_with fail
      go_quiet (fail)
      go_wp2
      go_ret
      exact ⟨ret_int (by rw [H1.out]; exact HV.out), _, (H2.out _).symm⟩
    · have hlt' : ¬ (t.u : Int) < (t.l.length : Int) := by omega
      have hx := Tp.cur_out hlt
      rw [hx] at HV
      have HV' : Hid (t.val n = 0) := by
        have := HV.out
        rw [show IntKind.u64.wrap 0 = 0 by rw [wrapU]; rfl, Int.zero_tmod] at this
        have h := this.symm
        unfold wrap64 at h
        have h2 : t.val n = 0 := by simpa using h
        exact h2
      clear hx HV
      go_enter Tryz.func16, Tryz.ntmps16
      go_wp2_with fail
      go_quiet (fail)
      go_wp2
      go_ret
      exact ⟨ret_int (by rw [H1.out]; exact HV'.out.symm), _, (H2.out _).symm⟩

end Go.Proofs.YthblokfiojccmaaGreatDoor.Gn
