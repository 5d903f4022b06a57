/-
  The program's tape: what it gives next.
-/
import Derived.Test.YthblokfiojccmaaGreatDoorGnM
namespace Go.Proofs.YthblokfiojccmaaGreatDoor.Gn
open Go.RowKit

theorem Tp.cur_in {t : Tp} (h : t.u < t.l.length) : t.cur = t.l[t.u] := by unfold Tp.cur; rw [dif_pos h]
theorem Tp.cur_out {t : Tp} (h : ¬ t.u < t.l.length) : t.cur = 0 := by unfold Tp.cur; rw [dif_neg h]
theorem wrapU (a : Int) : IntKind.u64.wrap a = a % 18446744073709551616 := by rw [IntKind.wrap_u64]
/-- The last steps: both numbers without a sign, modulo, and back. -/
theorem Tp.val_wrap {t : Tp} {n : Int} (h0 : 0 < n) (h1 : n < 9223372036854775808) : wrap64 ((IntKind.u64.wrap t.cur).tmod n) = t.val n := by
  unfold Tp.val
  rw [wrapU]
  have h2 : 0 ≤ t.cur % 18446744073709551616 := Int.emod_nonneg _ (by omega)
  rw [Int.tmod_eq_emod_of_nonneg h2]
  have h3 := Int.emod_nonneg (t.cur % 18446744073709551616) (show n ≠ 0 by omega)
  have h4 := Int.emod_lt_of_pos (t.cur % 18446744073709551616) h0
  unfold wrap64
  omega

/-- What a turn of the tape leaves. -/
def tpTurn (w : World) (B o : Nat) (t : Tp) (n : Int) : World := if n ≤ 0 then w else w.setCell ⟨B, o + 1, none⟩ (.int .i64 (t.u + 1 : Nat))

set_option maxHeartbeats 4000000 in
set_option maxRecDepth 100000 in
theorem tBelow_any (base B o : Nat) (n : Int) (t : Tp) (w : World) (h : TpAt w base B o t) (hu : t.u ≤ 1000000000) (hn : n < 9223372036854775808) :
    Calls Tryz.prog 118 #[.pointer (some ⟨B, o, none⟩), .int .i64 n] w fun e w' => e = .returned (.int .i64 (t.below n)) ∧ ∃ k, w' = tpTurn (w.drewN k) B o t n := by
  obtain ⟨⟨a, cap, c0, hcap, hr⟩, c1, hm, hlo⟩ := h
  have HR := hideIt hr
  have hB : B < w.heap.size := World.block_lt_of_cell? w _ c1
  by_cases h0 : n ≤ 0
  · have e1 : t.below n = 0 := by unfold Tp.below; rw [if_pos h0]
    have e2 : ∀ w, tpTurn w B o t n = w := fun w => by unfold tpTurn; rw [if_pos h0]
    have H1 := hideIt e1
    have H2 := hideIt e2
    clear e1 e2 hr
    go_enter Tryz.func118, Tryz.ntmps118
    go_wp2
    go_ret
    exact ⟨ret_int H1.out.symm, 0, (H2.out _).symm⟩
  · have e1 : t.below n = t.val n := by unfold Tp.below; rw [if_neg h0]
    have e2 : ∀ w, tpTurn w B o t n = w.setCell ⟨B, o + 1, none⟩ (.int .i64 (t.u + 1 : Nat)) := fun w => by unfold tpTurn; rw [if_neg h0]
    have H1 := hideIt e1
    have H2 := hideIt e2
    have HV := hideIt (Tp.val_wrap (t := t) (by omega : 0 < n) hn)
    clear e1 e2 hr
    by_cases hlt : t.u < t.l.length
    · have hlt' : (t.u : Int) < (t.l.length : Int) := by omega
      rcases HR.out with h0' | ⟨b, off, rfl, hb0, hc⟩
      · rw [h0'] at hlt; exact absurd hlt (Nat.not_lt_zero _)
      have cc := hc t.u hlt
      rw [← Tp.cur_in hlt] at cc
      have hbB : b ≠ B := by omega
      have hb : b < w.heap.size := by omega
      clear hc
      generalize t.cur = x at *
      go_enter Tryz.func118, Tryz.ntmps118
      go_wp2_with fail
      go_quiet (fail)
      go_wp2_with fail
      go_quiet (fail)
      go_wp2
      go_ret
      exact ⟨ret_int (by rw [H1.out]; exact HV.out), _, (H2.out _).symm⟩
    · have hlt' : ¬ (t.u : Int) < (t.l.length : Int) := by omega
      have hx := Tp.cur_out hlt
      rw [hx] at HV
      have HV' : Hid (t.val n = 0) := by
        have := HV.out
        rw [show IntKind.u64.wrap 0 = 0 by rw [wrapU]; rfl, Int.zero_tmod] at this
        have h := this.symm
        unfold wrap64 at h
        have h2 : t.val n = 0 := by simpa using h
        exact h2
      clear hx HV
      go_enter Tryz.func118, Tryz.ntmps118
      go_wp2_with fail
      go_quiet (fail)
      go_wp2
      go_ret
      exact ⟨ret_int (by rw [H1.out]; exact HV'.out.symm), _, (H2.out _).symm⟩

theorem frozen_setCell (w : World) (p q : Addr) (v : Value) : (w.setCell p v).frozen? q = w.frozen? q := by
  simp [go_sem]
/-- What turns in another block alone, one's own. -/
theorem TpAt.other {w w' : World} {base B o : Nat} {t : Tp} {row : Option Nat} (h : TpAt w base B o t) (hg : w.grownBy w' row) (hne : ∀ b, row = some b → b ≠ B ∧ base ≤ b) : TpAt w' base B o t := by
  have hlt := h.lt
  obtain ⟨⟨a, cap, c0, hcap, hr⟩, c1, hm, hlo⟩ := h
  have hbk := hg.block B hlt (fun e => (hne B e.symm).1 rfl)
  refine ⟨⟨a, cap, (World.cell?_of_block (a := ⟨B, o, none⟩) hbk).trans c0, hcap, ?_⟩, (World.cell?_of_block (a := ⟨B, o + 1, none⟩) hbk).trans c1, (World.frozen?_of_block (a := ⟨B, o + 1, none⟩) hbk).trans hm, hlo⟩
  refine hr.imp id fun ⟨b, off, e, hb, hcc⟩ => ⟨b, off, e, hb, fun i hi => ?_⟩
  have hbk2 := hg.block b (by omega) (fun e => by have := (hne b e.symm).2; omega)
  exact (World.cell?_of_block (a := ⟨b, off + i, none⟩) hbk2).trans (hcc i hi)
theorem grown_drewN (w : World) (k : Nat) : w.grownBy (w.drewN k) none := ⟨rfl, rfl, rfl, Nat.le_refl _, fun _ _ _ => rfl⟩
theorem TpAt.drewN {w : World} {base B o : Nat} {t : Tp} (h : TpAt w base B o t) (k : Nat) : TpAt (w.drewN k) base B o t := h.other (grown_drewN w k) (fun _ e => by cases e)
theorem TpAt.turn {w : World} {base B o : Nat} {t : Tp} (h : TpAt w base B o t) (n : Int) (k : Nat) : TpAt (tpTurn (w.drewN k) B o t n) base B o (t.on n) := by
  unfold tpTurn Tp.on
  split
  · exact h.drewN k
  · have hlt := h.lt
    obtain ⟨⟨a, cap, c0, hcap, hr⟩, c1, hm, hlo⟩ := h
    refine ⟨⟨a, cap, by simpa [go_sem] using c0, hcap, hr.imp id fun ⟨b, off, e, hb, hcc⟩ => ⟨b, off, e, hb, fun i hi => ?_⟩⟩, World.cell?_setCell_same' _ _ _ (by rw [show (w.drewN k).cell? ⟨B, o + 1, none⟩ = _ from c1]; rfl), by rw [frozen_setCell]; exact hm, hlo⟩
    have := hcc i hi
    exact (World.cell?_setCell_other _ _ _ _ (by intro e; simp only [Addr.mk.injEq] at e; omega)).trans this
theorem grown_turn (w : World) (B o : Nat) (t : Tp) (n : Int) (k : Nat) : w.grownBy (tpTurn (w.drewN k) B o t n) (some B) := by
  unfold tpTurn
  split
  · exact ⟨rfl, rfl, rfl, Nat.le_refl _, fun _ _ _ => rfl⟩
  · have := grown_set (w.drewN k) ⟨B, o + 1, none⟩ (.int .i64 (t.u + 1 : Nat))
    exact ⟨rfl, rfl, rfl, by simp [World.setCell, World.drewN], fun j hj hne => this.block j (by simpa [World.drewN] using hj) hne⟩
end Go.Proofs.YthblokfiojccmaaGreatDoor.Gn
