/-
  One node, one client, one write: the fact of the statements, walked.
-/
import Derived.Test.YtncnojgemmcplaaSwS
namespace Go.Proofs.Ytncnojgemmcplaa
open Go.RowKit

def fst0 : Pst := begP (pst0 1 1 1 1 false) 0 0 true 7
def fsts : Nat → Pst
  | 0 => fst0
  | i + 1 => deliP (fsts i) 0
theorem fst_beg : begC (pst0 1 1 1 1 false) 0 0 true 7 = 0 := by decide
theorem fst_deli : ∀ i, i < 4 → deliC (fsts i) 0 = 0
  | 0, _ => by decide
  | 1, _ => by decide
  | 2, _ => by decide
  | 3, _ => by decide
theorem fst_inv : ∀ i, i ≤ 4 → PInv (fsts i) (1 + 2 * i)
  | 0, _ => (pinv0 (n := 1) (k := 1) (ask := 1) (tell := 1) false (by decide) (by decide) (by decide)).beg (by decide) 0 0 true 7
  | i + 1, h => (fst_inv i (by omega)).deli (by omega) _
theorem fst_end : (fsts 4).evs = [⟨0, 1, 0, 2, 7, 0, 0⟩, ⟨0, 2, 0, 2, 7, 0, 0⟩] := by rfl
set_option maxRecDepth 100000 in
set_option maxHeartbeats 4000000 in
theorem stores_any (w : World) : Calls Try.prog 5 #[] w fun e w' => e = .returned (.bool true) ∧ Below w.heap.size w w' := by
  have HN : Hid (Calls Try.prog 12 #[.agg #[.int .i64 1, .int .i64 1, .int .i64 1, .int .i64 1, .bool false]] w fun e w' => ∃ B N C, e = .returned (.tuple #[.pointer (some ⟨B, 0, none⟩), .nilIface]) ∧ NwAt w w' B N C 1 1 1 1 false 1 0) := new_any 1 1 1 1 false w (by decide)
  go_enter Try.func5, Try.ntmps5
  go_wp2_with fail
  refine HN.out.mono ?_
  clear HN
  rintro e W1 ⟨B, N, C, rfl, hN⟩
  have hS := sto_new (ask := 1) (tell := 1) hN
  have HBg := hideIt (begin_any hS (pinv0 false (by decide) (by decide) (by decide)).bnd 0 0 true 7)
  rw [fst_beg] at HBg
  clear hN hS
  have hz : toldE 0 = .nilIface := rfl
  rw [hz] at HBg
  clear hz
  unfold stK0 at HBg
  go_wp2_with fail
  refine HBg.out.mono ?_
  clear HBg
  rintro e W2 ⟨rfl, K, hS, hF⟩
  have HS : Hid (StoP w W2 K (fsts 0) ∧ K.B = B) := ⟨hS, hF.B.1⟩
  clear hS hF
  go_wp2
  go_loopw [3] (fun v wr => ∃ (i : Nat) (K : StK), i ≤ 4 ∧ v = .int .i64 i ∧ StoP w wr K (fsts i) ∧ K.B = B) (fun v _ => 4 - (intOf v).toNat)
  case atStart => exact ⟨0, _, Nat.zero_le _, rfl, HS.out.1, HS.out.2⟩
  case round =>
    clear HS K
    obtain ⟨i, K, hi, rfl, hS, hKB⟩ := hrel
    subst hKB
    have HS := hideIt hS
    clear hS
    by_cases hil : i < 4
    · have hil' : (i : Int) < 4 := by omega
      have HC := hideIt (deliver_any HS.out (fst_inv i hi).bnd 0)
      rw [fst_deli i hil] at HC
      have hz : toldE 0 = .nilIface := rfl
      rw [hz] at HC
      clear hz
      go_wp2_with fail
      refine HC.out.mono ?_
      clear HC
      rintro e W3 ⟨rfl, K2, h2, h3⟩
      have HK2 : Hid (K2.B = K.B) := h3.B.1
      have HS2 : Hid (StoP w W3 K2 (fsts (i + 1))) := h2
      clear h2 h3
      go_wp2
      go_roundw
      case rel => exact ⟨i + 1, K2, by omega, by go_num, HS2.out, HK2.out⟩
      case measure => simp [intOf]; omega
    · have hi4 : i = 4 := by omega
      have hS4 : StoP w wr K (fsts 4) := by have := HS.out; rw [hi4] at this; exact this
      have hd : ¬ (i : Int) < 4 := by omega
      have HE := hideIt (events_any hS4 (by rw [fst_end]; decide))
      rw [fst_end] at HE
      have HBw := hideIt hS4.bel
      clear hS4 hi4 HS hil
      go_wp2_with fail
      refine HE.out.mono ?_
      clear HE
      rintro e W3 ⟨v', rfl, ho, hb⟩
      have HBe := hideIt (belJ HBw.out hb)
      rcases own_cells ho with ⟨_, e⟩ | ⟨g, cap, rfl, _, _, hc⟩
      · exact absurd e (by decide)
      · have d8 : W3.cell? ⟨g, 8, none⟩ = some (.int .i64 2) := hc 8 (by decide)
        have d11 : W3.cell? ⟨g, 11, none⟩ = some (.int .i64 7) := hc 11 (by decide)
        clear hc ho hb HBw
        go_wp2
        go_ret
        exact ⟨rfl, HBe.out⟩
end Go.Proofs.Ytncnojgemmcplaa
