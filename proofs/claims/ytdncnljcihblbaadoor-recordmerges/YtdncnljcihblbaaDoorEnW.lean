/-
  An event written as bytes: the program's way, walked.
-/
import Derived.Test.YtdncnljcihblbaaDoorApN
import Derived.Test.YtdncnljcihblbaaDoorWalkAZ
namespace Go.Proofs.YtdncnljcihblbaaDoor
open Go.RowKit

def Ev.agg (e : Ev) : Value := .agg #[.int .i64 e.p, .int .i64 e.t, .int .i64 e.k, .int .i64 e.d, .int .i64 e.a, .int .i64 e.b, .int .i64 e.r]
/-- What is written so far. -/
def encK (e : Ev) : Nat → List Nat
  | 0 => [e.p.toNat, e.t.toNat, e.k.toNat, e.d.toNat]
  | 1 => [e.p.toNat, e.t.toNat, e.k.toNat, e.d.toNat] ++ varL (zzN e.a)
  | 2 => ([e.p.toNat, e.t.toNat, e.k.toNat, e.d.toNat] ++ varL (zzN e.a)) ++ varL (zzN e.b)
  | _ => (([e.p.toNat, e.t.toNat, e.k.toNat, e.d.toNat] ++ varL (zzN e.a)) ++ varL (zzN e.b)) ++ varL (zzN e.r)
theorem encK_three (e : Ev) : encK e 3 = encL e := by simp [encK, encL]
theorem encK_len {e : Ev} (h : OkE e) (k : Nat) : (encK e k).length ≤ 1000 := by
  have h1 := varL_len (zzN_lt h.a); have h2 := varL_len (zzN_lt h.b); have h3 := varL_len (zzN_lt h.r)
  unfold encK
  split <;> simp <;> omega

set_option maxHeartbeats 1000000 in
theorem encode_bad (e : Ev) (w : World) (h : fltE e ≠ 0) :
    Calls Tryd.prog 9 #[e.agg] w fun r w' => r = .returned (.tuple #[.slice none 0 0, toldV (fltE e)]) ∧ Below w.heap.size w w' := by
  have HC := hideIt (check_any e.p e.t e.k e.d e.a e.b e.r)
  have ht : toldV (fltE e) = .iface 28 (.int .i64 (fltE e)) := by simp [toldV, h]
  unfold Ev.agg
  rw [ht]
  have HT : Hid (toldV (faultN e.p e.t e.k e.d e.a e.b e.r) = .iface 28 (.int .i64 (fltE e))) := ht
  clear ht
  generalize fltE e = f at *
  go_enter Tryd.func9, Tryd.ntmps9
  go_wp2_with (go_at_call 23; refine (HC.out _).mono ?_; rw [HT.out]; rintro x w' ⟨rfl, rfl⟩)
  go_ret2
  exact ⟨rfl, below_alloc (below_alloc (below_alloc (Below.refl _ _) _) _) _⟩

theorem idx3 (a b r : Int) (w : World) : (Instr.index 64 (.agg #[.int .i64 a, .int .i64 b, .int .i64 r]) (.int .i64 0)).run Tryd.prog w = .ok (.int .i64 a) w ∧ (Instr.index 64 (.agg #[.int .i64 a, .int .i64 b, .int .i64 r]) (.int .i64 1)).run Tryd.prog w = .ok (.int .i64 b) w ∧ (Instr.index 64 (.agg #[.int .i64 a, .int .i64 b, .int .i64 r]) (.int .i64 2)).run Tryd.prog w = .ok (.int .i64 r) w :=
  ⟨by kernel_rfl, by kernel_rfl, by kernel_rfl⟩

set_option maxHeartbeats 1000000 in
set_option maxRecDepth 100000 in
theorem encode_ok (e : Ev) (w : World) (h : fltE e = 0) :
    Calls Tryd.prog 9 #[e.agg] w fun r w' => ∃ v, r = .returned (.tuple #[v, .nilIface]) ∧ w'.ownsRow w.heap.size 5 1 v (encL e).length (byCs (encL e)) ∧ Below w.heap.size w w' := by
  have HC := hideIt (check_any e.p e.t e.k e.d e.a e.b e.r)
  have ht : toldV (fltE e) = .nilIface := by simp [toldV, h]
  have HT : Hid (toldV (faultN e.p e.t e.k e.d e.a e.b e.r) = .nilIface) := ht
  have hk := okE_of h
  have HK := hideIt (encK_len hk)
  have H3 := hideIt (encK_three e)
  clear ht h
  obtain ⟨p, t, k, d, a, b, r⟩ := e
  obtain ⟨hp, htt, hkk, hd, ha, hb, hr⟩ := hk
  simp only at hp htt hkk hd ha hb hr
  obtain ⟨p, rfl⟩ := Int.eq_ofNat_of_zero_le hp.1
  obtain ⟨t, rfl⟩ := Int.eq_ofNat_of_zero_le (show 0 ≤ t by omega)
  obtain ⟨k, rfl⟩ := Int.eq_ofNat_of_zero_le hkk.1
  obtain ⟨d, rfl⟩ := Int.eq_ofNat_of_zero_le (show 0 ≤ d by omega)
  unfold Ev.agg
  rw [← H3.out]
  have E0 := hideIt (show encK ⟨p, t, k, d, a, b, r⟩ 0 = [p, t, k, d] from rfl)
  have E1 := hideIt (show encK ⟨p, t, k, d, a, b, r⟩ 1 = encK ⟨p, t, k, d, a, b, r⟩ 0 ++ varL (zzN a) from rfl)
  have E2 := hideIt (show encK ⟨p, t, k, d, a, b, r⟩ 2 = encK ⟨p, t, k, d, a, b, r⟩ 1 ++ varL (zzN b) from rfl)
  have E3 := hideIt (show encK ⟨p, t, k, d, a, b, r⟩ 3 = encK ⟨p, t, k, d, a, b, r⟩ 2 ++ varL (zzN r) from rfl)
  generalize encK ⟨p, t, k, d, a, b, r⟩ = N at *
  clear H3
  simp only at HC HT
  go_enter Tryd.func9, Tryd.ntmps9
  go_wp2_with (go_at_call 23; refine (HC.out _).mono ?_; rw [HT.out]; rintro x w' ⟨rfl, rfl⟩)
  generalize hW : ((((w.alloc _).alloc _).alloc _).alloc _) = W
  have hown0 : W.ownsRow w.heap.size 5 1 (.slice (some ⟨w.heap.size + 1 + 1 + 1, 0, none⟩) 4 4) (N 0).length (byCs (N 0)) := by
    rw [E0.out, ← hW]
    have := World.ownsRow_lit (base := w.heap.size) (e := 5) (size := 1) (((w.alloc (.cells #[.int .i64 p, .int .i64 t, .int .i64 k, .int .i64 d, .int .i64 a, .int .i64 b, .int .i64 r] 23)).alloc (.cells #[.int .i64 p, .int .i64 t, .int .i64 k, .int .i64 d, .int .i64 a, .int .i64 b, .int .i64 r] 23)).alloc (.cells #[.int .i64 p, .int .i64 t, .int .i64 k, .int .i64 d, .int .i64 a, .int .i64 b, .int .i64 r] 23)) #[.int .u8 p, .int .u8 t, .int .u8 k, .int .u8 d] 4 (by simp; omega) (by decide) rfl
    simpa [byCs] using this
  have hbel0 : Below w.heap.size w W := by rw [← hW]; exact below_alloc (below_alloc (below_alloc (below_alloc (Below.refl _ _) _) _) _) _
  have HO0 := hideIt hown0
  have HB0 := hideIt hbel0
  clear hown0 hbel0 hW
  go_loopw [5, 33] (fun v i wr => ∃ j : Nat, j ≤ 3 ∧ i = .int .i64 j ∧ wr.ownsRow w.heap.size 5 1 v (N j).length (byCs (N j)) ∧ Below w.heap.size w wr) (fun _ i _ => 3 - (intOf i).toNat)
  case atStart => exact ⟨0, by omega, rfl, HO0.out, HB0.out⟩
  case round =>
    obtain ⟨j, hj, rfl, hown, hnx⟩ := hrel
    have HO := hideIt hown
    have HN := hideIt hnx
    clear hown hnx HO0 HB0
    obtain ⟨ix0, ix1, ix2⟩ := idx3 a b r wr
    have hj4 : j = 0 ∨ j = 1 ∨ j = 2 ∨ j = 3 := by omega
    rcases hj4 with rfl | rfl | rfl | rfl
    · go_wp2_with fail
      refine (appendNumber_any _ w.heap.size (N 0) a _ HO.out HN.out.size ha (HK.out 0)).mono ?_
      rintro x w1 ⟨v', rfl, ho, hb1⟩
      have H1 := hideIt ho
      have H2 := hideIt (HN.out.trans hb1)
      clear ho hb1
      go_wp2
      go_roundw
      case rel => exact ⟨1, by omega, rfl, by rw [E1.out]; exact H1.out, H2.out⟩
      case measure => simp [intOf]
    · go_wp2_with fail
      refine (appendNumber_any _ w.heap.size (N 1) b _ HO.out HN.out.size hb (HK.out 1)).mono ?_
      rintro x w1 ⟨v', rfl, ho, hb1⟩
      have H1 := hideIt ho
      have H2 := hideIt (HN.out.trans hb1)
      clear ho hb1
      go_wp2
      go_roundw
      case rel => exact ⟨2, by omega, rfl, by rw [E2.out]; exact H1.out, H2.out⟩
      case measure => simp [intOf]
    · go_wp2_with fail
      refine (appendNumber_any _ w.heap.size (N 2) r _ HO.out HN.out.size hr (HK.out 2)).mono ?_
      rintro x w1 ⟨v', rfl, ho, hb1⟩
      have H1 := hideIt ho
      have H2 := hideIt (HN.out.trans hb1)
      clear ho hb1
      go_wp2
      go_roundw
      case rel => exact ⟨3, by omega, rfl, by rw [E3.out]; exact H1.out, H2.out⟩
      case measure => simp [intOf]
    · go_wp2
      go_ret2
      exact ⟨_, rfl, HO.out, HN.out⟩

end Go.Proofs.YtdncnljcihblbaaDoor
