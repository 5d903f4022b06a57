/-
  A log's functions: walked.
-/
import Derived.Test.YtdncnljcihblbaaDoorLgM
import Derived.Deep.RegionWith
namespace Go.Proofs.YtdncnljcihblbaaDoor
open Go.RowKit

theorem logIn_add {w w3 : World} {G : Nat} {l : List Ev} {s : Nat} {e : Ev} {v3 : Value} (hL : LogIn w G l s) (hb : Below w.heap.size w w3) (hq : ByQ w3 v3 (framesL (l ++ [e]))) (ho : Off v3 G) (hty : TyB w3 v3) (he : fltE e = 0) (hf : l.length < 120) :
    LogIn ((w3.setCell ⟨G, 0, none⟩ v3).setCell ⟨G, 1, none⟩ (.int .i64 ((l.length : Int) + 1))) G (l ++ [e]) s ∧ w.grownBy ((w3.setCell ⟨G, 0, none⟩ v3).setCell ⟨G, 1, none⟩ (.int .i64 ((l.length : Int) + 1))) (some G) := by
  have h3 := hL.below hb
  obtain ⟨v0, hv0, _⟩ := h3.fr
  have h1 := h3.ev
  have h2 := h3.su
  have h4 := h3.fz
  have g1 := grown_trans (grown_set w3 ⟨G, 0, none⟩ v3) (grown_set (w3.setCell ⟨G, 0, none⟩ v3) ⟨G, 1, none⟩ (.int .i64 ((l.length : Int) + 1)))
  refine ⟨⟨?_, by simp; omega, ?_, ⟨v3, by simp [go_sem, hv0], hq.grown ho g1, ho, hty.grown g1 (fun k e => by cases e; exact ho)⟩, by simp [go_sem, h1], by simp [go_sem, h2], fun o => by simp [go_sem, h4], Nat.lt_of_lt_of_le h3.lt g1.size⟩, grown_trans (grown_of_below hb _) g1⟩
  · intro x hx
    rcases List.mem_append.1 hx with hx | hx
    · exact hL.ok x hx
    · simp at hx; subst hx; exact he
  · have := hL.le
    rw [frames_snoc, List.length_append]; omega

theorem own_form {w : World} {base : Nat} {e : TypeId} {v : Value} {n : Nat} {xs : List Value} (h : w.ownsRow base e 1 v n xs) (hn : 0 < n) : ∃ g c, v = .slice (some ⟨g, 0, none⟩) n c := by
  obtain ⟨_, ⟨_, h0⟩ | ⟨g, c, _, rfl, _⟩⟩ := h
  · omega
  · exact ⟨g, c, rfl⟩

theorem add_bad (G : Nat) (e : Ev) (w : World) (h : fltE e ≠ 0) :
    Calls Tryd.prog 16 #[.pointer (some ⟨G, 0, none⟩), e.agg] w fun r w' => r = .returned (toldV (fltE e)) ∧ Below w.heap.size w w' := by
  have ht : toldV (fltE e) = .iface 28 (.int .i64 (fltE e)) := by simp [toldV, h]
  have HE := hideIt (fun W => encode_bad e W h)
  rw [ht]
  simp only [ht] at HE
  clear ht
  generalize fltE e = f at *
  unfold Ev.agg at *
  go_enter Tryd.func16, Tryd.ntmps16
  go_wp2_with fail
  refine (HE.out _).mono ?_
  rintro x w1 ⟨rfl, hb1⟩
  have HB := hideIt (below_join (below_alloc (Below.refl w.heap.size w) _) hb1)
  clear hb1
  go_wp2
  go_ret
  exact ⟨rfl, HB.out⟩

set_option maxHeartbeats 1000000 in
set_option maxRecDepth 100000 in
theorem add_full (G : Nat) (l : List Ev) (s : Nat) (e : Ev) (w : World) (hL : LogIn w G l s) (h : fltE e = 0) (hf : 120 ≤ l.length) :
    Calls Tryd.prog 16 #[.pointer (some ⟨G, 0, none⟩), e.agg] w fun r w' => r = .returned (.iface 28 (.int .i64 4)) ∧ Below w.heap.size w w' := by
  have HE := hideIt (fun W => encode_ok e W h)
  have hev := hL.ev
  have hlt := hL.lt
  have hf' : (120 : Int) ≤ (l.length : Int) := by omega
  clear hL
  unfold Ev.agg at *
  go_enter Tryd.func16, Tryd.ntmps16
  go_wp2_with fail
  refine (HE.out _).mono ?_
  rintro x w1 ⟨v1, rfl, ho1, hb1⟩
  have HB := hideIt (below_join (below_alloc (Below.refl w.heap.size w) _) hb1)
  have hev1 := (HB.out.cell (p := ⟨G, 1, none⟩) hlt).trans hev
  clear hb1 ho1
  go_wp2
  go_ret
  exact ⟨rfl, HB.out⟩

set_option maxHeartbeats 2000000 in
set_option maxRecDepth 100000 in
theorem add_ok (G : Nat) (l : List Ev) (s : Nat) (e : Ev) (w : World) (hL : LogIn w G l s) (h : fltE e = 0) (hf : l.length < 120) :
    Calls Tryd.prog 16 #[.pointer (some ⟨G, 0, none⟩), e.agg] w fun r w' => r = .returned .nilIface ∧ LogIn w' G (l ++ [e]) s ∧ w.grownBy w' (some G) := by
  have HE := hideIt (fun W => encode_ok e W h)
  have HL := hideIt hL
  have hev := hL.ev
  have hlt := hL.lt
  have hf' : (l.length : Int) < 120 := by omega
  obtain ⟨v0, hv0, hq0, hoff, hty0⟩ := hL.fr
  obtain ⟨a0, k0, rfl⟩ := hq0.form
  have HQ0 := hideIt hq0
  have hlen := encL_len (okE_of h)
  have hfl := frames_len hL.ok
  have HBy : Hid (Byt (encL e)) := encL_byte (okE_of h)
  have HFl : Hid ((frameL (encL e)).length ≤ 100000) := by show (frameL (encL e)).length ≤ 100000; rw [frame_len]; omega
  have HFb := hideIt (frame_byte HBy.out)
  clear hL hq0 hty0
  have HEA : Hid (e.agg = .agg #[.int .i64 e.p, .int .i64 e.t, .int .i64 e.k, .int .i64 e.d, .int .i64 e.a, .int .i64 e.b, .int .i64 e.r]) := rfl
  unfold Ev.agg at *
  go_enter Tryd.func16, Tryd.ntmps16
  go_wp2_with fail
  refine (HE.out _).mono ?_
  rintro x w1 ⟨v1, rfl, ho1, hb1⟩
  have HB := hideIt (below_join (below_alloc (Below.refl w.heap.size w) _) hb1)
  have hev1 := (HB.out.cell (p := ⟨G, 1, none⟩) hlt).trans hev
  have hv1 := (HB.out.cell (p := ⟨G, 0, none⟩) hlt).trans hv0
  have hfz1 : ∀ o, w1.frozen? ⟨G, o, none⟩ = false := fun o => (HB.out.frozen (p := ⟨G, o, none⟩) hlt).trans (HL.out.fz o)
  have hz1 : G < w1.heap.size := Nat.lt_of_lt_of_le hlt HB.out.size
  obtain ⟨g1, k1, rfl⟩ := own_form ho1 (by have := encL_four e; omega)
  have hA1 := own_bys ho1
  have hc1 : (encL e).length ≤ k1 ∧ g1 < w1.heap.size := by
    obtain ⟨_, ⟨h0, _⟩ | ⟨g, c, _, h0, _, h5, h6, _⟩⟩ := ho1
    · cases h0
    · cases h0; exact ⟨h6, (Array.getElem?_eq_some_iff.1 h5).1⟩
  have HP : Hid (0 < (frameL (encL e)).length) := by show 0 < (frameL (encL e)).length; rw [frame_len]; omega
  have HY : Hid (Calls Tryd.prog 12 #[.slice (some ⟨g1, 0, none⟩) (encL e).length k1] w1.drew fun r w2 => ∃ g2 k2, r = .returned (.slice (some ⟨g2, 0, none⟩) (frameL (encL e)).length k2) ∧ ByQ w2 (.slice (some ⟨g2, 0, none⟩) (frameL (encL e)).length k2) (frameL (encL e)) ∧ Below w1.heap.size w1 w2) := by
    refine Calls.mono (frame_any g1 0 k1 (encL e) w1.drew HBy.out hc1.1 hc1.2 hA1 (by omega)) ?_
    rintro x w2 ⟨v2, rfl, ho2, hb2⟩
    obtain ⟨g2, k2, rfl⟩ := own_form ho2 HP.out
    exact ⟨g2, k2, rfl, own_byq HFb.out ho2, (below_drewN (Below.refl _ _) 1).trans hb2⟩
  have HCo : Hid (∀ (A : Nat) (W : World) (g2 k2 : Nat), A < W.heap.size → W.cell? ⟨A, 0, none⟩ = some (.slice a0 (framesL l).length k0) → W.cell? ⟨A, 1, none⟩ = some (.slice (some ⟨g2, 0, none⟩) (frameL (encL e)).length k2) → ByQ W (.slice (some ⟨g2, 0, none⟩) (frameL (encL e)).length k2) (frameL (encL e)) → Below w1.heap.size w1 W →
      Calls Tryd.prog 30 #[.slice (some ⟨A, 0, none⟩) 2 2] W fun r w3 => ∃ g3 k3, r = .returned (.slice (some ⟨g3, 0, none⟩) (framesL (l ++ [e])).length k3) ∧ ByQ w3 (.slice (some ⟨g3, 0, none⟩) (framesL (l ++ [e])).length k3) (framesL (l ++ [e])) ∧ Below w1.heap.size w1 w3 ∧ w1.heap.size ≤ g3 ∧ TyB w3 (.slice (some ⟨g3, 0, none⟩) (framesL (l ++ [e])).length k3)) := by
    intro A W g2 k2 h1 h2 h3 h4 h5
    refine (concat_any A _ _ (framesL l) (frameL (encL e)) W h1 h2 h3 (HQ0.out.below (HB.out.trans (h5.mono HB.out.size))) h4 (by omega) HFl.out).mono ?_
    rintro x w3 ⟨v3, rfl, ho3, hb3⟩
    rw [← frames_snoc] at ho3
    obtain ⟨g3, k3, rfl⟩ := own_form ho3 (by rw [frames_snoc]; have := HP.out; simp; omega)
    exact ⟨g3, k3, rfl, own_byq (by rw [frames_snoc]; exact (frames_byte HL.out.ok).append HFb.out) ho3, below_join h5 hb3, Nat.le_trans h5.size (ho3.lt g3 rfl).1, own_ty ho3⟩
  clear hb1 ho1 hev hv0 hA1 hc1
  generalize hfs : framesL (l ++ [e]) = fs at *
  have HFS := hideIt hfs.symm
  clear hfs
  generalize frameL (encL e) = fe at *
  go_wp2_with fail
  go_region_with (first
    | (go_at_call 12; refine HY.out.mono ?_; rintro x w2 ⟨g2, k2, rfl, hy2, hb2⟩; obtain ⟨hc2, hf2⟩ := bcell hb2; have HY2 := hideIt hy2; have HB2 := hideIt hb2; have hz2 := Nat.lt_of_lt_of_le hz1 hb2.size; clear hy2 hb2)
    | (go_at_call 30; refine (HCo.out _ _ g2 k2 (by simp) (by simp [go_sem]) (by simp [go_sem]) (HY2.out.below (below_alloc (Below.refl _ _) _)) (below_alloc HB2.out _)).mono ?_; rintro x w3 ⟨g3, k3, rfl, hy3, hb3, hg3, hty3⟩; obtain ⟨hc3, hf3⟩ := bcell hb3; have hz3 := Nat.lt_of_lt_of_le hz1 hb3.size))
  all_goals
    have HR := hideIt (logIn_add HL.out (below_join HB.out hb3) (show ByQ w3 (.slice (some ⟨g3, 0, none⟩) fs.length k3) (framesL (l ++ [e])) from by rw [← HFS.out]; exact hy3) (fun b o n c e => by cases e; omega) hty3 h hf)
    clear hc2 hf2 HY2 HB2 hy3 hb3 hty3
    go_wp2
    go_ret
    exact ⟨rfl, HR.out.1, HR.out.2⟩

end Go.Proofs.YtdncnljcihblbaaDoor
