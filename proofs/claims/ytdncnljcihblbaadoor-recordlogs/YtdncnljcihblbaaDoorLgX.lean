/-
  A log's Add once more, with where its frames lie; bytes appended to a row of one's own, with where it lies.
-/
import Derived.Test.YtdncnljcihblbaaDoorLgV
namespace Go.Proofs.YtdncnljcihblbaaDoor
open Go.RowKit

/-- The frames of a log lie from a block on. -/
def FrNew (B : Nat) (W : World) (G : Nat) : Prop := ∀ v, W.cell? ⟨G, 0, none⟩ = some v → ∀ b o n c, v = .slice (some ⟨b, o, none⟩) n c → B ≤ b
theorem frNew_set {W : World} {G B g n k : Nat} {u v1 : Value} (hc : W.cell? ⟨G, 0, none⟩ = some u) (hg : B ≤ g) : FrNew B ((W.setCell ⟨G, 0, none⟩ (.slice (some ⟨g, 0, none⟩) n k)).setCell ⟨G, 1, none⟩ v1) G := by
  intro v hv b o n' c e
  have h0 : ((W.setCell ⟨G, 0, none⟩ (.slice (some ⟨g, 0, none⟩) n k)).setCell ⟨G, 1, none⟩ v1).cell? ⟨G, 0, none⟩ = some (.slice (some ⟨g, 0, none⟩) n k) := by simp [go_sem, hc]
  rw [h0] at hv
  cases hv
  cases e
  exact hg

set_option maxHeartbeats 2000000 in
set_option maxRecDepth 100000 in
theorem add_ok2 (G : Nat) (l : List Ev) (s : Nat) (e : Ev) (w : World) (hL : LogIn w G l s) (h : fltE e = 0) (hf : l.length < 120) :
    Calls Tryd.prog 16 #[.pointer (some ⟨G, 0, none⟩), e.agg] w fun r w' => r = .returned .nilIface ∧ LogIn w' G (l ++ [e]) s ∧ w.grownBy w' (some G) ∧ FrNew w.heap.size w' G := by
  have HE := hideIt (fun W => encode_ok e W h)
  have HL := hideIt hL
  have hev := hL.ev
  have hlt := hL.lt
  have hf' : (l.length : Int) < 120 := by omega
  obtain ⟨v0, hv0, hq0, hoff, hty0⟩ := hL.fr
  obtain ⟨a0, k0, rfl⟩ := hq0.form
  have HQ0 := hideIt hq0
  have hlen := encL_len (okE_of h)
  have hfl := frames_len hL.ok
  have HBy : Hid (Byt (encL e)) := encL_byte (okE_of h)
  have HFl : Hid ((frameL (encL e)).length ≤ 100000) := by show (frameL (encL e)).length ≤ 100000; rw [frame_len]; omega
  have HFb := hideIt (frame_byte HBy.out)
  clear hL hq0 hty0
  have HEA : Hid (e.agg = .agg #[.int .i64 e.p, .int .i64 e.t, .int .i64 e.k, .int .i64 e.d, .int .i64 e.a, .int .i64 e.b, .int .i64 e.r]) := rfl
  unfold Ev.agg at *
  go_enter Tryd.func16, Tryd.ntmps16
  go_wp2_with fail
  refine (HE.out _).mono ?_
  rintro x w1 ⟨v1, rfl, ho1, hb1⟩
  have HB := hideIt (below_join (below_alloc (Below.refl w.heap.size w) _) hb1)
  have hev1 := (HB.out.cell (p := ⟨G, 1, none⟩) hlt).trans hev
  have hv1 := (HB.out.cell (p := ⟨G, 0, none⟩) hlt).trans hv0
  have hfz1 : ∀ o, w1.frozen? ⟨G, o, none⟩ = false := fun o => (HB.out.frozen (p := ⟨G, o, none⟩) hlt).trans (HL.out.fz o)
  have hz1 : G < w1.heap.size := Nat.lt_of_lt_of_le hlt HB.out.size
  obtain ⟨g1, k1, rfl⟩ := own_form ho1 (by have := encL_four e; omega)
  have hA1 := own_bys ho1
  have hc1 : (encL e).length ≤ k1 ∧ g1 < w1.heap.size := by
    obtain ⟨_, ⟨h0, _⟩ | ⟨g, c, _, h0, _, h5, h6, _⟩⟩ := ho1
    · cases h0
    · cases h0; exact ⟨h6, (Array.getElem?_eq_some_iff.1 h5).1⟩
  have HP : Hid (0 < (frameL (encL e)).length) := by show 0 < (frameL (encL e)).length; rw [frame_len]; omega
  have HY : Hid (Calls Tryd.prog 12 #[.slice (some ⟨g1, 0, none⟩) (encL e).length k1] w1.drew fun r w2 => ∃ g2 k2, r = .returned (.slice (some ⟨g2, 0, none⟩) (frameL (encL e)).length k2) ∧ ByQ w2 (.slice (some ⟨g2, 0, none⟩) (frameL (encL e)).length k2) (frameL (encL e)) ∧ Below w1.heap.size w1 w2) := by
    refine Calls.mono (frame_any g1 0 k1 (encL e) w1.drew HBy.out hc1.1 hc1.2 hA1 (by omega)) ?_
    rintro x w2 ⟨v2, rfl, ho2, hb2⟩
    obtain ⟨g2, k2, rfl⟩ := own_form ho2 HP.out
    exact ⟨g2, k2, rfl, own_byq HFb.out ho2, (below_drewN (Below.refl _ _) 1).trans hb2⟩
  have HCo : Hid (∀ (A : Nat) (W : World) (g2 k2 : Nat), A < W.heap.size → W.cell? ⟨A, 0, none⟩ = some (.slice a0 (framesL l).length k0) → W.cell? ⟨A, 1, none⟩ = some (.slice (some ⟨g2, 0, none⟩) (frameL (encL e)).length k2) → ByQ W (.slice (some ⟨g2, 0, none⟩) (frameL (encL e)).length k2) (frameL (encL e)) → Below w1.heap.size w1 W →
      Calls Tryd.prog 30 #[.slice (some ⟨A, 0, none⟩) 2 2] W fun r w3 => ∃ g3 k3, r = .returned (.slice (some ⟨g3, 0, none⟩) (framesL (l ++ [e])).length k3) ∧ ByQ w3 (.slice (some ⟨g3, 0, none⟩) (framesL (l ++ [e])).length k3) (framesL (l ++ [e])) ∧ Below w1.heap.size w1 w3 ∧ w1.heap.size ≤ g3 ∧ TyB w3 (.slice (some ⟨g3, 0, none⟩) (framesL (l ++ [e])).length k3)) := by
    intro A W g2 k2 h1 h2 h3 h4 h5
    refine (concat_any A _ _ (framesL l) (frameL (encL e)) W h1 h2 h3 (HQ0.out.below (HB.out.trans (h5.mono HB.out.size))) h4 (by omega) HFl.out).mono ?_
    rintro x w3 ⟨v3, rfl, ho3, hb3⟩
    rw [← frames_snoc] at ho3
    obtain ⟨g3, k3, rfl⟩ := own_form ho3 (by rw [frames_snoc]; have := HP.out; simp; omega)
    exact ⟨g3, k3, rfl, own_byq (by rw [frames_snoc]; exact (frames_byte HL.out.ok).append HFb.out) ho3, below_join h5 hb3, Nat.le_trans h5.size (ho3.lt g3 rfl).1, own_ty ho3⟩
  clear hb1 ho1 hev hv0 hA1 hc1
  generalize hfs : framesL (l ++ [e]) = fs at *
  have HFS := hideIt hfs.symm
  clear hfs
  generalize frameL (encL e) = fe at *
  go_wp2_with fail
  go_region_with (first
    | (go_at_call 12; refine HY.out.mono ?_; rintro x w2 ⟨g2, k2, rfl, hy2, hb2⟩; obtain ⟨hc2, hf2⟩ := bcell hb2; have HY2 := hideIt hy2; have HB2 := hideIt hb2; have hz2 := Nat.lt_of_lt_of_le hz1 hb2.size; clear hy2 hb2)
    | (go_at_call 30; refine (HCo.out _ _ g2 k2 (by simp) (by simp [go_sem]) (by simp [go_sem]) (HY2.out.below (below_alloc (Below.refl _ _) _)) (below_alloc HB2.out _)).mono ?_; rintro x w3 ⟨g3, k3, rfl, hy3, hb3, hg3, hty3⟩; obtain ⟨hc3, hf3⟩ := bcell hb3; have hz3 := Nat.lt_of_lt_of_le hz1 hb3.size))
  all_goals
    have HR := hideIt (logIn_add HL.out (below_join HB.out hb3) (show ByQ w3 (.slice (some ⟨g3, 0, none⟩) fs.length k3) (framesL (l ++ [e])) from by rw [← HFS.out]; exact hy3) (fun b o n c e => by cases e; omega) hty3 h hf)
    have HN : Hid (FrNew w.heap.size ((w3.setCell ⟨G, 0, none⟩ (.slice (some ⟨g3, 0, none⟩) fs.length k3)).setCell ⟨G, 1, none⟩ (.int .i64 ((l.length : Int) + 1))) G) := frNew_set ((hb3.cell (p := ⟨G, 0, none⟩) hz1).trans hv1) (Nat.le_trans HB.out.size hg3)
    clear hc2 hf2 HY2 HB2 hy3 hb3 hty3
    go_wp2
    go_ret
    exact ⟨rfl, HR.out.1, HR.out.2, HN.out⟩


/-- Where a row of bytes lies behind an append. -/
theorem run_append_w (w : World) (ty : TypeId) (base : Nat) (v : Value) (l m : List Nat) (hown : w.ownsRow base 5 1 v l.length (byCs l)) (b o c : Nat) (hA : BysAt w b o m) (hm : 0 < m.length) (hn : l.length + m.length ≤ 1000000) (hbase : base ≤ w.heap.size) :
    ∃ v' w', (Builtin.append_ #[30, 30] ty #[v, .slice (some ⟨b, o, none⟩) m.length c]).run Tryd.prog w = .ok v' w' ∧ w'.ownsRow base 5 1 v' (l ++ m).length (byCs (l ++ m)) ∧ w.grownBy w' v.ownBlock ∧ (v'.ownBlock = v.ownBlock ∨ ∃ k, v'.ownBlock = some k ∧ w.heap.size ≤ k) := by
  obtain ⟨i0, hi, hz0, hz1, hz2⟩ := info_parts' infoB
  obtain ⟨v', w', hr, h1, h2, _⟩ := run_append_own (P := Tryd.prog) w base 30 ty 5 i0 _ 1 1 Tryd.underlying30 hi hz0 hz1 hz2 rfl (by decide) v l.length (byCs l) hown ⟨b, o, none⟩ m.length c (byCs m) (by simp [byCs]) hA.cells byCs_one (by unfold maxLen; omega) (by omega) hbase
  refine ⟨v', w', hr, by rw [byCs_append, List.length_append]; exact h1, h2, ?_⟩
  rcases hown.2 with ⟨rfl, h0⟩ | ⟨g, cap, cur, rfl, hbg, hg, hnc, hcm, hcs, htake⟩
  · have hr2 := run_append_nil (P := Tryd.prog) w 30 ty 5 i0 _ Tryd.underlying30 hi hz0 ⟨b, o, none⟩ m.length c (byCs m) (by rw [hz1]; simp [byCs]) hA.cells hm (by omega) (by rw [hz2]; omega)
    have h3 := hr2.symm.trans hr
    injection h3 with h4 _
    rw [← h4]
    exact Or.inr ⟨w.heap.size, rfl, Nat.le_refl _⟩
  · by_cases hroom : l.length + m.length ≤ cap
    · have hr2 := run_append_room (P := Tryd.prog) w 30 ty 5 i0 Tryd.underlying30 hi g l.length cap cur hg ⟨b, o, none⟩ m.length c (byCs m) (by rw [hz1]; simp [byCs]) hA.cells byCs_one hroom (by rw [hz1, hcs]; simp [byCs]; omega)
      have h3 := hr2.symm.trans hr
      injection h3 with h4 _
      rw [← h4]
      exact Or.inl rfl
    · have holds : ∀ j u, (byCs l)[j]? = some u → w.cell? ((⟨g, 0, none⟩ : Addr).add j) = some u := hown.cells (g := g) rfl
      have hr2 := run_append_grow (P := Tryd.prog) w 30 ty 5 i0 _ Tryd.underlying30 hi hz0 ⟨g, 0, none⟩ l.length cap (byCs l) (by rw [hz1]; simp [byCs]) holds ⟨b, o, none⟩ m.length c (byCs m) (by rw [hz1]; simp [byCs]) hA.cells (by omega) (by omega) (growslice_fits (by omega) (by rw [hz2]; omega))
      have h3 := hr2.symm.trans hr
      injection h3 with h4 _
      rw [← h4]
      exact Or.inr ⟨w.heap.size, rfl, Nat.le_refl _⟩

/-- Bytes appended to a row of one's own: what is turned, and where the row lies. -/
theorem wpList_append_by2 {w : World} {ops : Array Oper} {rest : List Oper} {o : Oper} {a : Act} {Q : Exit → Act → World → Prop} (hgd : o.guard = none) (s x : Operand)
    (ho : o.op = .call { callee := .builtin .append, args := #[s, x], argTypes := #[30, 30] }) (base : Nat) (v vx : Value) (l m : List Nat) (hs : a.eval s = v) (hx : a.eval x = vx)
    (hown : w.ownsRow base 5 1 v l.length (byCs l)) (hq : ByQ w vx m) (hm : 0 < m.length) (hn : l.length + m.length ≤ 1000000) (hbase : base ≤ w.heap.size)
    (h : ∀ v' w', w'.ownsRow base 5 1 v' (l ++ m).length (byCs (l ++ m)) → w.grownBy w' v.ownBlock → (v'.ownBlock = v.ownBlock ∨ ∃ k, v'.ownBlock = some k ∧ w.heap.size ≤ k) → wpList Tryd.prog ops Q rest (a.put o.dst v') w') : wpList Tryd.prog ops Q (o :: rest) a w := by
  obtain ⟨_, ⟨rfl, _⟩ | ⟨b, of, c, rfl, hc, hb, hA⟩⟩ := hq
  · simp at hm
  · obtain ⟨v', w', hr, h1, h2, h3⟩ := run_append_w w o.type base v l m hown b of c hA hm hn hbase
    refine wpList_plain hgd fun K hK => ?_
    unfold Oper.wp execOp
    simp only [ho, resolve, invoke, builtin, Sem.run_bind, Sem.run_pure, Result.andThen_ok, List.map_toArray, List.map_cons, List.map_nil, hs, hx, hr]
    exact hK _ _ (h v' w' h1 h2 h3)

theorem sync_any2 (G : Nat) (l : List Ev) (s : Nat) (w : World) (hL : LogIn w G l s) :
    Calls Tryd.prog 17 #[.pointer (some ⟨G, 0, none⟩)] w fun r w' => r = .returned (.tuple #[]) ∧ LogIn w' G l (framesL l).length ∧ w.grownBy w' (some G) ∧ w'.cell? ⟨G, 0, none⟩ = w.cell? ⟨G, 0, none⟩ := by
  obtain ⟨v0, hv0, hq0, hoff, hty0⟩ := hL.fr
  obtain ⟨a0, k0, rfl⟩ := hq0.form
  have h1 := hL.ev
  have h2 := hL.su
  have h4 := hL.fz
  have hlt := hL.lt
  have HR : Hid (LogIn (w.setCell ⟨G, 2, none⟩ (.int .i64 ((framesL l).length : Nat))) G l (framesL l).length ∧ w.grownBy (w.setCell ⟨G, 2, none⟩ (.int .i64 ((framesL l).length : Nat))) (some G) ∧ (w.setCell ⟨G, 2, none⟩ (.int .i64 ((framesL l).length : Nat))).cell? ⟨G, 0, none⟩ = w.cell? ⟨G, 0, none⟩) := by
    have g := grown_set w ⟨G, 2, none⟩ (.int .i64 ((framesL l).length : Nat))
    exact ⟨⟨hL.ok, hL.few, Nat.le_refl _, ⟨_, by simp [go_sem, hv0], hq0.grown hoff g, hoff, hty0.grown g (fun k e => by cases e; exact hoff)⟩, by simp [go_sem, h1], by simp [go_sem, h2], fun o => by simp [go_sem, h4], Nat.lt_of_lt_of_le hlt g.size⟩, g, by simp [go_sem, hv0]⟩
  clear hq0 hL
  go_enter Tryd.func17, Tryd.ntmps17
  go_wp2
  go_end0
  exact ⟨rfl, HR.out.1, HR.out.2.1, HR.out.2.2⟩

end Go.Proofs.YtdncnljcihblbaaDoor
