/-
  The first frame of bytes: the program's way, walked.
-/
import Derived.Test.YtdncnljcihblbabDcW
import Derived.Test.YtdncnljcihblbabFrW
import Derived.Deep.RegionWith
namespace Go.Proofs.Ytdncnljcihblbab
open Go.RowKit

/-- An event in a block of one's own. -/
structure EvIn (W : World) (E : Nat) (e : Ev) : Prop where
  c0 : W.cell? ⟨E, 0, none⟩ = some (.int .i64 e.p)
  c1 : W.cell? ⟨E, 1, none⟩ = some (.int .i64 e.t)
  c2 : W.cell? ⟨E, 2, none⟩ = some (.int .i64 e.k)
  c3 : W.cell? ⟨E, 3, none⟩ = some (.int .i64 e.d)
  c4 : W.cell? ⟨E, 4, none⟩ = some (.int .i64 e.a)
  c5 : W.cell? ⟨E, 5, none⟩ = some (.int .i64 e.b)
  c6 : W.cell? ⟨E, 6, none⟩ = some (.int .i64 e.r)
  fz : ∀ o, W.frozen? ⟨E, o, none⟩ = false
  lt : E < W.heap.size
theorem EvIn.below {W W' : World} {E B : Nat} {e : Ev} (h : EvIn W E e) (hE : E < B) (hb : Below B W W') : EvIn W' E e :=
  ⟨(hb.cell (p := ⟨E, 0, none⟩) hE).trans h.c0, (hb.cell (p := ⟨E, 1, none⟩) hE).trans h.c1, (hb.cell (p := ⟨E, 2, none⟩) hE).trans h.c2, (hb.cell (p := ⟨E, 3, none⟩) hE).trans h.c3, (hb.cell (p := ⟨E, 4, none⟩) hE).trans h.c4, (hb.cell (p := ⟨E, 5, none⟩) hE).trans h.c5, (hb.cell (p := ⟨E, 6, none⟩) hE).trans h.c6, fun o => (hb.frozen (p := ⟨E, o, none⟩) hE).trans (h.fz o), Nat.lt_of_lt_of_le h.lt hb.size⟩

def setE (W : World) (E : Nat) (e : Ev) : World := ((((((W.setCell ⟨E, 0, none⟩ (.int .i64 e.p)).setCell ⟨E, 1, none⟩ (.int .i64 e.t)).setCell ⟨E, 2, none⟩ (.int .i64 e.k)).setCell ⟨E, 3, none⟩ (.int .i64 e.d)).setCell ⟨E, 4, none⟩ (.int .i64 e.a)).setCell ⟨E, 5, none⟩ (.int .i64 e.b)).setCell ⟨E, 6, none⟩ (.int .i64 e.r)
theorem EvIn.set {W : World} {E : Nat} {e0 : Ev} (h : EvIn W E e0) (e : Ev) : EvIn (setE W E e) E e := by
  obtain ⟨h0, h1, h2, h3, h4, h5, h6, h7, h8⟩ := h
  unfold setE
  exact ⟨by simp [go_sem, h0], by simp [go_sem, h1], by simp [go_sem, h2], by simp [go_sem, h3], by simp [go_sem, h4], by simp [go_sem, h5], by simp [go_sem, h6], fun o => by simp [go_sem, h7], by simpa [go_sem] using h8⟩
theorem evIn_new (w : World) (n : Nat) : EvIn ((w.alloc (.cells #[.int .i64 0, .int .i64 0, .int .i64 0, .int .i64 0, .int .i64 0, .int .i64 0, .int .i64 0] 38)).drewN n) w.heap.size zeroE :=
  ⟨by simp [go_sem, zeroE], by simp [go_sem, zeroE], by simp [go_sem, zeroE], by simp [go_sem, zeroE], by simp [go_sem, zeroE], by simp [go_sem, zeroE], by simp [go_sem, zeroE], fun o => by simp [go_sem], by simp [go_sem]⟩

/-- What first tells. -/
def fstV (l : List Nat) : Value := match firstL l with
  | none => .tuple #[zeroE.agg, .int .i64 0, .bool false]
  | some (e, n) => .tuple #[e.agg, .int .i64 (n : Nat), .bool true]

set_option maxHeartbeats 1000000 in
set_option maxRecDepth 100000 in
theorem first_short_any (v : Value) (l : List Nat) (w : World) (hq : ByQ w v l) (hl : l.length < 6) :
    Calls Try.prog 21 #[v] w fun e w' => e = .returned (fstV l) ∧ Below w.heap.size w w' := by
  have hr : fstV l = .tuple #[zeroE.agg, .int .i64 0, .bool false] := by unfold fstV firstL; rw [if_pos hl]
  rw [hr]
  clear hr
  unfold zeroE Ev.agg
  obtain ⟨hB, ⟨rfl, a0, c0, rfl, _⟩ | ⟨b, o, c, rfl, hc, hb, hA⟩⟩ := hq
  · go_enter Try.func21, Try.ntmps21
    go_wp2
    exact bodyPost_ret (v := .tuple #[.agg #[.int .i64 0, .int .i64 0, .int .i64 0, .int .i64 0, .int .i64 0, .int .i64 0, .int .i64 0], .int .i64 0, .bool false]) (by simp [results, Try.results21, go_sem]) rfl ⟨rfl, below_alloc (Below.refl _ _) _⟩
  · have hl' : ((l.length : Nat) : Int) < 6 := by omega
    go_enter Try.func21, Try.ntmps21
    go_wp2
    exact bodyPost_ret (v := .tuple #[.agg #[.int .i64 0, .int .i64 0, .int .i64 0, .int .i64 0, .int .i64 0, .int .i64 0, .int .i64 0], .int .i64 0, .bool false]) (by simp [results, Try.results21, go_sem]) rfl ⟨rfl, below_alloc (Below.refl _ _) _⟩

set_option maxHeartbeats 1000000 in
set_option maxRecDepth 100000 in
theorem first_long_any (b o c : Nat) (l : List Nat) (w : World) (hB : Byt l) (hc : l.length ≤ c) (hb : b < w.heap.size) (hA : BysAt w b o l) (hl : l.length ≤ 70000) (h6 : 6 ≤ l.length) (hc6 : ¬ c = 6) :
    Calls Try.prog 21 #[.slice (some ⟨b, o, none⟩) l.length c] w fun e w' => e = .returned (fstV l) ∧ Below w.heap.size w w' := by
  have c0 : w.cell? ⟨b, o, none⟩ = some (.int .u8 (l[0] : Nat)) := hA 0 (by omega)
  have c1 : w.cell? ⟨b, o + 1, none⟩ = some (.int .u8 (l[1] : Nat)) := hA 1 (by omega)
  have b0 := hB.at (i := 0) (by omega)
  have b1 := hB.at (i := 1) (by omega)
  have g0 : l.getD 0 0 = l[0] := by rw [List.getD_eq_getElem?_getD, List.getElem?_eq_getElem (by omega)]; rfl
  have g1 : l.getD 1 0 = l[1] := by rw [List.getD_eq_getElem?_getD, List.getElem?_eq_getElem (by omega)]; rfl
  have HV : Hid (firstL l = if l.length < 6 + l[0] * 256 + l[1] then none else match decL ((l.take (6 + l[0] * 256 + l[1])).drop 6) with
      | none => none
      | some e => if frameL ((l.take (6 + l[0] * 256 + l[1])).drop 6) = l.take (6 + l[0] * 256 + l[1]) then some (e, 6 + l[0] * 256 + l[1]) else none) := by
    show firstL l = _
    unfold firstL; rw [g0, g1, if_neg (by omega)]; rfl
  clear g0 g1
  generalize l[0] = x0 at *
  generalize l[1] = x1 at *
  have HA := hideIt hA
  have HB := hideIt hB
  clear hA hB
  by_cases hs : l.length < 6 + x0 * 256 + x1
  · have hr : fstV l = .tuple #[zeroE.agg, .int .i64 0, .bool false] := by unfold fstV; rw [HV.out, if_pos hs]
    rw [hr]
    clear hr HV
    unfold zeroE Ev.agg
    go_enter Try.func21, Try.ntmps21
    go_wp2_with fail
    go_quiet (fail)
    go_wp2
    exact bodyPost_ret (v := .tuple #[.agg #[.int .i64 0, .int .i64 0, .int .i64 0, .int .i64 0, .int .i64 0, .int .i64 0, .int .i64 0], .int .i64 0, .bool false]) (by simp [results, Try.results21, go_sem]) rfl ⟨rfl, bel7 (below_drewN (below_alloc (Below.refl _ _) _) _) _ _ _ _ _ _ _⟩
  · rw [if_neg hs] at HV
    have hpl : ((l.take (6 + x0 * 256 + x1)).drop 6).length = 6 + x0 * 256 + x1 - 6 := by simp; omega
    have hap : BysAt w b (o + 6) ((l.take (6 + x0 * 256 + x1)).drop 6) := (HA.out.take _).drop 6
    have hbp : Byt ((l.take (6 + x0 * 256 + x1)).drop 6) := (HB.out.take _).drop 6
    have HP := hideIt (show ByQ w (.slice (some ⟨b, o + 6, none⟩) (6 + x0 * 256 + x1 - 6) (c - 6)) ((l.take (6 + x0 * 256 + x1)).drop 6) from ⟨hbp, Or.inr ⟨b, o + 6, c - 6, by rw [hpl], by rw [hpl]; omega, hb, hap⟩⟩)
    have HT := hideIt (show ByQ w (.slice (some ⟨b, o, none⟩) (6 + x0 * 256 + x1) c) (l.take (6 + x0 * 256 + x1)) from ⟨HB.out.take _, Or.inr ⟨b, o, c, by simp; omega, by simp; omega, hb, HA.out.take _⟩⟩)
    have HFR := hideIt (fun W (hw : Below w.heap.size w W) => frame_any b (o + 6) (c - 6) ((l.take (6 + x0 * 256 + x1)).drop 6) W hbp (by rw [hpl]; omega) (Nat.lt_of_lt_of_le hb hw.size) (hap.below hb hw) (by rw [hpl]; omega))
    rw [hpl] at HFR
    have HL := hideIt (show ((l.take (6 + x0 * 256 + x1)).drop 6).length ≤ 70000 by rw [hpl]; omega)
    clear hpl hap
    have HBT := hideIt (frame_byte hbp)
    clear hbp
    generalize hp : (l.take (6 + x0 * 256 + x1)).drop 6 = p at *
    clear hp
    have HD := hideIt (fun W (hw : Below w.heap.size w W) => decode_any _ p W (HP.out.below hw) HL.out)
    cases hd : decL p with
    | none =>
      have e1 : decV p = .tuple #[.agg #[.int .i64 0, .int .i64 0, .int .i64 0, .int .i64 0, .int .i64 0, .int .i64 0, .int .i64 0], .iface 58 (.int .i64 3)] := by unfold decV; rw [hd]; rfl
      rw [e1] at HD
      have hr : fstV l = .tuple #[.agg #[.int .i64 0, .int .i64 0, .int .i64 0, .int .i64 0, .int .i64 0, .int .i64 0, .int .i64 0], .int .i64 0, .bool false] := by unfold fstV; rw [HV.out, hd]; rfl
      rw [hr]
      clear hr HV e1 hd
      go_enter Try.func21, Try.ntmps21
      go_wp2_with fail
      go_quiet (fail)
      go_wp2_with fail
      refine (HD.out _ (below_drewN (below_alloc (Below.refl _ _) _) _)).mono ?_
      rintro x w1 ⟨rfl, hb1⟩
      have HB1 := hideIt (below_join (below_drewN (below_alloc (Below.refl w.heap.size w) _) _) hb1)
      obtain ⟨hc1, hf1⟩ := bcell hb1
      have hz1 : w.heap.size < w1.heap.size := by have := hb1.size; simp at this; omega
      have HE1 := hideIt ((evIn_new w _).below (by simp) hb1)
      clear hb1
      go_wp2_with fail
      generalize hW2 : World.setCell (World.setCell (World.setCell (World.setCell (World.setCell (World.setCell (World.setCell _ _ _) _ _) _ _) _ _) _ _) _ _) _ _ = W2
      have HI : EvIn W2 w.heap.size ⟨0, 0, 0, 0, 0, 0, 0⟩ := by
        rw [← hW2]
        exact HE1.out.set ⟨0, 0, 0, 0, 0, 0, 0⟩
      have HB2 : Hid (Below w.heap.size w W2) := by rw [← hW2]; exact bel7 HB1.out _ _ _ _ _ _ _
      obtain ⟨k0, k1, k2, k3, k4, k5, k6, kf, hz2⟩ := HI
      simp only at k0 k1 k2 k3 k4 k5 k6
      clear hW2 hc1 hf1 HB1 HE1
      go_quiet (fail)
      go_wp2
      exact bodyPost_ret (v := .tuple #[.agg #[.int .i64 0, .int .i64 0, .int .i64 0, .int .i64 0, .int .i64 0, .int .i64 0, .int .i64 0], .int .i64 0, .bool false]) (by simp [results, Try.results21, go_sem, k0, k1, k2, k3, k4, k5, k6]) rfl ⟨rfl, bel7 (below_drewN HB2.out _) _ _ _ _ _ _ _⟩
    | some e =>
      have e1 : decV p = .tuple #[e.agg, .nilIface] := by unfold decV; rw [hd]
      rw [e1] at HD
      obtain ⟨ep, et, ek, ed, ea, eb, er⟩ := e
      have HE : Hid (fstV l = if frameL p = l.take (6 + x0 * 256 + x1) then .tuple #[.agg #[.int .i64 ep, .int .i64 et, .int .i64 ek, .int .i64 ed, .int .i64 ea, .int .i64 eb, .int .i64 er], .int .i64 (6 + (x0 : Int) * 256 + (x1 : Int)), .bool true] else .tuple #[.agg #[.int .i64 0, .int .i64 0, .int .i64 0, .int .i64 0, .int .i64 0, .int .i64 0, .int .i64 0], .int .i64 0, .bool false]) := by
        show fstV l = _
        unfold fstV; rw [HV.out, hd]
        show (match (if frameL p = l.take (6 + x0 * 256 + x1) then some ((⟨ep, et, ek, ed, ea, eb, er⟩ : Ev), 6 + x0 * 256 + x1) else none) with | none => Value.tuple #[zeroE.agg, .int .i64 0, .bool false] | some (e, n) => .tuple #[e.agg, .int .i64 (n : Nat), .bool true]) = _
        split
        · rename_i h; split at h
          · cases h
          · rename_i h2; rw [if_neg h2]; rfl
        · rename_i h; split at h
          · rename_i h2; rw [if_pos h2]; cases h
            simp [Ev.agg]
          · cases h
      unfold Ev.agg at HD
      simp only at HD
      clear HV e1 hd
      obtain ⟨q, hq⟩ : ∃ q, q = decide (frameL p = l.take (6 + x0 * 256 + x1)) := ⟨_, rfl⟩
      have HQ := hideIt hq.symm
      have HF : Hid (fstV l = cond q (.tuple #[.agg #[.int .i64 ep, .int .i64 et, .int .i64 ek, .int .i64 ed, .int .i64 ea, .int .i64 eb, .int .i64 er], .int .i64 (6 + (x0 : Int) * 256 + (x1 : Int)), .bool true]) (.tuple #[.agg #[.int .i64 0, .int .i64 0, .int .i64 0, .int .i64 0, .int .i64 0, .int .i64 0, .int .i64 0], .int .i64 0, .bool false])) := by
        show fstV l = _
        rw [HE.out, hq]
        by_cases h : frameL p = l.take (6 + x0 * 256 + x1)
        · rw [if_pos h, decide_eq_true h]; rfl
        · rw [if_neg h, decide_eq_false h]; rfl
      clear HE hq
      generalize fstV l = F at *
      go_enter Try.func21, Try.ntmps21
      go_wp2_with fail
      go_quiet (fail)
      go_wp2_with fail
      refine (HD.out _ (below_drewN (below_alloc (Below.refl _ _) _) _)).mono ?_
      rintro x w1 ⟨rfl, hb1⟩
      have HB1 := hideIt (below_join (below_drewN (below_alloc (Below.refl w.heap.size w) _) _) hb1)
      obtain ⟨hc1, hf1⟩ := bcell hb1
      have hz1 : w.heap.size < w1.heap.size := by have := hb1.size; simp at this; omega
      have HE1 := hideIt ((evIn_new w _).below (by simp) hb1)
      clear hb1
      go_wp2_with fail
      generalize hW2 : World.setCell (World.setCell (World.setCell (World.setCell (World.setCell (World.setCell (World.setCell _ _ _) _ _) _ _) _ _) _ _) _ _) _ _ = W2
      have HI : EvIn W2 w.heap.size ⟨ep, et, ek, ed, ea, eb, er⟩ := by
        rw [← hW2]
        exact HE1.out.set ⟨ep, et, ek, ed, ea, eb, er⟩
      have HB2 : Hid (Below w.heap.size w W2) := by rw [← hW2]; exact bel7 HB1.out _ _ _ _ _ _ _
      obtain ⟨k0, k1, k2, k3, k4, k5, k6, kf, hz2⟩ := HI
      simp only at k0 k1 k2 k3 k4 k5 k6
      clear hW2 hc1 hf1 HB1 HE1
      go_region_with (first
        | (go_at_call 31; refine (HFR.out _ (below_drewN HB2.out 1)).mono ?_; rintro x w3 ⟨v3, rfl, ho3, hb3⟩)
        | (go_at_call 25; refine (equal_any _ _ _ _ _ (own_byq HBT.out ho3) (HT.out.below (below_join (below_drewN HB2.out 1) hb3))).mono ?_; rw [HQ.out]; rintro x w4 ⟨rfl, rfl⟩))
      all_goals
        have HI3 : Hid (EvIn w4 w.heap.size ⟨ep, et, ek, ed, ea, eb, er⟩) := (EvIn.mk k0 k1 k2 k3 k4 k5 k6 kf hz2 : EvIn W2 w.heap.size ⟨ep, et, ek, ed, ea, eb, er⟩).below hz2 ((below_drewN (Below.refl W2.heap.size W2) 1).trans hb3)
        have HB3 := hideIt (below_join (below_drewN HB2.out 1) hb3)
        clear k0 k1 k2 k3 k4 k5 k6 kf hz2 ho3 hb3
        obtain ⟨k0, k1, k2, k3, k4, k5, k6, kf, hz3⟩ := HI3.out
        simp only at k0 k1 k2 k3 k4 k5 k6
        clear HI3
        cases q
        · have HF' : Hid (F = .tuple #[.agg #[.int .i64 0, .int .i64 0, .int .i64 0, .int .i64 0, .int .i64 0, .int .i64 0, .int .i64 0], .int .i64 0, .bool false]) := HF.out
          clear HF
          go_wp2
          exact bodyPost_ret (v := .tuple #[.agg #[.int .i64 0, .int .i64 0, .int .i64 0, .int .i64 0, .int .i64 0, .int .i64 0, .int .i64 0], .int .i64 0, .bool false]) (by simp [results, Try.results21, go_sem, k0, k1, k2, k3, k4, k5, k6]) rfl ⟨by rw [HF'.out], bel7 HB3.out _ _ _ _ _ _ _⟩
        · have HF' : Hid (F = .tuple #[.agg #[.int .i64 ep, .int .i64 et, .int .i64 ek, .int .i64 ed, .int .i64 ea, .int .i64 eb, .int .i64 er], .int .i64 (6 + (x0 : Int) * 256 + (x1 : Int)), .bool true]) := HF.out
          clear HF
          go_wp2
          exact bodyPost_ret (v := .tuple #[.agg #[.int .i64 ep, .int .i64 et, .int .i64 ek, .int .i64 ed, .int .i64 ea, .int .i64 eb, .int .i64 er], .int .i64 (6 + (x0 : Int) * 256 + (x1 : Int)), .bool true]) (by simp [results, Try.results21, go_sem, k0, k1, k2, k3, k4, k5, k6]) rfl ⟨by rw [HF'.out], bel7 HB3.out _ _ _ _ _ _ _⟩

end Go.Proofs.Ytdncnljcihblbab
