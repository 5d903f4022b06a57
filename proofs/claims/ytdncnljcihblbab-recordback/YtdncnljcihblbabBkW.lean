/-
  The statement RecordBack: walked.
-/
import Derived.Test.YtdncnljcihblbabKpW
import Derived.Test.YtdncnljcihblbabRcB
namespace Go.Proofs.Ytdncnljcihblbab
open Go.RowKit

theorem evIn_at (w : World) (e : Ev) (t : TypeId) : EvIn (w.alloc (.cells #[.int .i64 e.p, .int .i64 e.t, .int .i64 e.k, .int .i64 e.d, .int .i64 e.a, .int .i64 e.b, .int .i64 e.r] t)) w.heap.size e :=
  ⟨by simp [go_sem], by simp [go_sem], by simp [go_sem], by simp [go_sem], by simp [go_sem], by simp [go_sem], by simp [go_sem], fun o => by simp [go_sem], by simp [go_sem]⟩

set_option maxHeartbeats 2000000 in
set_option maxRecDepth 100000 in
theorem back_bad (e : Ev) (m : Nat) (w : World) (h : fltE e ≠ 0) :
    Calls Try.prog 4 #[e.agg, .int .u8 (m : Nat)] w fun r w' => r = .returned (.bool true) ∧ Below w.heap.size w w' := by
  have ht : toldV (fltE e) = .iface 58 (.int .i64 (fltE e)) := by simp [toldV, h]
  have HE := hideIt (fun W => encode_bad e W h)
  simp only [ht] at HE
  clear ht h
  generalize fltE e = f at *
  unfold Ev.agg at *
  go_enter Try.func4, Try.ntmps4
  go_wp2_with fail
  refine (HE.out _).mono ?_
  rintro x w1 ⟨rfl, hb1⟩
  have HB1 := hideIt (below_join (below_alloc (Below.refl w.heap.size w) _) hb1)
  clear hb1
  go_wp2_with fail
  refine (kept_any _).mono ?_
  rintro x w2 ⟨rfl, hb2⟩
  have HB2 := hideIt (below_join HB1.out hb2)
  clear hb2
  go_wp2_with fail
  refine (kept_any _).mono ?_
  rintro x w3 ⟨rfl, hb3⟩
  have HB3 := hideIt (below_join HB2.out hb3)
  clear hb3
  go_wp2
  go_ret
  exact ⟨rfl, HB3.out⟩

set_option maxHeartbeats 2000000 in
set_option maxRecDepth 100000 in
theorem back_ok (e : Ev) (m : Nat) (w : World) (h : fltE e = 0) (hm : m < 256) :
    Calls Try.prog 4 #[e.agg, .int .u8 (m : Nat)] w fun r w' => r = .returned (.bool true) ∧ Below w.heap.size w w' := by
  have hlen := encL_len (okE_of h)
  have h4 := encL_four e
  have HBy : Hid (Byt (encL e)) := encL_byte (okE_of h)
  have HE : Hid (∀ W, Calls Try.prog 12 #[e.agg] W fun r w' => ∃ g c, r = .returned (.tuple #[.slice (some ⟨g, 0, none⟩) (encL e).length c, .nilIface]) ∧ ByQ w' (.slice (some ⟨g, 0, none⟩) (encL e).length c) (encL e) ∧ Below W.heap.size W w' ∧ (encL e).length ≤ c) := by
    intro W
    refine Calls.mono (encode_ok e W h) ?_
    rintro x w' ⟨v, rfl, ho, hb⟩
    obtain ⟨g, c, rfl⟩ := own_form ho (by omega)
    have hq := own_byq HBy.out ho
    refine ⟨g, c, rfl, hq, hb, ?_⟩
    obtain ⟨_, ⟨h2, _⟩ | ⟨_, _, _, h3, hc, _⟩⟩ := hq
    · rw [h2] at h4; simp at h4
    · cases h3; exact hc
  have d1 : decV (encL e) = .tuple #[e.agg, .nilIface] := by unfold decV; rw [dec_enc h]
  have d2 : decV (encL e ++ [m]) = .tuple #[zeroE.agg, .iface 58 (.int .i64 3)] := by unfold decV; rw [dec_more h m]
  have d3 : decV ((encL e).take ((encL e).length - 1)) = .tuple #[zeroE.agg, .iface 58 (.int .i64 3)] := by unfold decV; rw [dec_less h]
  have HD1 : Hid (∀ W v, ByQ W v (encL e) → Calls Try.prog 13 #[v] W fun r w' => r = .returned (.tuple #[e.agg, .nilIface]) ∧ Below W.heap.size W w') := fun W v hq => d1 ▸ decode_any v _ W hq (by omega)
  have HD2 : Hid (∀ W v, ByQ W v (encL e ++ [m]) → Calls Try.prog 13 #[v] W fun r w' => r = .returned (.tuple #[zeroE.agg, .iface 58 (.int .i64 3)]) ∧ Below W.heap.size W w') := fun W v hq => d2 ▸ decode_any v _ W hq (by simp; omega)
  have HD3 : Hid (∀ W v, ByQ W v ((encL e).take ((encL e).length - 1)) → Calls Try.prog 13 #[v] W fun r w' => r = .returned (.tuple #[zeroE.agg, .iface 58 (.int .i64 3)]) ∧ Below W.heap.size W w') := fun W v hq => d3 ▸ decode_any v _ W hq (by simp; omega)
  have HBm : Hid (Byt (encL e ++ [m])) := HBy.out.append (fun x hx => by simp at hx; omega)
  clear d1 d2 d3 h
  generalize encL e = L at *
  obtain ⟨p, t, k, d, a, b, r⟩ := e
  unfold zeroE Ev.agg at *
  simp only at *
  go_enter Try.func4, Try.ntmps4
  go_wp2_with fail
  refine (HE.out _).mono ?_
  rintro x w1 ⟨g, c, rfl, hq1, hb1, hc1⟩
  have HQ1 := hideIt hq1
  have HE1 := hideIt ((evIn_at w ⟨p, t, k, d, a, b, r⟩ _).below (by simp) hb1)
  have HB1 := hideIt (below_join (below_alloc (Below.refl w.heap.size w) _) hb1)
  obtain ⟨hc1', hf1⟩ := bcell hb1
  have hz1 : w.heap.size < w1.heap.size := by have := hb1.size; simp at this; omega
  clear hq1 hb1
  go_wp2_with fail
  refine (kept_any _).mono ?_
  rintro x w2 ⟨rfl, hb2⟩
  have HQ2 := hideIt (HQ1.out.below hb2)
  have HE2 := hideIt (HE1.out.below HE1.out.lt hb2)
  have HB2 := hideIt (below_join HB1.out hb2)
  obtain ⟨hc2, hf2⟩ := bcell hb2
  have hz2 := Nat.lt_of_lt_of_le hz1 hb2.size
  clear hb2
  go_wp2_with fail
  refine (HD1.out _ _ HQ2.out).mono ?_
  rintro x w3 ⟨rfl, hb3⟩
  have HQ3 := hideIt (HQ2.out.below hb3)
  have HE3 := hideIt (HE2.out.below HE2.out.lt hb3)
  have HB3 := hideIt (below_join HB2.out hb3)
  obtain ⟨hc3, hf3⟩ := bcell hb3
  have hz3 := Nat.lt_of_lt_of_le hz2 hb3.size
  clear hb3
  go_wp2_with (at_builtin; refine wpList_append_by rfl _ _ rfl (w3.heap.size + 1) (.slice (some ⟨w3.heap.size + 1, 0, none⟩) 0 0) (.slice (some ⟨g, 0, none⟩) L.length c) [] L rfl rfl ?o1 ?o2 (by simp; omega) ?o3 ?_)
  case o1 =>
    have := World.ownsRow_lit (base := w3.heap.size + 1) (e := 5) (size := 1) (w3.alloc (.cells #[.int .i64 p, .int .i64 t, .int .i64 k, .int .i64 d, .int .i64 a, .int .i64 b, .int .i64 r] 38)) #[] 0 (by simp) (by decide) rfl
    simpa [byCs] using this
  case o2 => exact HQ3.out.below (below_alloc (below_alloc (Below.refl _ _) _) _)
  case o3 => simp
  intro v4 w4 ho4 hb4
  have HO4 := hideIt ho4
  have hW4 : Below w3.heap.size w3 w4 := (below_alloc (below_alloc (Below.refl _ _) _) _).trans (hb4.mono (by omega))
  have HB4 := hideIt (below_join HB3.out hW4)
  have HQ4 := hideIt (HQ3.out.below hW4)
  have hz4 : w3.heap.size + 2 ≤ w4.heap.size := by have := hb4.size; simp at this; omega
  have HD4 : Hid (EvIn w4 w3.heap.size ⟨p, t, k, d, a, b, r⟩) := ((evIn_at w3 ⟨p, t, k, d, a, b, r⟩ 38).below (evIn_at w3 ⟨p, t, k, d, a, b, r⟩ 38).lt (below_alloc (Below.refl _ _) _)).below (B := w3.heap.size + 1) (by omega) hb4
  have HE4 : Hid (EvIn w4 w.heap.size ⟨p, t, k, d, a, b, r⟩) := HE3.out.below (by omega) hW4
  clear ho4 hb4 hW4
  obtain ⟨i0, hi, hy0, hy1, hy2⟩ := info_parts' infoB
  go_wp2_with (at_builtin; refine wpList_append_own _ rfl _ _ 24 rfl (w3.heap.size + 1) 5 i0 _ 1 1 Try.underlying24 hi hy0 hy1 hy2 rfl (by decide) v4 L.length (byCs L) rfl (HO4.out.alloc _) ⟨w4.heap.size, 0, none⟩ 1 1 [.int .u8 (m : Nat)] rfl rfl ?c1 ?c2 ?c3 ?c4 ?c5 ?_)
  case c1 =>
    intro j u hj
    match j, hj with
    | 0, hj => simp at hj; subst hj; simp [Addr.add]
    | n + 1, hj => simp at hj
  case c2 => intro u hu; simp at hu; subst hu; rfl
  case c3 => unfold maxLen; omega
  case c4 => omega
  case c5 => simp; omega
  intro v5 w5 ho5 hg5 _
  have hW5 : Below (w3.heap.size + 1) w4 w5 := ((Below.refl _ _).alloc (by omega) _).grown hg5 (by simp; omega) (fun g hg => (HO4.out.lt g hg).1)
  have HQ5 := hideIt (show ByQ w5 v5 (L ++ [m]) from own_byq HBm.out (by rw [byCs_append, List.length_append]; exact ho5))
  have HB5 := hideIt (HB4.out.trans (hW5.mono (by omega)))
  have HQL5 := hideIt (show ByQ w5 (.slice (some ⟨g, 0, none⟩) L.length c) L from by
    have hg : g < w3.heap.size := by
      obtain ⟨_, ⟨h2, _⟩ | ⟨_, _, _, h3, _, h5, _⟩⟩ := HQ3.out
      · rw [h2] at h4; simp at h4
      · cases h3; exact h5
    obtain ⟨q1, ⟨h2, _⟩ | ⟨_, _, _, h3, q2, q3, q4⟩⟩ := HQ4.out
    · rw [h2] at h4; simp at h4
    · cases h3; exact ⟨q1, Or.inr ⟨g, 0, c, rfl, q2, Nat.lt_of_lt_of_le q3 hW5.size, q4.below (by omega) hW5⟩⟩)
  have HD5 := hideIt (HD4.out.below (by omega) hW5)
  have HE5 := hideIt (HE4.out.below (by omega) hW5)
  have hz5 := Nat.le_trans hz4 hW5.size
  clear ho5 hg5 hW5 HD4 HE4 HQ4 HB4 HO4 hi hy0 hy1 hy2
  go_wp2_with fail
  refine (HD2.out _ _ HQ5.out).mono ?_
  rintro x w6 ⟨rfl, hb6⟩
  have HQ6 := hideIt ((HQL5.out.below hb6).below (below_alloc (Below.refl _ _) (.cells #[.int .i64 0, .int .i64 0, .int .i64 0, .int .i64 0, .int .i64 0, .int .i64 0, .int .i64 0] 38)))
  have HB6 := hideIt (below_join HB5.out hb6)
  have HD6 := hideIt (HD5.out.below HD5.out.lt hb6)
  have HE6 := hideIt (HE5.out.below HE5.out.lt hb6)
  clear hb6 HQL5 HD5 HE5
  go_wp2_with fail
  refine (HD3.out _ _ (HQ6.out.cut (L.length - 1) (by omega))).mono ?_
  rintro x w7 ⟨rfl, hb7⟩
  have HB7 := hideIt (below_join (below_alloc HB6.out _) hb7)
  have HD7 := hideIt ((HD6.out.below HD6.out.lt (below_alloc (Below.refl _ _) _)).below (Nat.lt_of_lt_of_le HD6.out.lt (below_alloc (Below.refl w6.heap.size w6) _).size) hb7)
  have HE7 := hideIt ((HE6.out.below HE6.out.lt (below_alloc (Below.refl _ _) _)).below (Nat.lt_of_lt_of_le HE6.out.lt (below_alloc (Below.refl w6.heap.size w6) _).size) hb7)
  clear hb7 HD6 HE6 HQ6
  obtain ⟨e0, e1, e2, e3, e4, e5, e6, _, elt⟩ := HE7.out
  obtain ⟨d0, d1, d2, d3, d4, d5, d6, _, dlt⟩ := HD7.out
  simp only at e0 e1 e2 e3 e4 e5 e6 d0 d1 d2 d3 d4 d5 d6
  clear HE7 HD7
  go_wp2
  go_ret
  exact ⟨rfl, below_alloc HB7.out _⟩

theorem back_any (e : Ev) (m : Nat) (w : World) (hm : m < 256) :
    Calls Try.prog 4 #[e.agg, .int .u8 (m : Nat)] w fun r w' => r = .returned (.bool true) ∧ Below w.heap.size w w' := by
  by_cases h : fltE e = 0
  · exact back_ok e m w h hm
  · exact back_bad e m w h

end Go.Proofs.Ytdncnljcihblbab
