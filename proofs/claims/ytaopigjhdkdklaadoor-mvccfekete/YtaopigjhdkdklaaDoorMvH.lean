/-
  MvccFekete, walked over what a base tells.
-/
import Derived.Test.YtaopigjhdkdklaaDoorMvD
import Derived.BigQuiet
namespace Go.Proofs.YtaopigjhdkdklaaDoor
open Go.RowKit

/-- At the same time. -/
def smB (st : MvS) (i k : Nat) : Bool := decide (st.bg k < st.en i) && decide (st.bg i < st.en k)

set_option maxRecDepth 100000 in
set_option maxHeartbeats 4000000 in
theorem same_any (st : MvS) (pg po pca Bp : Nat) (w : World) (h0 : w.cell? ⟨Bp, 0, none⟩ = some (.slice (some ⟨pg, po, none⟩) 8 pca)) (hs : ∀ k, k < 8 → w.cell? ⟨pg, po + k * 2, none⟩ = some (.int .i64 (st.bg k)) ∧ w.cell? ⟨pg, po + k * 2 + 1, none⟩ = some (.int .i64 (st.en k))) (i k : Nat) (hi : i < 8) (hk : k < 8) :
    Calls Tryd.prog 21 #[.int .i64 (i : Int), .int .i64 (k : Int), .pointer (some ⟨Bp, 0, none⟩)] w fun e w' => e = .returned (.bool (smB st i k)) ∧ Below w.heap.size w w' := by
  obtain ⟨a0, a1⟩ := hs i hi
  obtain ⟨b0, b1⟩ := hs k hk
  have hi' : (i : Int) < 8 := by omega
  have hk' : (k : Int) < 8 := by omega
  clear hs
  by_cases g1 : st.bg k < st.en i
  · have d1 : decide (st.bg k < st.en i) = true := by simpa using g1
    by_cases g2 : st.bg i < st.en k
    · have HE := hideIt (show smB st i k = true by unfold smB; simp [g1, g2])
      have d2 : decide (st.bg i < st.en k) = true := by simpa using g2
      go_enter Tryd.func21, Tryd.ntmps21
      go_wp2_with fail
      go_quiet (fail)
      go_wp2
      go_ret
      exact ⟨by rw [HE.out]; rfl, by repeat (first | exact Below.refl _ _ | refine Below.drew ?_ | exact below_drewN (Below.refl _ _) _)⟩
    · have HE := hideIt (show smB st i k = false by unfold smB; simp [g2])
      have d2 : decide (st.bg i < st.en k) = false := by simpa using g2
      go_enter Tryd.func21, Tryd.ntmps21
      go_wp2_with fail
      go_quiet (fail)
      go_wp2
      go_ret
      exact ⟨by rw [HE.out]; rfl, by repeat (first | exact Below.refl _ _ | refine Below.drew ?_ | exact below_drewN (Below.refl _ _) _)⟩
  · have d1 : decide (st.bg k < st.en i) = false := by simpa using g1
    have HE := hideIt (show smB st i k = false by unfold smB; simp [g1])
    go_enter Tryd.func21, Tryd.ntmps21
    go_wp2_with fail
    go_quiet (fail)
    go_wp2
    go_ret
    exact ⟨by rw [HE.out]; rfl, by repeat (first | exact Below.refl _ _ | refine Below.drew ?_ | exact below_drewN (Below.refl _ _) _)⟩

/-- Who is read anew by one, or reads anew what it makes, at the same time: of the first ones. -/
def fiB (n : Nat) (st : MvS) (t k : Nat) : Bool := (List.range k).any fun o => anB (mvSt n st) o t && smB st o t
def foB (n : Nat) (st : MvS) (t k : Nat) : Bool := (List.range k).any fun o => anB (mvSt n st) t o && smB st t o
theorem fiB_succ (n : Nat) (st : MvS) (t k : Nat) : fiB n st t (k + 1) = (fiB n st t k || (anB (mvSt n st) k t && smB st k t)) := by simp [fiB, List.range_succ, List.any_append]
theorem foB_succ (n : Nat) (st : MvS) (t k : Nat) : foB n st t (k + 1) = (foB n st t k || (anB (mvSt n st) t k && smB st t k)) := by simp [foB, List.range_succ, List.any_append]
theorem fek_some {st : MvS} (h : MvI 8 st) (hs : serG (mvSt 8 st) ≠ 0) : ∃ t, t < 8 ∧ fiB 8 st t 8 = true ∧ foB 8 st t 8 = true := by
  obtain ⟨a, b, c, ha, hb, hc, v1, v2⟩ := h.fekete (Nat.le_refl _) hs
  obtain ⟨p1, _, _, _, t1, t2, _⟩ := v1
  obtain ⟨q1, _, _, _, u1, u2, _⟩ := v2
  refine ⟨b, hb, List.any_eq_true.2 ⟨a, List.mem_range.2 ha, ?_⟩, List.any_eq_true.2 ⟨c, List.mem_range.2 hc, ?_⟩⟩
  · unfold smB
    rw [p1]
    simp [t1, t2]
  · unfold smB
    rw [q1]
    simp [u1, u2]

set_option maxRecDepth 100000 in
set_option maxHeartbeats 8000000 in
theorem fekete_walk {PB : World → World → Nat → Bool → Nat → MvS → (Nat → Prop) → Prop} (hP : BaseSt PB) (l : List (Int × Int × Int)) (hlm : l.length ≤ maxLen) (a : Option Addr) (cap : Nat) (W : World) (ha : AsksQ W a l) (hg : GlE W) :
    Calls Tryd.prog 5 #[.slice a l.length cap] W fun e W' => e = .returned (.bool true) ∧ Below W.heap.size W W' := by
  unfold maxLen at hlm
  by_cases h80 : 80 < l.length
  · have h80' : (80 : Int) < (l.length : Int) := by omega
    clear ha hP hg
    go_enter Tryd.func5, Tryd.ntmps5
    go_wp2
    go_ret
    exact ⟨rfl, Below.refl _ _⟩
  have h80' : ¬ (80 : Int) < (l.length : Int) := by omega
  have HPl := hideIt (played_any hP.toBaseOk false l (by omega) a cap W ha)
  have HP := hideIt hP
  have HG := hideIt hg
  have hI := run_ok false 8 l (MvI.start 8)
  have HI := hideIt hI
  have HFl := hideIt (hI.flt (Nat.le_refl _))
  generalize hst : runM false 8 mv0 l = st at *
  have HFk := hideIt (fun h => fek_some hI h)
  have hlen := mv_len 8 st
  have hord := mv_ord 8 st
  clear ha hP hg hI hst
  go_enter Tryd.func5, Tryd.ntmps5
  go_wp2_with fail
  refine HPl.out.mono ?_
  rintro e W1 ⟨B, S, rfl, h1⟩
  have hb1 := HP.out.bel h1
  have HBs := hideIt (based_any HP.out.toBaseOk W1 (HG.out.below hb1))
  have H1 := hideIt h1
  have HB1 := hideIt hb1
  clear HPl h1 hb1
  go_wp2_with fail
  refine HBs.out.mono ?_
  rintro e W2 ⟨rfl, hb2⟩
  have h2 := HP.out.toBaseOk.below H1.out hb2
  have HSt := hideIt (HP.out.story h2 HI.out (Nat.le_refl _))
  have HB2 := hideIt (belJ HB1.out hb2)
  have H2 := hideIt h2
  clear HBs H1 HB1 h2 hb2
  go_wp2_with fail
  refine HSt.out.mono ?_
  rintro e W3 ⟨sa, sca, sb, scb, rfl, hsq, hb3⟩
  have HB3 := hideIt (belJ HB2.out hb3)
  have hB4 : Below W3.heap.size W3 (W3.alloc (.cells #[.slice sa (mvSt 8 st).txs.length sca, .slice sb (mvSt 8 st).ord.length scb] 44)) := belA (Below.refl _ _) _
  have HB4 := hideIt (belJ HB3.out hB4)
  have hnew := box2 W3 (.slice sa (mvSt 8 st).txs.length sca) (.slice sb (mvSt 8 st).ord.length scb) 44
  have HQ := hideIt (hsq.below hB4)
  have HSp := hideIt (HP.out.spans (HP.out.toBaseOk.below H2.out (belJ hb3 hB4)) HI.out (Nat.le_refl _))
  clear HSt hsq hb3 HB2 hB4 H2
  go_wp2_with fail
  refine HSp.out.mono ?_
  rintro e W5 ⟨pa, pca, rfl, hpc, hsp, hb5⟩
  have s0 := (hb5.cell (p := ⟨W3.heap.size, 0, none⟩) (by simp)).trans hnew.1
  have s1 := (hb5.cell (p := ⟨W3.heap.size, 1, none⟩) (by simp)).trans hnew.2
  have HB5 := hideIt (belJ HB4.out hb5)
  have hWs : W3.heap.size < W5.heap.size := by have := hb5.size; simp at this; omega
  obtain ⟨pg, po, rfl, hpg, hps⟩ : ∃ b off, pa = some ⟨b, off, none⟩ ∧ b < W5.heap.size ∧ ∀ k, k < 8 → W5.cell? ⟨b, off + k * 2, none⟩ = some (.int .i64 (st.bg k)) ∧ W5.cell? ⟨b, off + k * 2 + 1, none⟩ = some (.int .i64 (st.en k)) := by
    rcases hsp with e | e
    · omega
    · exact e
  have HPs := hideIt hps
  have hB6 : Below W5.heap.size W5 (W5.alloc (.cells #[.slice (some ⟨pg, po, none⟩) 8 pca] 50)) := belA (Below.refl _ _) _
  have HB6 := hideIt hB6
  have p0 := box1 W5 (.slice (some ⟨pg, po, none⟩) 8 pca) 50
  have HQ6 := hideIt ((HQ.out.below hb5).below hB6)
  have HSr := hideIt (serial_any (mvSt 8 st) sa sb sca scb _ HQ6.out)
  have s0' := (hB6.cell (p := ⟨W3.heap.size, 0, none⟩) hWs).trans s0
  have s1' := (hB6.cell (p := ⟨W3.heap.size, 1, none⟩) hWs).trans s1
  unfold SerTold at HSr
  clear HSp hb5 hnew HQ hsp hps hB6
  go_wp2_with fail
  refine HSr.out.mono ?_
  rintro e W7 ⟨vs, rfl, _, hb7⟩
  have t0 := (hb7.cell (p := ⟨W3.heap.size, 0, none⟩) (by simp; omega)).trans s0'
  have t1 := (hb7.cell (p := ⟨W3.heap.size, 1, none⟩) (by simp; omega)).trans s1'
  have p7 := (hb7.cell (p := ⟨W5.heap.size, 0, none⟩) (by simp)).trans p0
  have HB7 := hideIt (belJ HB6.out hb7)
  have HAl := hideIt (all_any (mvSt 8 st) sa sb sca scb W7 (HQ6.out.below hb7))
  have h75 : W5.heap.size < W7.heap.size := by have := hb7.size; simp at this; omega
  unfold AllTold at HAl
  clear HSr hb7 HQ6 s0 s1 s0' s1' p0
  go_wp2_with fail
  refine HAl.out.mono ?_
  rintro e W8 ⟨v1, v2, v3, rfl, hrd, _, hb8⟩
  obtain ⟨⟨a1, k1, rfl, _, _⟩, ⟨a2, k2, rfl, _, _⟩, hR3⟩ := hrd HFl.out
  have c0 := (hb8.cell (p := ⟨W3.heap.size, 0, none⟩) (by show W3.heap.size < W7.heap.size; omega)).trans t0
  have c1 := (hb8.cell (p := ⟨W3.heap.size, 1, none⟩) (by show W3.heap.size < W7.heap.size; omega)).trans t1
  have p8 := (hb8.cell (p := ⟨W5.heap.size, 0, none⟩) h75).trans p7
  have HB8 := hideIt (belJ HB7.out hb8)
  have h85 : W7.heap.size ≤ W8.heap.size := hb8.size
  rw [hlen] at hR3 c0
  obtain ⟨ea, eca, rfl, hec, hR⟩ := hR3
  have HR := hideIt hR
  rw [HFl.out]
  have ht0 : toldV 0 = .nilIface := rfl
  rw [ht0]
  clear HAl hrd hR t0 t1 p7 hb8
  have hB9 : Below W8.heap.size W8 (W8.alloc (.cells #[.slice a1 8 k1, .slice a2 8 k2, .slice ea 8 eca] 58)) := belA (Below.refl _ _) _
  have hnw9 := heap_alloc_new W8 (.cells #[.slice a1 8 k1, .slice a2 8 k2, .slice ea 8 eca] 58)
  have x2 : (W8.alloc (.cells #[.slice a1 8 k1, .slice a2 8 k2, .slice ea 8 eca] 58)).cell? ⟨W8.heap.size, 2, none⟩ = some (.slice ea 8 eca) := by rw [cell_of_row _ _ _ _ 58 _ hnw9]; rfl
  have q3 := (hB9.cell (p := ⟨W3.heap.size, 0, none⟩) (by show W3.heap.size < W8.heap.size; omega)).trans c0
  have q5 := (hB9.cell (p := ⟨W5.heap.size, 0, none⟩) (by show W5.heap.size < W8.heap.size; omega)).trans p8
  have n3 : ¬ W3.heap.size = W8.heap.size := by omega
  have n4 : ¬ W8.heap.size = W3.heap.size := by omega
  have n5 : ¬ W5.heap.size = W8.heap.size := by omega
  have n6 : ¬ W8.heap.size = W5.heap.size := by omega
  by_cases hser : serG (mvSt 8 st) = 0
  · have hto : toldV (serG (mvSt 8 st)) = .nilIface := by rw [hser]; rfl
    rw [hto]
    go_wp2
    go_ret
    exact ⟨rfl, (belJ HB5.out HB8.out).alloc (by have := (belJ HB5.out HB8.out).size; omega) _⟩
  have hto : toldV (serG (mvSt 8 st)) = .iface 29 (.int .i64 (serG (mvSt 8 st))) := by unfold toldV; rw [if_neg hser]
  rw [hto]
  have HPv := hideIt (HFk.out hser)
  generalize serG (mvSt 8 st) = sg at *
  have HX : Hid (∀ wr, Below (W8.heap.size + 1) (W8.alloc (.cells #[.slice a1 8 k1, .slice a2 8 k2, .slice ea 8 eca] 58)) wr → wr.cell? ⟨W3.heap.size, 0, none⟩ = some (.slice sa 8 sca) ∧ wr.cell? ⟨W8.heap.size, 2, none⟩ = some (.slice ea 8 eca) ∧ wr.cell? ⟨W5.heap.size, 0, none⟩ = some (.slice (some ⟨pg, po, none⟩) 8 pca) ∧ Below W8.heap.size W8 wr) := fun wr h =>
    ⟨(h.cell (p := ⟨W3.heap.size, 0, none⟩) (by show W3.heap.size < W8.heap.size + 1; omega)).trans ((hB9.cell (p := ⟨W3.heap.size, 0, none⟩) (by show W3.heap.size < W8.heap.size; omega)).trans c0),
      (h.cell (p := ⟨W8.heap.size, 2, none⟩) (by show W8.heap.size < W8.heap.size + 1; omega)).trans x2,
      (h.cell (p := ⟨W5.heap.size, 0, none⟩) (by show W5.heap.size < W8.heap.size + 1; omega)).trans ((hB9.cell (p := ⟨W5.heap.size, 0, none⟩) (by show W5.heap.size < W8.heap.size; omega)).trans p8), hB9.trans (h.mono (by omega))⟩
  have HSm : Hid (∀ wr, Below W8.heap.size W8 wr → wr.cell? ⟨W5.heap.size, 0, none⟩ = some (.slice (some ⟨pg, po, none⟩) 8 pca) → ∀ i k : Nat, i < 8 → k < 8 → Calls Tryd.prog 21 #[.int .i64 (i : Int), .int .i64 (k : Int), .pointer (some ⟨W5.heap.size, 0, none⟩)] wr fun e w' => e = .returned (.bool (smB st i k)) ∧ Below wr.heap.size wr w') := fun wr hb h0 i k hi hk =>
    same_any st pg po pca W5.heap.size wr h0 (fun q hq => by
      obtain ⟨y0, y1⟩ := HPs.out q hq
      have hbb := belJ HB8.out hb
      exact ⟨(hbb.cell (p := ⟨pg, po + q * 2, none⟩) hpg).trans y0, (hbb.cell (p := ⟨pg, po + q * 2 + 1, none⟩) hpg).trans y1⟩) i k hi hk
  have HRd : Hid (∀ wr, Below W8.heap.size W8 wr → ∀ i, i < 8 → ∃ g off r, ea = some ⟨g, off, none⟩ ∧ wr.cell? ⟨g, off + i, none⟩ = some (.slice (some ⟨r, 0, none⟩) 8 8) ∧ ∀ k, k < 8 → wr.cell? ⟨r, k, none⟩ = some (.bool (anB (mvSt 8 st) i k))) := fun wr hb i hi => by
    obtain ⟨g, off, r, e1, h1, h2⟩ := HR.out i hi
    exact ⟨g, off, r, e1, (hb.cell (p := ⟨g, off + i, none⟩) (World.block_lt_of_cell? W8 _ h1)).trans h1, fun k hk => (hb.cell (p := ⟨r, k, none⟩) (World.block_lt_of_cell? W8 _ (h2 k hk))).trans (h2 k hk)⟩
  have HBf := hideIt (belJ HB5.out HB8.out)
  go_wp2
  clear hB9 hnw9 x2 c0 c1 p8 n3 n4 n5 n6 q3 q5 HB3 HB4 HB5 HB6 HB7 HB8 HR HPs HP HG
  have hsz : (W8.alloc (.cells #[.slice a1 8 k1, .slice a2 8 k2, .slice ea 8 eca] 58)).heap.size = W8.heap.size + 1 := by simp
  generalize W8.alloc (.cells #[.slice a1 8 k1, .slice a2 8 k2, .slice ea 8 eca] 58) = W9 at HX hsz ⊢
  go_loopw [11] (fun v wr => ∃ t : Nat, t ≤ 8 ∧ v = .int .i64 t ∧ Below (W8.heap.size + 1) W9 wr ∧ ∀ u, u < t → ¬ (fiB 8 st u 8 = true ∧ foB 8 st u 8 = true)) (fun v _ => 8 - (intOf v).toNat)
  case atStart => exact ⟨0, Nat.zero_le _, rfl, Below.refl _ _, fun u hu => absurd hu (by omega)⟩
  case round =>
    obtain ⟨t, ht, rfl, hb, hno⟩ := hrel
    have HB := hideIt hb
    have HNo := hideIt hno
    obtain ⟨y0, y1, y2, hy8⟩ := HX.out wr hb
    clear hb hno
    by_cases ht8 : t < 8
    · have ht8' : (t : Int) < 8 := by omega
      go_wp2
      clear y0 y1 y2 hy8
      go_loopw [12, 13, 14] (fun vi vo v wz => ∃ k : Nat, k ≤ 8 ∧ vi = .bool (fiB 8 st t k) ∧ vo = .bool (foB 8 st t k) ∧ v = .int .i64 k ∧ Below (W8.heap.size + 1) W9 wz) (fun _ _ v _ => 8 - (intOf v).toNat)
      case atStart => exact ⟨0, Nat.zero_le _, rfl, rfl, rfl, HB.out⟩
      case round =>
        obtain ⟨k, hk, rfl, rfl, rfl, hb⟩ := hrel
        replace HB := hideIt hb
        obtain ⟨y0, y1, y2, hy8⟩ := HX.out wr hb
        clear hb
        by_cases hk8 : k < 8
        · have hk8' : (k : Int) < 8 := by omega
          obtain ⟨g, off, r, rfl, z2, z3⟩ := HRd.out wr hy8 k hk8
          obtain ⟨g', off', r', e1, z0, z4⟩ := HRd.out wr hy8 t ht8
          injection e1 with e1
          injection e1 with e2 e3
          subst e2 e3
          have z5 := z3 t ht8
          have z1 := z4 k hk8
          clear z3 z4
          cases hfi : fiB 8 st t k
          · cases han : anB (mvSt 8 st) k t
            · rw [han] at z5
              have HIn : Hid (fiB 8 st t (k + 1) = false) := by
                show fiB 8 st t (k + 1) = false
                rw [fiB_succ, hfi, han]; rfl
              clear hfi han
              cases hfo : foB 8 st t k
              · cases hao : anB (mvSt 8 st) t k
                · rw [hao] at z1
                  have HOut : Hid (foB 8 st t (k + 1) = false) := by
                    show foB 8 st t (k + 1) = false
                    rw [foB_succ, hfo, hao]; rfl
                  clear hfo hao
                  go_wp2
                  go_roundw
                  case rel => exact ⟨k + 1, by omega, congrArg Value.bool HIn.out.symm, congrArg Value.bool HOut.out.symm, by go_num, HB.out⟩
                  case measure => simp [intOf]; omega
                · rw [hao] at z1
                  have HOut : Hid (foB 8 st t (k + 1) = smB st t k) := by
                    show foB 8 st t (k + 1) = smB st t k
                    rw [foB_succ, hfo, hao]; rfl
                  clear hfo hao
                  go_wp2_with fail
                  refine (HSm.out wr hy8 y2 t k ht8 hk8).mono ?_
                  rintro e w3 ⟨rfl, hb3⟩
                  have HB3 := hideIt ((HB.out).trans (hb3.mono (by have := (HB.out).size; omega)))
                  clear hb3
                  go_wp2
                  go_roundw
                  case rel => exact ⟨k + 1, by omega, congrArg Value.bool HIn.out.symm, congrArg Value.bool HOut.out.symm, by go_num, HB3.out⟩
                  case measure => simp [intOf]; omega
              · have HOut : Hid (foB 8 st t (k + 1) = true) := by
                  show foB 8 st t (k + 1) = true
                  rw [foB_succ, hfo]; rfl
                clear hfo
                go_wp2
                go_roundw
                case rel => exact ⟨k + 1, by omega, congrArg Value.bool HIn.out.symm, congrArg Value.bool HOut.out.symm, by go_num, HB.out⟩
                case measure => simp [intOf]; omega
            · rw [han] at z5
              have HIn : Hid (fiB 8 st t (k + 1) = smB st k t) := by
                show fiB 8 st t (k + 1) = smB st k t
                rw [fiB_succ, hfi, han]; rfl
              clear hfi han
              go_wp2_with fail
              refine (HSm.out wr hy8 y2 k t hk8 ht8).mono ?_
              rintro e w2 ⟨rfl, hb2⟩
              have HB2 := hideIt (HB.out.trans (hb2.mono (by have := HB.out.size; omega)))
              clear hb2 y0 y1 y2 hy8 z0 z1 z2 z5
              obtain ⟨y0, y1, y2, hy8⟩ := HX.out w2 HB2.out
              obtain ⟨g', off', r2, e1, z0, z4⟩ := HRd.out w2 hy8 t ht8
              injection e1 with e1
              injection e1 with e2 e3
              subst e2 e3
              have z1 := z4 k hk8
              clear z4
              cases hfo : foB 8 st t k
              · cases hao : anB (mvSt 8 st) t k
                · rw [hao] at z1
                  have HOut : Hid (foB 8 st t (k + 1) = false) := by
                    show foB 8 st t (k + 1) = false
                    rw [foB_succ, hfo, hao]; rfl
                  clear hfo hao
                  go_wp2
                  go_roundw
                  case rel => exact ⟨k + 1, by omega, congrArg Value.bool HIn.out.symm, congrArg Value.bool HOut.out.symm, by go_num, HB2.out⟩
                  case measure => simp [intOf]; omega
                · rw [hao] at z1
                  have HOut : Hid (foB 8 st t (k + 1) = smB st t k) := by
                    show foB 8 st t (k + 1) = smB st t k
                    rw [foB_succ, hfo, hao]; rfl
                  clear hfo hao
                  go_wp2_with fail
                  refine (HSm.out w2 hy8 y2 t k ht8 hk8).mono ?_
                  rintro e w3 ⟨rfl, hb3⟩
                  have HB3 := hideIt ((HB2.out).trans (hb3.mono (by have := (HB2.out).size; omega)))
                  clear hb3
                  go_wp2
                  go_roundw
                  case rel => exact ⟨k + 1, by omega, congrArg Value.bool HIn.out.symm, congrArg Value.bool HOut.out.symm, by go_num, HB3.out⟩
                  case measure => simp [intOf]; omega
              · have HOut : Hid (foB 8 st t (k + 1) = true) := by
                  show foB 8 st t (k + 1) = true
                  rw [foB_succ, hfo]; rfl
                clear hfo
                go_wp2
                go_roundw
                case rel => exact ⟨k + 1, by omega, congrArg Value.bool HIn.out.symm, congrArg Value.bool HOut.out.symm, by go_num, HB2.out⟩
                case measure => simp [intOf]; omega
          · have HIn : Hid (fiB 8 st t (k + 1) = true) := by
              show fiB 8 st t (k + 1) = true
              rw [fiB_succ, hfi]; rfl
            clear hfi
            cases hfo : foB 8 st t k
            · cases hao : anB (mvSt 8 st) t k
              · rw [hao] at z1
                have HOut : Hid (foB 8 st t (k + 1) = false) := by
                  show foB 8 st t (k + 1) = false
                  rw [foB_succ, hfo, hao]; rfl
                clear hfo hao
                go_wp2
                go_roundw
                case rel => exact ⟨k + 1, by omega, congrArg Value.bool HIn.out.symm, congrArg Value.bool HOut.out.symm, by go_num, HB.out⟩
                case measure => simp [intOf]; omega
              · rw [hao] at z1
                have HOut : Hid (foB 8 st t (k + 1) = smB st t k) := by
                  show foB 8 st t (k + 1) = smB st t k
                  rw [foB_succ, hfo, hao]; rfl
                clear hfo hao
                go_wp2_with fail
                refine (HSm.out wr hy8 y2 t k ht8 hk8).mono ?_
                rintro e w3 ⟨rfl, hb3⟩
                have HB3 := hideIt ((HB.out).trans (hb3.mono (by have := (HB.out).size; omega)))
                clear hb3
                go_wp2
                go_roundw
                case rel => exact ⟨k + 1, by omega, congrArg Value.bool HIn.out.symm, congrArg Value.bool HOut.out.symm, by go_num, HB3.out⟩
                case measure => simp [intOf]; omega
            · have HOut : Hid (foB 8 st t (k + 1) = true) := by
                show foB 8 st t (k + 1) = true
                rw [foB_succ, hfo]; rfl
              clear hfo
              go_wp2
              go_roundw
              case rel => exact ⟨k + 1, by omega, congrArg Value.bool HIn.out.symm, congrArg Value.bool HOut.out.symm, by go_num, HB.out⟩
              case measure => simp [intOf]; omega
        · have hk8' : ¬ (k : Int) < 8 := by omega
          have hke : k = 8 := by omega
          rw [hke]
          cases hfi : fiB 8 st t 8
          · have HNo2 : Hid (∀ u, u < t + 1 → ¬ (fiB 8 st u 8 = true ∧ foB 8 st u 8 = true)) := fun u hu h => by
              by_cases e : u = t
              · rw [e, hfi] at h; cases h.1
              · exact HNo.out u (by omega) h
            clear hfi
            go_wp2
            go_roundw
            case rel => exact ⟨t + 1, by omega, by go_num, HB.out, HNo2.out⟩
            case measure => simp [intOf]; omega
          · cases hfo : foB 8 st t 8
            · have HNo2 : Hid (∀ u, u < t + 1 → ¬ (fiB 8 st u 8 = true ∧ foB 8 st u 8 = true)) := fun u hu h => by
                by_cases e : u = t
                · rw [e, hfo] at h; cases h.2
                · exact HNo.out u (by omega) h
              clear hfi hfo
              go_wp2
              go_roundw
              case rel => exact ⟨t + 1, by omega, by go_num, HB.out, HNo2.out⟩
              case measure => simp [intOf]; omega
            · clear hfi hfo
              go_wp2
              go_ret
              exact ⟨rfl, belJ HBf.out hy8⟩
    · have ht8' : ¬ (t : Int) < 8 := by omega
      obtain ⟨u, hu, h1, h2⟩ := HPv.out
      exact absurd ⟨h1, h2⟩ (HNo.out u (by omega))
end Go.Proofs.YtaopigjhdkdklaaDoor
