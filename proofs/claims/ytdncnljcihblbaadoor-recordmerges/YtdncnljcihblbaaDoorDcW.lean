/-
  Bytes as an event, or none: the program's way, walked.
-/
import Derived.Test.YtdncnljcihblbaaDoorRdW
namespace Go.Proofs.YtdncnljcihblbaaDoor
open Go.RowKit

set_option maxHeartbeats 1000000 in
theorem equal_any (v1 v2 : Value) (l m : List Nat) (w : World) (h1 : ByQ w v1 l) (h2 : ByQ w v2 m) :
    Calls Tryd.prog 29 #[v1, v2] w fun e w' => e = .returned (.bool (decide (l = m))) ∧ w' = w := by
  have s1 := h1.str
  have s2 := h2.str
  rw [← strB_beq h1.1 h2.1]
  clear h1 h2
  go_enter Tryd.func29, Tryd.ntmps29
  go_wp2
  go_ret
  exact ⟨rfl, rfl⟩

theorem bcell {W w1 : World} (hb : Below W.heap.size W w1) : (∀ b o, b < W.heap.size → w1.cell? ⟨b, o, none⟩ = W.cell? ⟨b, o, none⟩) ∧ (∀ b o, b < W.heap.size → w1.frozen? ⟨b, o, none⟩ = W.frozen? ⟨b, o, none⟩) :=
  ⟨fun b o h => hb.cell (p := ⟨b, o, none⟩) h, fun b o h => hb.frozen (p := ⟨b, o, none⟩) h⟩

theorem bel7 {w W : World} (h : Below w.heap.size w W) (v0 v1 v2 v3 v4 v5 v6 : Value) : Below w.heap.size w (((((((W.setCell ⟨w.heap.size, 0, none⟩ v0).setCell ⟨w.heap.size, 1, none⟩ v1).setCell ⟨w.heap.size, 2, none⟩ v2).setCell ⟨w.heap.size, 3, none⟩ v3).setCell ⟨w.heap.size, 4, none⟩ v4).setCell ⟨w.heap.size, 5, none⟩ v5).setCell ⟨w.heap.size, 6, none⟩ v6) :=
  bel_set (bel_set (bel_set (bel_set (bel_set (bel_set (bel_set h _ _) _ _) _ _) _ _) _ _) _ _) _ _

/-- What Decode tells. -/
def decV (l : List Nat) : Value := match decL l with
  | none => .tuple #[zeroE.agg, .iface 28 (.int .i64 3)]
  | some e => .tuple #[e.agg, .nilIface]

set_option maxHeartbeats 1000000 in
set_option maxRecDepth 100000 in
theorem decode_any (v : Value) (l : List Nat) (w : World) (hq : ByQ w v l) (hl : l.length ≤ 70000) :
    Calls Tryd.prog 14 #[v] w fun e w' => e = .returned (decV l) ∧ Below w.heap.size w w' := by
  have HR := hideIt (fun W (hb : Below w.heap.size w W) => read_any v l W (hq.below hb) hl)
  have HQ := hideIt hq
  clear hq
  cases hr : readP l with
  | none =>
    have e1 : rdE l = .tuple #[zeroE.agg, .bool false] := by unfold rdE; rw [hr]
    have e2 : decV l = .tuple #[zeroE.agg, .iface 28 (.int .i64 3)] := by unfold decV decL; rw [hr]
    rw [e2]
    simp only [e1] at HR
    clear e1 e2 hr
    unfold zeroE Ev.agg at *
    go_enter Tryd.func14, Tryd.ntmps14
    go_wp2_with fail
    refine (HR.out _ (below_alloc (Below.refl _ _) _)).mono ?_
    rintro x w1 ⟨rfl, hb1⟩
    have HB1 := hideIt (below_join (below_alloc (Below.refl w.heap.size w) _) hb1)
    obtain ⟨hc1, hf1⟩ := bcell hb1
    have hz1 : w.heap.size < w1.heap.size := by have := hb1.size; simp at this; omega
    clear hb1
    go_wp2
    exact bodyPost_ret (v := .tuple #[.agg #[.int .i64 0, .int .i64 0, .int .i64 0, .int .i64 0, .int .i64 0, .int .i64 0, .int .i64 0], .iface 28 (.int .i64 3)]) (by simp [results, Tryd.results14, go_sem, hc1, hz1]) rfl ⟨rfl, below_alloc (bel7 HB1.out _ _ _ _ _ _ _) _⟩
  | some e =>
    have e1 : rdE l = .tuple #[e.agg, .bool true] := by unfold rdE; rw [hr]
    have HEb := hideIt (fun W => encode_bad e W)
    have HEo := hideIt (fun W => encode_ok e W)
    have HB : Hid (fltE e = 0 → Byt (encL e)) := fun h => encL_byte (okE_of h)
    have HV : Hid (decV l = if fltE e = 0 ∧ encL e = l then .tuple #[e.agg, .nilIface] else .tuple #[.agg #[.int .i64 0, .int .i64 0, .int .i64 0, .int .i64 0, .int .i64 0, .int .i64 0, .int .i64 0], .iface 28 (.int .i64 3)]) := by
      show decV l = _
      unfold decV decL
      rw [hr]
      show (match (if fltE e = 0 ∧ encL e = l then some e else none) with | none => Value.tuple #[zeroE.agg, .iface 28 (.int .i64 3)] | some e => .tuple #[e.agg, .nilIface]) = _
      split
      · rename_i h; split at h
        · cases h
        · rename_i h2; rw [if_neg h2]; rfl
      · rename_i h; split at h
        · rename_i h2; rw [if_pos h2]; cases h; rfl
        · cases h
    simp only [e1] at HR
    clear e1 hr
    obtain ⟨p, t, k, d, a, b, r⟩ := e
    by_cases hf : fltE ⟨p, t, k, d, a, b, r⟩ = 0
    · by_cases hen : encL ⟨p, t, k, d, a, b, r⟩ = l
      · rw [if_pos ⟨hf, hen⟩] at HV
        rw [HV.out]
        have hbyt := HB.out hf
        unfold Ev.agg at *
        simp only at *
        go_enter Tryd.func14, Tryd.ntmps14
        go_wp2_with fail
        refine (HR.out _ (below_alloc (Below.refl _ _) _)).mono ?_
        rintro x w1 ⟨rfl, hb1⟩
        have HB1 := hideIt (below_join (below_alloc (Below.refl w.heap.size w) _) hb1)
        obtain ⟨hc1, hf1⟩ := bcell hb1
        have hz1 : w.heap.size < w1.heap.size := by have := hb1.size; simp at this; omega
        clear hb1
        go_wp2_with fail
        refine (HEo.out _ hf).mono ?_
        rintro x w2 ⟨v2, rfl, ho2, hb2⟩
        have HY := hideIt (own_byq hbyt ho2)
        have HB2 := hideIt (below_join (below_alloc HB1.out _) hb2)
        obtain ⟨hc2, hf2⟩ := bcell hb2
        have hz2 : w1.heap.size < w2.heap.size := by have := hb2.size; simp at this; omega
        clear ho2 hb2
        go_wp2_with (go_at_call 29; refine (equal_any _ _ _ _ _ HY.out (HQ.out.below HB2.out)).mono ?_; rw [decide_eq_true hen]; rintro x w3 ⟨rfl, rfl⟩)
        exact bodyPost_ret (v := .tuple #[.agg #[.int .i64 p, .int .i64 t, .int .i64 k, .int .i64 d, .int .i64 a, .int .i64 b, .int .i64 r], .nilIface]) (by simp [results, Tryd.results14, go_sem, hc2, hc1, hz1, show w.heap.size < w1.heap.size + 1 from by omega]) rfl ⟨rfl, bel7 HB2.out _ _ _ _ _ _ _⟩
      · rw [if_neg (fun h => hen h.2)] at HV
        rw [HV.out]
        have hbyt := HB.out hf
        unfold Ev.agg at *
        simp only at *
        go_enter Tryd.func14, Tryd.ntmps14
        go_wp2_with fail
        refine (HR.out _ (below_alloc (Below.refl _ _) _)).mono ?_
        rintro x w1 ⟨rfl, hb1⟩
        have HB1 := hideIt (below_join (below_alloc (Below.refl w.heap.size w) _) hb1)
        obtain ⟨hc1, hf1⟩ := bcell hb1
        have hz1 : w.heap.size < w1.heap.size := by have := hb1.size; simp at this; omega
        clear hb1
        go_wp2_with fail
        refine (HEo.out _ hf).mono ?_
        rintro x w2 ⟨v2, rfl, ho2, hb2⟩
        have HY := hideIt (own_byq hbyt ho2)
        have HB2 := hideIt (below_join (below_alloc HB1.out _) hb2)
        obtain ⟨hc2, hf2⟩ := bcell hb2
        have hz2 : w1.heap.size < w2.heap.size := by have := hb2.size; simp at this; omega
        clear ho2 hb2
        go_wp2_with (go_at_call 29; refine (equal_any _ _ _ _ _ HY.out (HQ.out.below HB2.out)).mono ?_; rw [decide_eq_false hen]; rintro x w3 ⟨rfl, rfl⟩)
        exact bodyPost_ret (v := .tuple #[.agg #[.int .i64 0, .int .i64 0, .int .i64 0, .int .i64 0, .int .i64 0, .int .i64 0, .int .i64 0], .iface 28 (.int .i64 3)]) (by simp [results, Tryd.results14, go_sem, hc2, hc1, hz1, show w.heap.size < w1.heap.size + 1 from by omega]) rfl ⟨rfl, bel7 HB2.out _ _ _ _ _ _ _⟩
    · rw [if_neg (fun h => hf h.1)] at HV
      rw [HV.out]
      clear HB HV
      have ht : toldV (fltE ⟨p, t, k, d, a, b, r⟩) = .iface 28 (.int .i64 (fltE ⟨p, t, k, d, a, b, r⟩)) := by simp [toldV, hf]
      have HEb' : Hid (∀ W, Calls Tryd.prog 9 #[(⟨p, t, k, d, a, b, r⟩ : Ev).agg] W fun x w' => x = .returned (.tuple #[.slice none 0 0, .iface 28 (.int .i64 (fltE ⟨p, t, k, d, a, b, r⟩))]) ∧ Below W.heap.size W w') := fun W => by have := HEb.out W hf; rw [ht] at this; exact this
      clear ht HEb HEo
      generalize fltE ⟨p, t, k, d, a, b, r⟩ = ff at *
      unfold Ev.agg at *
      simp only at *
      go_enter Tryd.func14, Tryd.ntmps14
      go_wp2_with fail
      refine (HR.out _ (below_alloc (Below.refl _ _) _)).mono ?_
      rintro x w1 ⟨rfl, hb1⟩
      have HB1 := hideIt (below_join (below_alloc (Below.refl w.heap.size w) _) hb1)
      obtain ⟨hc1, hf1⟩ := bcell hb1
      have hz1 : w.heap.size < w1.heap.size := by have := hb1.size; simp at this; omega
      clear hb1
      go_wp2_with fail
      refine (HEb'.out _).mono ?_
      rintro x w2 ⟨rfl, hb2⟩
      have HB2 := hideIt (below_join (below_alloc HB1.out _) hb2)
      obtain ⟨hc2, hf2⟩ := bcell hb2
      have hz2 : w1.heap.size < w2.heap.size := by have := hb2.size; simp at this; omega
      clear hb2
      go_wp2
      exact bodyPost_ret (v := .tuple #[.agg #[.int .i64 0, .int .i64 0, .int .i64 0, .int .i64 0, .int .i64 0, .int .i64 0, .int .i64 0], .iface 28 (.int .i64 3)]) (by simp [results, Tryd.results14, go_sem, hc2, hc1, hz1, show w.heap.size < w1.heap.size + 1 from by omega]) rfl ⟨rfl, bel7 HB2.out _ _ _ _ _ _ _⟩

end Go.Proofs.YtdncnljcihblbaaDoor
