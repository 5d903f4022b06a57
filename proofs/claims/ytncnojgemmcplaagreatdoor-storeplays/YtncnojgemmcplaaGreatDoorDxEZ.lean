/-
  The statements' own events and sameEvents: walked.
  Chapter 16.1 of the document, walked: Linked.
-/
import Derived.Test.YtncnojgemmcplaaGreatDoorSwPZ
import Derived.Test.YtncnojgemmcplaaGreatDoorStBZ
import Derived.Test.YtncnojgemmcplaaGreatDoorEvs
import Derived.Deep.RegionHeld3
import Derived.Test.YtncnojgemmcplaaGreatDoorBsGZ
import Derived.Test.YtncnojgemmcplaaGreatDoorAbL
namespace Go.Proofs.YtncnojgemmcplaaGreatDoor.St.Dc
open Go.RowKit

theorem bel_drewN {B : Nat} {w W : World} (h : Below B w W) (k : Nat) : Below B w (W.drewN k) := ⟨h.os, h.tape, h.output, h.size, h.block⟩
/-- A slice of events that came in. -/
def EvQ (w : World) (v : Value) (l : List Ev) : Prop := ∃ a cap, v = .slice a l.length cap ∧ l.length ≤ cap ∧ (l = [] ∨ ∃ b off, a = some ⟨b, off, none⟩ ∧ b < w.heap.size ∧ EvsAt w b off l)
theorem infoR : (Tryz.prog.info? 110).map (fun i => (i.zero, i.size, i.bytes)) = some (some (.agg #[.int .i64 0, .int .i64 0, .int .i64 0, .int .i64 0, .int .i64 0, .int .i64 0, .int .i64 0]), 7, 56) := by kernel_rfl
theorem evC_get (L : List Ev) (i c : Nat) (hi : i < L.length) (hc : c < 7) : (evCells L)[i * 7 + c]? = L[i].cells[c]? := by
  induction L generalizing i with
  | nil => simp at hi
  | cons x r ih =>
    show (x.cells ++ evCells r)[i * 7 + c]? = _
    have hx : x.cells.length = 7 := rfl
    cases i with
    | zero =>
      rw [List.getElem?_append_left (by rw [hx]; omega)]
      simp
    | succ i =>
      rw [List.getElem?_append_right (by rw [hx]; omega), hx, show (i + 1) * 7 + c - 7 = i * 7 + c from by omega, ih i (by simpa using hi)]
      simp
/-- Events of one's own can be read, whatever their type. -/
theorem ownT_evq {W : World} {base : Nat} {e : TypeId} {v : Value} {l : List Ev} (h : W.ownsRow base e 7 v l.length (evCells l)) : EvQ W v l := by
  obtain ⟨h1, ⟨rfl, h2⟩ | ⟨g, cap, cur, rfl, h3, h4, h5, h6, h7, h8⟩⟩ := id h
  · exact ⟨none, 0, by rw [h2], by omega, Or.inl (List.eq_nil_of_length_eq_zero h2)⟩
  · refine ⟨_, cap, rfl, h5, Or.inr ⟨g, 0, rfl, (Array.getElem?_eq_some_iff.1 h4).1, fun i hi => ?_⟩⟩
    have key : ∀ c, c < 7 → W.cell? ⟨g, 0 + i * 7 + c, none⟩ = l[i].cells[c]? := fun c hc => by
      rw [Nat.zero_add, h.cellAt (i * 7 + c) (by omega), evC_get l i c hi hc]
    exact ⟨key 0 (by decide), key 1 (by decide), key 2 (by decide), key 3 (by decide), key 4 (by decide), key 5 (by decide), key 6 (by decide)⟩
theorem EvQ.low {w w' : World} {v : Value} {l : List Ev} (h : EvQ w v l) (hn : Below w.heap.size w w') : EvQ w' v l := by
  obtain ⟨a, c, h1, h2, h3 | ⟨b, o, h4, h5, h6⟩⟩ := h
  · exact ⟨a, c, h1, h2, Or.inl h3⟩
  · exact ⟨a, c, h1, h2, Or.inr ⟨b, o, h4, Nat.lt_of_lt_of_le h5 hn.size, fun i hi => (h6 i hi).below h5 hn⟩⟩
set_option maxHeartbeats 2000000 in
set_option maxRecDepth 100000 in
theorem events_any (v : Value) (l : List Ev) (w : World) (hq : EvQ w v l) (hl : l.length ≤ 100000) :
    Calls Tryz.prog 43 #[v] w fun e w' => ∃ v', e = .returned v' ∧ w'.ownsRow w.heap.size 110 7 v' l.length (evCells l) ∧ Below w.heap.size w w' := by
  obtain ⟨i0, hi, hz0, hz1, hz2⟩ := info_parts' infoR
  obtain ⟨a, c, rfl, hc, hA⟩ := hq
  have HA := hideIt hA
  clear hA
  go_enter Tryz.func43, Tryz.ntmps43
  go_wp2
  go_loopw [3, 4] (fun v i wr => ∃ k : Nat, k ≤ l.length ∧ i = .int .i64 k ∧ wr.ownsRow w.heap.size 110 7 v k (evCells (l.take k)) ∧ Below w.heap.size w wr) (fun _ i _ => l.length - (intOf i).toNat)
  case atStart => exact ⟨0, Nat.zero_le _, rfl, World.ownsRow_nil _ _ _ _, Below.refl _ _⟩
  case round =>
    obtain ⟨k, hk, rfl, hown, hnx⟩ := hrel
    have HO := hideIt hown
    have HX := hideIt hnx
    have hsz := hnx.size
    clear hown hnx
    by_cases hlt : k < l.length
    · rcases HA.out with h0 | ⟨b, o, rfl, hb, hat⟩
      · rw [h0] at hlt; exact absurd hlt (Nat.not_lt_zero _)
      · obtain ⟨c0, c1, c2, c3, c4, c5, c6⟩ := (hat k hlt).below hb HX.out
        have hbz : b < wr.heap.size := by omega
        have HT : Hid (evCells (l.take (k + 1)) = evCells (l.take k) ++ l[k].cells) := by
          show evCells (l.take (k + 1)) = evCells (l.take k) ++ l[k].cells
          rw [List.take_succ_eq_append_getElem hlt]
          unfold evCells; rw [List.flatMap_append, List.flatMap_singleton]
        clear hat
        generalize l[k] = x at *
        go_wp2_with (at_builtin; refine wpList_append_own _ rfl _ _ 55 rfl w.heap.size 110 i0 _ 7 56 Tryz.underlying55 hi hz0 hz1 hz2 rfl (by decide) _ _ _ rfl ((HO.out.alloc _).alloc _) ⟨wr.heap.size + 1, 0, none⟩ 1 1 [.int .i64 x.p, .int .i64 x.t, .int .i64 x.k, .int .i64 x.d, .int .i64 x.a, .int .i64 x.b, .int .i64 x.r] rfl rfl ?c1 ?c2 ?c3 ?c4 ?c5 ?_)
        case c1 =>
          intro j u hj
          exact new_atX (by simp) (by simpa using hj)
        case c2 => intro u hu; simp at hu; rcases hu with rfl | rfl | rfl | rfl | rfl | rfl | rfl <;> rfl
        case c3 => unfold maxLen; omega
        case c4 => omega
        case c5 => simp; omega
        intro v2 w4 ho4 hg4 _
        have R1 : Hid (w4.ownsRow w.heap.size 110 7 v2 (k + 1) (evCells (l.take (k + 1)))) := by
          show w4.ownsRow w.heap.size 110 7 v2 (k + 1) (evCells (l.take (k + 1)))
          rw [HT.out]; exact ho4
        have R2 : Hid (Below w.heap.size w w4) := (belA (belA HX.out _) _).grown hg4 (by simp; omega) (fun g hg => (HO.out.lt g hg).1)
        clear ho4 hg4
        go_wp2
        go_roundw
        case rel => exact ⟨k + 1, by omega, by go_num, R1.out, R2.out⟩
        case measure => simp [intOf]; omega
    · have hkl : k = l.length := by omega
      go_wp2
      go_ret
      refine ⟨_, rfl, ?_, HX.out⟩
      have := HO.out
      rw [hkl, List.take_length] at this
      exact this

theorem own_shapeX {W : World} {base : Nat} {e : TypeId} {z : Nat} {v : Value} {n : Nat} {xs : List Value} (h : W.ownsRow base e z v n xs) : ∃ a c, v = .slice a n c := by
  obtain ⟨_, ⟨rfl, h0⟩ | ⟨g, c, _, rfl, _⟩⟩ := h
  · exact ⟨none, 0, by rw [h0]⟩
  · exact ⟨_, c, rfl⟩

set_option maxHeartbeats 1000000 in
set_option maxRecDepth 100000 in
theorem sameEvents_true (va vb : Value) (l : List Ev) (w : World) (ha : EvQ w va l) (hb : EvQ w vb l) (hl : l.length ≤ 100000) :
    Calls Tryz.prog 16 #[va, vb] w fun e w' => e = .returned (.bool true) ∧ Below w.heap.size w w' := by
  have HE := hideIt (events_any va l w ha hl)
  have HBQ := hideIt hb
  obtain ⟨ab, cb, rfl, hcb, _⟩ := hb
  obtain ⟨aa, ca, rfl, hca, _⟩ := ha
  go_enter Tryz.func16, Tryz.ntmps16
  go_wp2_with fail
  refine HE.out.mono ?_
  rintro x w1 ⟨v1, rfl, ho1, hb1⟩
  obtain ⟨a1, c1, rfl⟩ := own_shapeX ho1
  have hq1 := ownT_evq ho1
  have HB1 := hideIt hb1
  have hq2 := HBQ.out.low hb1
  clear ho1 hb1
  obtain ⟨a1', c1', e1, hc1, hA⟩ := hq1
  cases e1
  obtain ⟨b1', d1', e2, hd1, hB⟩ := hq2
  cases e2
  have HA := hideIt hA
  have HB := hideIt hB
  clear hA hB
  go_wp2
  go_loopw [6] (fun i wr => ∃ k n : Nat, k ≤ l.length ∧ i = .int .i64 k ∧ wr = w1.drewN n) (fun i _ => l.length - (intOf i).toNat)
  case atStart => exact ⟨0, 0, Nat.zero_le _, rfl, rfl⟩
  case round =>
    obtain ⟨k, n, hk, rfl, rfl⟩ := hrel
    by_cases hlt : k < l.length
    · rcases HA.out with h0 | ⟨ba, oa, rfl, hba, hA⟩
      · rw [h0] at hlt; exact absurd hlt (Nat.not_lt_zero _)
      rcases HB.out with h0 | ⟨bb, ob, rfl, hbb, hB⟩
      · rw [h0] at hlt; exact absurd hlt (Nat.not_lt_zero _)
      obtain ⟨c0, c1, c2, c3, c4, c5, c6⟩ := hA k hlt
      obtain ⟨d0, d1, d2, d3, d4, d5, d6⟩ := hB k hlt
      clear hA hB
      generalize l[k] = e at *
      go_wp2_with fail
      go_quiet (fail)
      go_wp2
      go_roundw
      case rel => exact ⟨k + 1, _, by omega, by go_num, rfl⟩
      case measure => simp [intOf]; omega
    · go_wp2
      go_ret
      exact ⟨rfl, bel_drewN HB1.out n⟩

end Go.Proofs.YtncnojgemmcplaaGreatDoor.St.Dc

namespace Go.Proofs.YtncnojgemmcplaaGreatDoor.St.Dc
open Go.RowKit

set_option maxRecDepth 100000 in
set_option maxHeartbeats 4000000 in
theorem linked_any (what n who a b : Int) (hn : 1 ≤ n ∧ n ≤ 7) (ha : 0 ≤ a ∧ a < n) (hb : 0 ≤ b ∧ b < n) (w : World) :
    Calls Tryz.prog 38 #[.int .i64 what, .int .i64 n, .int .i64 who, .int .i64 a, .int .i64 b] w fun e w' => e = .returned (.bool (linkedB what n who a b)) ∧ w' = w := by
  have q1 : n.tdiv 2 = n / 2 := Int.tdiv_eq_ediv_of_nonneg (by omega)
  have q2 : (n / 2 + 1).tdiv 2 = (n / 2 + 1) / 2 := Int.tdiv_eq_ediv_of_nonneg (by omega)
  have w1 : IntKind.i64.wrap (n / 2) = n / 2 := IntWalk.i64_in _ (by omega)
  have w2 : IntKind.i64.wrap (n / 2 + 1) = n / 2 + 1 := IntWalk.i64_in _ (by omega)
  have w3 : IntKind.i64.wrap ((n / 2 + 1) / 2) = (n / 2 + 1) / 2 := IntWalk.i64_in _ (by omega)
  by_cases e : a = b
  · subst e
    go_enter Tryz.func38, Tryz.ntmps38
    go_wp2
    go_ret
    exact ⟨ret_bool (linked_refl _ _ _ _).symm, rfl⟩
  have e' : (a == b) = false := by simp [e]
  by_cases e0 : what = 0
  · subst e0
    go_enter Tryz.func38, Tryz.ntmps38
    go_wp2
    go_ret
    exact ⟨ret_bool (by unfold linkedB; rw [if_neg e, if_pos rfl]), rfl⟩
  have e0' : (what == 0) = false := by simp [e0]
  by_cases e1 : what = 1
  · subst e1
    go_enter Tryz.func38, Tryz.ntmps38
    go_wp2
    go_ret
    exact ⟨ret_bool (by unfold linkedB; rw [if_neg e, if_neg (by decide), if_pos rfl]), rfl⟩
  have e1' : (what == 1) = false := by simp [e1]
  by_cases e2 : what = 2
  · subst e2
    have L2 : linkedB 2 n who a b = ((decide (a < n / 2) == decide (b < n / 2)) || decide (a = n / 2) || decide (b = n / 2)) := by unfold linkedB; rw [if_neg e, if_neg (by decide), if_neg (by decide), if_pos rfl]
    rw [L2]
    cases hh : (decide (a < n / 2) == decide (b < n / 2)) with
    | true =>
      go_enter Tryz.func38, Tryz.ntmps38
      go_wp2
      go_ret
      exact ⟨ret_bool (by simp), rfl⟩
    | false =>
      by_cases h1 : a = n / 2
      · have h1' : (a == n / 2) = true := by simp [h1]
        have H1 := hideIt h1
        go_enter Tryz.func38, Tryz.ntmps38
        go_wp2
        all_goals (go_ret; exact ⟨ret_bool (by first | rfl | (have h9 := H1.out; simp [h9])), rfl⟩)
      · have h1' : (a == n / 2) = false := by simp [h1]
        by_cases h2 : b = n / 2
        · have h2' : (b == n / 2) = true := by simp [h2]
          have H1 := hideIt h2
          go_enter Tryz.func38, Tryz.ntmps38
          go_wp2
          all_goals (go_ret; exact ⟨ret_bool (by first | rfl | (have h9 := H1.out; simp [h9])), rfl⟩)
        · have h2' : (b == n / 2) = false := by simp [h2]
          go_enter Tryz.func38, Tryz.ntmps38
          go_wp2
          go_ret
          exact ⟨ret_bool (by simp [h1, h2]), rfl⟩
  have e2' : (what == 2) = false := by simp [e2]
  by_cases e3 : what = 3
  · subst e3
    have L3 : linkedB 3 n who a b = decide (min (if a - b < 0 then -(a - b) else a - b) (n - (if a - b < 0 then -(a - b) else a - b)) ≤ (n / 2 + 1) / 2) := by unfold linkedB; rw [if_neg e, if_neg (by decide), if_neg (by decide), if_neg (by decide), if_pos rfl]
    rw [L3]
    by_cases h1 : a - b < 0
    · rw [if_pos h1]
      go_enter Tryz.func38, Tryz.ntmps38
      go_wp2
      all_goals (go_ret; exact ⟨ret_bool (decide_eq_decide.2 (by omega)), rfl⟩)
    · rw [if_neg h1]
      go_enter Tryz.func38, Tryz.ntmps38
      go_wp2
      all_goals (go_ret; exact ⟨ret_bool (decide_eq_decide.2 (by omega)), rfl⟩)
  have e3' : (what == 3) = false := by simp [e3]
  have L4 : linkedB what n who a b = (decide (a ≠ who) && decide (b ≠ who)) := by unfold linkedB; rw [if_neg e, if_neg e0, if_neg e1, if_neg e2, if_neg e3]
  rw [L4]
  by_cases h1 : a = who
  · have h1' : (a != who) = false := by simp [h1]
    go_enter Tryz.func38, Tryz.ntmps38
    go_wp2
    go_ret
    exact ⟨ret_bool (by simp [h1]), rfl⟩
  · have h1' : (a != who) = true := by simp [h1]
    go_enter Tryz.func38, Tryz.ntmps38
    go_wp2
    go_ret
    exact ⟨ret_bool (by by_cases h2 : b = who <;> simp [h1, h2]), rfl⟩
end Go.Proofs.YtncnojgemmcplaaGreatDoor.St.Dc
