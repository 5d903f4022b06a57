/-
  The statements' own events and sameEvents: walked.
-/
import Derived.Test.YtdncnljcihblbaaDoorLgV
import Derived.Test.YtdncnljcihblbaaDoorEvM
import Derived.Deep.RegionHeld3
namespace Go.Proofs.YtdncnljcihblbaaDoor
open Go.RowKit

theorem infoR : (Tryd.prog.info? 24).map (fun i => (i.zero, i.size, i.bytes)) = some (some (.agg #[.int .i64 0, .int .i64 0, .int .i64 0, .int .i64 0, .int .i64 0, .int .i64 0, .int .i64 0]), 7, 56) := by kernel_rfl
theorem evC_get (L : List Ev) (i c : Nat) (hi : i < L.length) (hc : c < 7) : (evCells L)[i * 7 + c]? = L[i].cells[c]? := by
  induction L generalizing i with
  | nil => simp at hi
  | cons x r ih =>
    show (x.cells ++ evCells r)[i * 7 + c]? = _
    have hx : x.cells.length = 7 := rfl
    cases i with
    | zero =>
      rw [List.getElem?_append_left (by rw [hx]; omega)]
      simp
    | succ i =>
      rw [List.getElem?_append_right (by rw [hx]; omega), hx, show (i + 1) * 7 + c - 7 = i * 7 + c from by omega, ih i (by simpa using hi)]
      simp
/-- Events of one's own can be read, whatever their type. -/
theorem ownT_evq {W : World} {base : Nat} {e : TypeId} {v : Value} {l : List Ev} (h : W.ownsRow base e 7 v l.length (evCells l)) : EvQ W v l := by
  obtain ⟨h1, ⟨rfl, h2⟩ | ⟨g, cap, cur, rfl, h3, h4, h5, h6, h7, h8⟩⟩ := id h
  · exact ⟨none, 0, by rw [h2], by omega, Or.inl (List.eq_nil_of_length_eq_zero h2)⟩
  · refine ⟨_, cap, rfl, h5, Or.inr ⟨g, 0, rfl, (Array.getElem?_eq_some_iff.1 h4).1, fun i hi => ?_⟩⟩
    have key : ∀ c, c < 7 → W.cell? ⟨g, 0 + i * 7 + c, none⟩ = l[i].cells[c]? := fun c hc => by
      rw [Nat.zero_add, h.cellAt (i * 7 + c) (by omega), evC_get l i c hi hc]
    exact ⟨key 0 (by decide), key 1 (by decide), key 2 (by decide), key 3 (by decide), key 4 (by decide), key 5 (by decide), key 6 (by decide)⟩
theorem EvQ.low {w w' : World} {v : Value} {l : List Ev} (h : EvQ w v l) (hn : Below w.heap.size w w') : EvQ w' v l := by
  obtain ⟨a, c, h1, h2, h3 | ⟨b, o, h4, h5, h6⟩⟩ := h
  · exact ⟨a, c, h1, h2, Or.inl h3⟩
  · exact ⟨a, c, h1, h2, Or.inr ⟨b, o, h4, Nat.lt_of_lt_of_le h5 hn.size, fun i hi => (h6 i hi).below h5 hn⟩⟩
theorem new_atX {W : World} {cs : Array Value} {t : TypeId} {k j : Nat} {u : Value} (hk : k = W.heap.size) (h : cs[j]? = some u) : (W.alloc (.cells cs t)).cell? ((⟨k, 0, none⟩ : Addr).add j) = some u := by
  subst hk
  rw [Addr.add_lit, Nat.zero_add, cell_of_row _ _ _ _ _ _ (heap_alloc_new W _)]
  exact h

set_option maxHeartbeats 2000000 in
set_option maxRecDepth 100000 in
theorem events_any (v : Value) (l : List Ev) (w : World) (hq : EvQ w v l) (hl : l.length ≤ 100000) :
    Calls Tryd.prog 7 #[v] w fun e w' => ∃ v', e = .returned v' ∧ w'.ownsRow w.heap.size 24 7 v' l.length (evCells l) ∧ Below w.heap.size w w' := by
  obtain ⟨i0, hi, hz0, hz1, hz2⟩ := info_parts' infoR
  obtain ⟨a, c, rfl, hc, hA⟩ := hq
  have HA := hideIt hA
  clear hA
  go_enter Tryd.func7, Tryd.ntmps7
  go_wp2
  go_loopw [3, 4] (fun v i wr => ∃ k : Nat, k ≤ l.length ∧ i = .int .i64 k ∧ wr.ownsRow w.heap.size 24 7 v k (evCells (l.take k)) ∧ Below w.heap.size w wr) (fun _ i _ => l.length - (intOf i).toNat)
  case atStart => exact ⟨0, Nat.zero_le _, rfl, World.ownsRow_nil _ _ _ _, Below.refl _ _⟩
  case round =>
    obtain ⟨k, hk, rfl, hown, hnx⟩ := hrel
    have HO := hideIt hown
    have HX := hideIt hnx
    have hsz := hnx.size
    clear hown hnx
    by_cases hlt : k < l.length
    · rcases HA.out with h0 | ⟨b, o, rfl, hb, hat⟩
      · rw [h0] at hlt; exact absurd hlt (Nat.not_lt_zero _)
      · obtain ⟨c0, c1, c2, c3, c4, c5, c6⟩ := (hat k hlt).below hb HX.out
        have hbz : b < wr.heap.size := by omega
        have HT : Hid (evCells (l.take (k + 1)) = evCells (l.take k) ++ l[k].cells) := by
          show evCells (l.take (k + 1)) = evCells (l.take k) ++ l[k].cells
          rw [List.take_succ_eq_append_getElem hlt]
          exact evCells_snoc _ _
        clear hat
        generalize l[k] = x at *
        go_wp2_with (at_builtin; refine wpList_append_own _ rfl _ _ 25 rfl w.heap.size 24 i0 _ 7 56 Tryd.underlying25 hi hz0 hz1 hz2 rfl (by decide) _ _ _ rfl ((HO.out.alloc _).alloc _) ⟨wr.heap.size + 1, 0, none⟩ 1 1 [.int .i64 x.p, .int .i64 x.t, .int .i64 x.k, .int .i64 x.d, .int .i64 x.a, .int .i64 x.b, .int .i64 x.r] rfl rfl ?c1 ?c2 ?c3 ?c4 ?c5 ?_)
        case c1 =>
          intro j u hj
          exact new_atX (by simp) (by simpa using hj)
        case c2 => intro u hu; simp at hu; rcases hu with rfl | rfl | rfl | rfl | rfl | rfl | rfl <;> rfl
        case c3 => unfold maxLen; omega
        case c4 => omega
        case c5 => simp; omega
        intro v2 w4 ho4 hg4 _
        have R1 : Hid (w4.ownsRow w.heap.size 24 7 v2 (k + 1) (evCells (l.take (k + 1)))) := by
          show w4.ownsRow w.heap.size 24 7 v2 (k + 1) (evCells (l.take (k + 1)))
          rw [HT.out]; exact ho4
        have R2 : Hid (Below w.heap.size w w4) := (below_alloc (below_alloc HX.out _) _).grown hg4 (by simp; omega) (fun g hg => (HO.out.lt g hg).1)
        clear ho4 hg4
        go_wp2
        go_roundw
        case rel => exact ⟨k + 1, by omega, by go_num, R1.out, R2.out⟩
        case measure => simp [intOf]; omega
    · have hkl : k = l.length := by omega
      go_wp2
      go_ret
      refine ⟨_, rfl, ?_, HX.out⟩
      have := HO.out
      rw [hkl, List.take_length] at this
      exact this

theorem own_shapeX {W : World} {base : Nat} {e : TypeId} {z : Nat} {v : Value} {n : Nat} {xs : List Value} (h : W.ownsRow base e z v n xs) : ∃ a c, v = .slice a n c := by
  obtain ⟨_, ⟨rfl, h0⟩ | ⟨g, c, _, rfl, _⟩⟩ := h
  · exact ⟨none, 0, by rw [h0]⟩
  · exact ⟨_, c, rfl⟩

set_option maxHeartbeats 1000000 in
set_option maxRecDepth 100000 in
theorem sameEvents_true (va vb : Value) (l : List Ev) (w : World) (ha : EvQ w va l) (hb : EvQ w vb l) (hl : l.length ≤ 100000) :
    Calls Tryd.prog 21 #[va, vb] w fun e w' => e = .returned (.bool true) ∧ Below w.heap.size w w' := by
  have HE := hideIt (events_any va l w ha hl)
  have HBQ := hideIt hb
  obtain ⟨ab, cb, rfl, hcb, _⟩ := hb
  obtain ⟨aa, ca, rfl, hca, _⟩ := ha
  go_enter Tryd.func21, Tryd.ntmps21
  go_wp2_with fail
  refine HE.out.mono ?_
  rintro x w1 ⟨v1, rfl, ho1, hb1⟩
  obtain ⟨a1, c1, rfl⟩ := own_shapeX ho1
  have hq1 := ownT_evq ho1
  have HB1 := hideIt hb1
  have hq2 := HBQ.out.low hb1
  clear ho1 hb1
  obtain ⟨a1', c1', e1, hc1, hA⟩ := hq1
  cases e1
  obtain ⟨b1', d1', e2, hd1, hB⟩ := hq2
  cases e2
  have HA := hideIt hA
  have HB := hideIt hB
  clear hA hB
  go_wp2
  go_loopw [6] (fun i wr => ∃ k n : Nat, k ≤ l.length ∧ i = .int .i64 k ∧ wr = w1.drewN n) (fun i _ => l.length - (intOf i).toNat)
  case atStart => exact ⟨0, 0, Nat.zero_le _, rfl, rfl⟩
  case round =>
    obtain ⟨k, n, hk, rfl, rfl⟩ := hrel
    by_cases hlt : k < l.length
    · rcases HA.out with h0 | ⟨ba, oa, rfl, hba, hA⟩
      · rw [h0] at hlt; exact absurd hlt (Nat.not_lt_zero _)
      rcases HB.out with h0 | ⟨bb, ob, rfl, hbb, hB⟩
      · rw [h0] at hlt; exact absurd hlt (Nat.not_lt_zero _)
      obtain ⟨c0, c1, c2, c3, c4, c5, c6⟩ := hA k hlt
      obtain ⟨d0, d1, d2, d3, d4, d5, d6⟩ := hB k hlt
      clear hA hB
      generalize l[k] = e at *
      go_wp2_with fail
      go_quiet (fail)
      go_wp2
      go_roundw
      case rel => exact ⟨k + 1, _, by omega, by go_num, rfl⟩
      case measure => simp [intOf]; omega
    · go_wp2
      go_ret
      exact ⟨rfl, below_drewN HB1.out n⟩

/-- An event in a block. -/
structure Ev7 (W : World) (g : Nat) (e : Ev) : Prop where
  c0 : W.cell? ⟨g, 0, none⟩ = some (.int .i64 e.p)
  c1 : W.cell? ⟨g, 1, none⟩ = some (.int .i64 e.t)
  c2 : W.cell? ⟨g, 2, none⟩ = some (.int .i64 e.k)
  c3 : W.cell? ⟨g, 3, none⟩ = some (.int .i64 e.d)
  c4 : W.cell? ⟨g, 4, none⟩ = some (.int .i64 e.a)
  c5 : W.cell? ⟨g, 5, none⟩ = some (.int .i64 e.b)
  c6 : W.cell? ⟨g, 6, none⟩ = some (.int .i64 e.r)
  lt : g < W.heap.size
theorem Ev7.below {W W' : World} {g B : Nat} {e : Ev} (h : Ev7 W g e) (hg : g < B) (hb : Below B W W') : Ev7 W' g e :=
  ⟨(hb.cell (p := ⟨g, 0, none⟩) hg).trans h.c0, (hb.cell (p := ⟨g, 1, none⟩) hg).trans h.c1, (hb.cell (p := ⟨g, 2, none⟩) hg).trans h.c2, (hb.cell (p := ⟨g, 3, none⟩) hg).trans h.c3, (hb.cell (p := ⟨g, 4, none⟩) hg).trans h.c4, (hb.cell (p := ⟨g, 5, none⟩) hg).trans h.c5, (hb.cell (p := ⟨g, 6, none⟩) hg).trans h.c6, Nat.lt_of_lt_of_le h.lt hb.size⟩
theorem Ev7.low {W W' : World} {g : Nat} {e : Ev} (h : Ev7 W g e) (hb : Below W.heap.size W W') : Ev7 W' g e := h.below h.lt hb
theorem ev7_new (w : World) (e : Ev) (t : TypeId) : Ev7 (w.alloc (.cells #[.int .i64 e.p, .int .i64 e.t, .int .i64 e.k, .int .i64 e.d, .int .i64 e.a, .int .i64 e.b, .int .i64 e.r] t)) w.heap.size e :=
  ⟨by simp [go_sem], by simp [go_sem], by simp [go_sem], by simp [go_sem], by simp [go_sem], by simp [go_sem], by simp [go_sem], by simp [go_sem]⟩
theorem ev7_evq {W : World} {g c : Nat} {e : Ev} (h : Ev7 W g e) (hc : 1 ≤ c) : EvQ W (.slice (some ⟨g, 0, none⟩) 1 c) [e] :=
  ⟨some ⟨g, 0, none⟩, c, rfl, hc, Or.inr ⟨g, 0, rfl, h.lt, fun i hi => by
    obtain rfl : i = 0 := by simpa using hi
    exact ⟨h.c0, h.c1, h.c2, h.c3, h.c4, h.c5, h.c6⟩⟩⟩

/-- events of one event. -/
theorem events_one (e : Ev) (g c : Nat) (w : World) (h : Ev7 w g e) (hc : 1 ≤ c) :
    Calls Tryd.prog 7 #[.slice (some ⟨g, 0, none⟩) 1 c] w fun r w' => ∃ g' c', r = .returned (.slice (some ⟨g', 0, none⟩) 1 c') ∧ Ev7 w' g' e ∧ Below w.heap.size w w' ∧ w.heap.size ≤ g' := by
  refine (events_any _ [e] w (ev7_evq h hc) (by simp)).mono ?_
  rintro r w' ⟨v, rfl, ho, hb⟩
  obtain ⟨h1, ⟨_, h2⟩ | ⟨g', cap, cur, rfl, h3, h4, h5, h6, h7, h8⟩⟩ := id ho
  · simp at h2
  · have hq := ownT_evq ho
    obtain ⟨_, _, e1, _, h0 | ⟨b, o, e2, hlt, hat⟩⟩ := hq
    · cases h0
    · cases e1; cases e2
      obtain ⟨k0, k1, k2, k3, k4, k5, k6⟩ := hat 0 (by simp)
      exact ⟨g', cap, rfl, ⟨k0, k1, k2, k3, k4, k5, k6, hlt⟩, hb, h3⟩
theorem wpAnyH_more {P : Program} {md : Region.Mode} {ops : Array Oper} {Q : Exit → Act → World → Prop} {S S' : World → Prop} (hS : ∀ w, S' w → S w) : ∀ (fuel : Nat) (listed : Array Bool) (a : Act) (w : World), wpAnyH P md ops Q S' fuel listed a w → wpAnyH P md ops Q S fuel listed a w
  | 0, _, _, _, h => h
  | fuel + 1, _, _, _, h => ⟨h.1, fun i hi => wpOp_mono (fun a' w' h' => ⟨hS w' h'.1, wpAnyH_more hS fuel _ a' w' h'.2⟩) (h.2 i hi)⟩

end Go.Proofs.YtdncnljcihblbaaDoor
