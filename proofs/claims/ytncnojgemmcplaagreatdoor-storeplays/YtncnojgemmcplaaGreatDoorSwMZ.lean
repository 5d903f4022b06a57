/-
  The program's store, walked: nodeOf, Events, Stamps.
  The program's store, walked: Check, nodeOf.
-/
import Derived.Test.YtncnojgemmcplaaGreatDoorSwL
namespace Go.Proofs.YtncnojgemmcplaaGreatDoor.St
open Go.RowKit

theorem nilEqE (w : World) : (binOp .eql 46 (.slice none 0 0) (.slice none 0 0)).run Tryz.prog w = .ok (.bool true) w := by kernel_rfl
theorem nilNeE (w : World) (a : Addr) (n c : Nat) : (binOp .eql 46 (.slice (some a) n c) (.slice none 0 0)).run Tryz.prog w = .ok (.bool false) w := by kernel_rfl
theorem evCs_ones {L : List Evp} {u : Value} (h : u ∈ evCs L) : u.oneCell' = true := by
  obtain ⟨e, _, he⟩ := List.mem_flatMap.1 h
  simp [evC] at he
  rcases he with rfl | rfl | rfl | rfl | rfl | rfl | rfl <;> rfl
set_option maxRecDepth 100000 in
set_option maxHeartbeats 1000000 in
theorem cloneE_any (L : List Evp) (hL : L.length ≤ 1000) (base : Nat) (v : Value) (w : World) (h : w.ownsRow base 101 7 v L.length (evCs L)) :
    Calls Tryz.prog 44 #[v] w fun e w' => ∃ v', e = .returned v' ∧ w'.ownsRow w.heap.size 101 7 v' L.length (evCs L) ∧ Below w.heap.size w w' := by
  have hlen := h.1
  rcases own_cells h with ⟨rfl, h0⟩ | ⟨g, cap, rfl, hcap, hg0, hc⟩
  · have hn := nilEqE w
    have HO : Hid (w.ownsRow w.heap.size 101 7 (.slice none 0 0) L.length (evCs L)) := ⟨hlen, .inl ⟨rfl, h0⟩⟩
    clear h h0 hlen
    go_enter Tryz.func44, Tryz.ntmps44
    go_wp2
    go_ret
    exact ⟨_, rfl, HO.out, Below.refl _ _⟩
  have hn := nilNeE w ⟨g, 0, none⟩ L.length cap
  obtain ⟨i, hi, hz, hsz, hby⟩ := info_parts' infoEv
  have HB0 : Hid (Below w.heap.size w (w.alloc (.cells #[] 101))) := belA (Below.refl _ _) _
  have hown : (w.alloc (.cells #[] 101)).ownsRow w.heap.size 101 7 (.slice (some ⟨w.heap.size, 0, none⟩) 0 0) 0 [] := ⟨rfl, .inr ⟨w.heap.size, 0, #[], rfl, Nat.le_refl _, heap_alloc_new w _, Nat.le_refl _, by unfold maxLen; omega, rfl, rfl⟩⟩
  obtain ⟨v', w', hr, ho, hg, _, hob⟩ := run_append_own_at (P := Tryz.prog) (w := w.alloc (.cells #[] 101)) w.heap.size 46 46 101 i _ 7 56 Tryz.underlying46 hi hz hsz hby rfl (by decide) (.slice (some ⟨w.heap.size, 0, none⟩) 0 0) 0 [] hown ⟨g, 0, none⟩ L.length cap (evCs L) hlen (fun j u hj => by
      rw [Addr.add_lit, Nat.zero_add]
      have hj' : j < L.length * 7 := by have := (List.getElem?_eq_some_iff.1 hj).1; omega
      refine (HB0.out.cell (p := ⟨g, j, none⟩) hg0).trans ?_
      rw [hc j hj', hj]) (fun u hu => evCs_ones hu) (by unfold maxLen; omega) (by omega) (by simp)
  have HO : Hid (w'.ownsRow w.heap.size 101 7 v' L.length (evCs L)) := by
    show w'.ownsRow _ _ _ _ _ _
    rw [Nat.zero_add] at ho
    exact ho
  have HB : Hid (Below w.heap.size w w') := HB0.out.grown hg (by simp) fun b hb => by simp [Value.ownBlock] at hb; omega
  have hzero : (IntKind.i64.wrap 0) = 0 := rfl
  clear hc ho hg hob hown HB0 h hlen
  go_enter Tryz.func44, Tryz.ntmps44
  go_wp2_with (at_builtin; refine wpList_append_run _ rfl _ _ 46 rfl _ _ _ w' rfl rfl hr ?_)
  go_ret
  exact ⟨_, rfl, HO.out, HB.out⟩
theorem nilEqS (w : World) : (binOp .eql 43 (.slice none 0 0) (.slice none 0 0)).run Tryz.prog w = .ok (.bool true) w := by kernel_rfl
theorem nilNeS (w : World) (a : Addr) (n c : Nat) : (binOp .eql 43 (.slice (some a) n c) (.slice none 0 0)).run Tryz.prog w = .ok (.bool false) w := by kernel_rfl
theorem spCs_ones {L : List Smp} {u : Value} (h : u ∈ spCs L) : u.oneCell' = true := by
  obtain ⟨e, _, he⟩ := List.mem_flatMap.1 h
  simp [spC] at he
  rcases he with rfl | rfl <;> rfl
set_option maxRecDepth 100000 in
set_option maxHeartbeats 1000000 in
theorem cloneS_any (L : List Smp) (hL : L.length ≤ 1000) (base : Nat) (v : Value) (w : World) (h : w.ownsRow base 60 2 v L.length (spCs L)) :
    Calls Tryz.prog 42 #[v] w fun e w' => ∃ v', e = .returned v' ∧ w'.ownsRow w.heap.size 60 2 v' L.length (spCs L) ∧ Below w.heap.size w w' := by
  have hlen := h.1
  rcases own_cells h with ⟨rfl, h0⟩ | ⟨g, cap, rfl, hcap, hg0, hc⟩
  · have hn := nilEqS w
    have HO : Hid (w.ownsRow w.heap.size 60 2 (.slice none 0 0) L.length (spCs L)) := ⟨hlen, .inl ⟨rfl, h0⟩⟩
    clear h h0 hlen
    go_enter Tryz.func42, Tryz.ntmps42
    go_wp2
    go_ret
    exact ⟨_, rfl, HO.out, Below.refl _ _⟩
  have hn := nilNeS w ⟨g, 0, none⟩ L.length cap
  obtain ⟨i, hi, hz, hsz, hby⟩ := info_parts' infoSp
  have HB0 : Hid (Below w.heap.size w (w.alloc (.cells #[] 60))) := belA (Below.refl _ _) _
  have hown : (w.alloc (.cells #[] 60)).ownsRow w.heap.size 60 2 (.slice (some ⟨w.heap.size, 0, none⟩) 0 0) 0 [] := ⟨rfl, .inr ⟨w.heap.size, 0, #[], rfl, Nat.le_refl _, heap_alloc_new w _, Nat.le_refl _, by unfold maxLen; omega, rfl, rfl⟩⟩
  obtain ⟨v', w', hr, ho, hg, _, hob⟩ := run_append_own_at (P := Tryz.prog) (w := w.alloc (.cells #[] 60)) w.heap.size 43 43 60 i _ 2 16 Tryz.underlying43 hi hz hsz hby rfl (by decide) (.slice (some ⟨w.heap.size, 0, none⟩) 0 0) 0 [] hown ⟨g, 0, none⟩ L.length cap (spCs L) hlen (fun j u hj => by
      rw [Addr.add_lit, Nat.zero_add]
      have hj' : j < L.length * 2 := by have := (List.getElem?_eq_some_iff.1 hj).1; omega
      refine (HB0.out.cell (p := ⟨g, j, none⟩) hg0).trans ?_
      rw [hc j hj', hj]) (fun u hu => spCs_ones hu) (by unfold maxLen; omega) (by omega) (by simp)
  have HO : Hid (w'.ownsRow w.heap.size 60 2 v' L.length (spCs L)) := by
    show w'.ownsRow _ _ _ _ _ _
    rw [Nat.zero_add] at ho
    exact ho
  have HB : Hid (Below w.heap.size w w') := HB0.out.grown hg (by simp) fun b hb => by simp [Value.ownBlock] at hb; omega
  have hzero : (IntKind.i64.wrap 0) = 0 := rfl
  clear hc ho hg hob hown HB0 h hlen
  go_enter Tryz.func42, Tryz.ntmps42
  go_wp2_with (at_builtin; refine wpList_append_run _ rfl _ _ 43 rfl _ _ _ w' rfl rfl hr ?_)
  go_ret
  exact ⟨_, rfl, HO.out, HB.out⟩
section
variable {w0 W W' : World} {K : StK} {P : Pst}
set_option maxRecDepth 100000 in
set_option maxHeartbeats 1000000 in
theorem events_any (h : StoP w0 W K P) (hl : P.evs.length ≤ 1000) : Calls Tryz.prog 17 #[.pointer (some ⟨K.B, 0, none⟩)] W fun e w' => ∃ v', e = .returned v' ∧ w'.ownsRow W.heap.size 101 7 v' P.evs.length (evCs P.evs) ∧ Below W.heap.size W w' := by
  have c9 := h.cells.2.2.2.2.2.1
  have HC := hideIt (cloneE_any P.evs hl _ _ _ h.ev)
  obtain ⟨a, c, e0⟩ := ownsRow_slice h.ev
  rw [e0] at c9 HC
  clear h e0
  go_enter Tryz.func17, Tryz.ntmps17
  go_wp2_with fail
  refine HC.out.mono ?_
  rintro e w1 ⟨v', rfl, ho, hb⟩
  have HO := hideIt ho
  have HB := hideIt hb
  clear ho hb HC
  go_wp2
  go_ret
  exact ⟨_, rfl, HO.out, HB.out⟩
set_option maxRecDepth 100000 in
set_option maxHeartbeats 1000000 in
theorem stamps_any (h : StoP w0 W K P) (hl : P.sts.length ≤ 1000) : Calls Tryz.prog 15 #[.pointer (some ⟨K.B, 0, none⟩)] W fun e w' => ∃ v', e = .returned v' ∧ w'.ownsRow W.heap.size 60 2 v' P.sts.length (spCs P.sts) ∧ Below W.heap.size W w' := by
  have c9 := h.cells.2.2.2.2.2.2
  have HC := hideIt (cloneS_any P.sts hl _ _ _ h.st)
  obtain ⟨a, c, e0⟩ := ownsRow_slice h.st
  rw [e0] at c9 HC
  clear h e0
  go_enter Tryz.func15, Tryz.ntmps15
  go_wp2_with fail
  refine HC.out.mono ?_
  rintro e w1 ⟨v', rfl, ho, hb⟩
  have HO := hideIt ho
  have HB := hideIt hb
  clear ho hb HC
  go_wp2
  go_ret
  exact ⟨_, rfl, HO.out, HB.out⟩
end
end Go.Proofs.YtncnojgemmcplaaGreatDoor.St

namespace Go.Proofs.YtncnojgemmcplaaGreatDoor.St
open Go.RowKit

/-- 17.1: Check. -/
def checkC (n k ask tell : Int) : Int := if n < 1 ∨ 7 < n ∨ k < 1 ∨ 8 < k then 4 else if ask < 1 ∨ n < ask ∨ tell < 1 ∨ n < tell then 2 else 0
set_option maxRecDepth 100000 in
set_option maxHeartbeats 4000000 in
theorem check_any (n k ask tell : Int) (back : Bool) (w : World) : Calls Tryz.prog 5 #[.agg #[.int .i64 n, .int .i64 k, .int .i64 ask, .int .i64 tell, .bool back]] w fun e w' => e = .returned (toldE (checkC n k ask tell)) ∧ Below w.heap.size w w' := by
  by_cases h0 : n < 1
  · have d0 : decide (n < 1) = true := decide_eq_true h0
    have HR : Hid (toldE (checkC n k ask tell) = .iface 38 (.int .i64 4)) := by
      show _ = _
      unfold checkC
      rw [if_pos (by omega)]
      rfl
    clear h0
    go_enter Tryz.func5, Tryz.ntmps5
    go_wp2
    go_ret
    exact ⟨by rw [HR.out]; rfl, belA (Below.refl _ _) _⟩
  have d0 : decide (n < 1) = false := decide_eq_false h0
  by_cases h1 : 7 < n
  · have d1 : decide (n > 7) = true := decide_eq_true h1
    have HR : Hid (toldE (checkC n k ask tell) = .iface 38 (.int .i64 4)) := by
      show _ = _
      unfold checkC
      rw [if_pos (by omega)]
      rfl
    clear h0 h1
    go_enter Tryz.func5, Tryz.ntmps5
    go_wp2
    go_ret
    exact ⟨by rw [HR.out]; rfl, belA (Below.refl _ _) _⟩
  have d1 : decide (n > 7) = false := decide_eq_false h1
  by_cases h2 : k < 1
  · have d2 : decide (k < 1) = true := decide_eq_true h2
    have HR : Hid (toldE (checkC n k ask tell) = .iface 38 (.int .i64 4)) := by
      show _ = _
      unfold checkC
      rw [if_pos (by omega)]
      rfl
    clear h0 h1 h2
    go_enter Tryz.func5, Tryz.ntmps5
    go_wp2
    go_ret
    exact ⟨by rw [HR.out]; rfl, belA (Below.refl _ _) _⟩
  have d2 : decide (k < 1) = false := decide_eq_false h2
  by_cases h3 : 8 < k
  · have d3 : decide (k > 8) = true := decide_eq_true h3
    have HR : Hid (toldE (checkC n k ask tell) = .iface 38 (.int .i64 4)) := by
      show _ = _
      unfold checkC
      rw [if_pos (by omega)]
      rfl
    clear h0 h1 h2 h3
    go_enter Tryz.func5, Tryz.ntmps5
    go_wp2
    go_ret
    exact ⟨by rw [HR.out]; rfl, belA (Below.refl _ _) _⟩
  have d3 : decide (k > 8) = false := decide_eq_false h3
  by_cases h4 : ask < 1
  · have d4 : decide (ask < 1) = true := decide_eq_true h4
    have HR : Hid (toldE (checkC n k ask tell) = .iface 38 (.int .i64 2)) := by
      show _ = _
      unfold checkC
      rw [if_neg (by omega), if_pos (by omega)]
      rfl
    clear h0 h1 h2 h3 h4
    go_enter Tryz.func5, Tryz.ntmps5
    go_wp2
    go_ret
    exact ⟨by rw [HR.out]; rfl, belA (Below.refl _ _) _⟩
  have d4 : decide (ask < 1) = false := decide_eq_false h4
  by_cases h5 : n < ask
  · have d5 : decide (ask > n) = true := decide_eq_true h5
    have HR : Hid (toldE (checkC n k ask tell) = .iface 38 (.int .i64 2)) := by
      show _ = _
      unfold checkC
      rw [if_neg (by omega), if_pos (by omega)]
      rfl
    clear h0 h1 h2 h3 h4 h5
    go_enter Tryz.func5, Tryz.ntmps5
    go_wp2
    go_ret
    exact ⟨by rw [HR.out]; rfl, belA (Below.refl _ _) _⟩
  have d5 : decide (ask > n) = false := decide_eq_false h5
  by_cases h6 : tell < 1
  · have d6 : decide (tell < 1) = true := decide_eq_true h6
    have HR : Hid (toldE (checkC n k ask tell) = .iface 38 (.int .i64 2)) := by
      show _ = _
      unfold checkC
      rw [if_neg (by omega), if_pos (by omega)]
      rfl
    clear h0 h1 h2 h3 h4 h5 h6
    go_enter Tryz.func5, Tryz.ntmps5
    go_wp2
    go_ret
    exact ⟨by rw [HR.out]; rfl, belA (Below.refl _ _) _⟩
  have d6 : decide (tell < 1) = false := decide_eq_false h6
  by_cases h7 : n < tell
  · have d7 : decide (tell > n) = true := decide_eq_true h7
    have HR : Hid (toldE (checkC n k ask tell) = .iface 38 (.int .i64 2)) := by
      show _ = _
      unfold checkC
      rw [if_neg (by omega), if_pos (by omega)]
      rfl
    clear h0 h1 h2 h3 h4 h5 h6 h7
    go_enter Tryz.func5, Tryz.ntmps5
    go_wp2
    go_ret
    exact ⟨by rw [HR.out]; rfl, belA (Below.refl _ _) _⟩
  have d7 : decide (tell > n) = false := decide_eq_false h7
  have HR : Hid (toldE (checkC n k ask tell) = .nilIface) := by
    show _ = _
    unfold checkC
    rw [if_neg (by omega), if_neg (by omega)]
    rfl
  clear h0 h1 h2 h3 h4 h5 h6 h7
  go_enter Tryz.func5, Tryz.ntmps5
  go_wp2
  go_ret
  exact ⟨by rw [HR.out]; rfl, belA (Below.refl _ _) _⟩
section
variable {w0 W W' : World} {K : StK} {P : Pst}
set_option maxRecDepth 100000 in
theorem nodeOf_any (h : StoP w0 W K P) (hn : 1 ≤ P.n) (i : Nat) : Calls Tryz.prog 95 #[.pointer (some ⟨K.B, 0, none⟩), .int .i64 (i : Int)] W fun e w' => e = .returned (.int .i64 ((i % P.n : Nat) : Int)) ∧ w' = W := by
  have c0 := h.cells.1.1
  have hne : ((P.n : Int) == 0) = false := by simp; omega
  have hne2 : ¬ (P.n : Int) = 0 := by omega
  generalize P.n = n at *
  clear h
  go_enter Tryz.func95, Tryz.ntmps95
  go_wp2
  go_ret
  exact ⟨rfl, rfl⟩
end
end Go.Proofs.YtncnojgemmcplaaGreatDoor.St
