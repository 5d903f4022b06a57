/-
  Package net's Whole, Halves, Bridge, Ring, Alone, and plain.Links, walked.
-/
import Derived.Test.YtncnojgemmcplaaGreatDoorNpMZ
import Derived.Shelf.Abstract
namespace Go.Proofs.YtncnojgemmcplaaGreatDoor.St
open Go.RowKit

/-- What is told of a number that may not be. -/
def badV (c : Int) : Value := .tuple #[.slice none 0 0, .iface 38 (.int .i64 c)]
/-- Which rule a move names. -/
def ruleW (what : Int) : Int := if 7 ≤ what ∧ what ≤ 10 then what - 7 else 4
theorem DrawTold.from {w w1 : World} {n : Nat} {r : Nat → Nat → Bool} {e : Ending} {w' : World} (h : DrawTold w1 n r e w') (hb : Below w.heap.size w w1) : DrawTold w n r e w' := by
  obtain ⟨lv, e1, h1, h2⟩ := h
  exact ⟨lv, e1, h1.mono fun _ _ h => ⟨Nat.le_trans hb.size h.1, h.2⟩, belJ hb h2⟩

set_option maxRecDepth 100000 in
set_option maxHeartbeats 1000000 in
theorem whole_any (x who : Int) (w : World) : Calls Tryz.prog 60 #[.int .i64 x] w fun e w' => ((x < 1 ∨ 7 < x) ∧ e = .returned (badV 4) ∧ Below w.heap.size w w') ∨ ∃ n : Nat, x = n ∧ (1 ≤ n ∧ n ≤ 7) ∧ DrawTold w n (linkN 0 n who) e w' := by
  by_cases hx : x < 1 ∨ 7 < x
  · have HD := hideIt (draw_bad x (.func (.func 97) #[] #[]) hx w)
    go_enter Tryz.func60, Tryz.ntmps60
    go_wp2_with fail
    refine HD.out.mono ?_
    rintro e w1 ⟨rfl, rfl⟩
    go_wp2
    go_ret2
    exact .inl ⟨hx, rfl, Below.refl _ _⟩
  · obtain ⟨n, rfl⟩ : ∃ n : Nat, x = n := ⟨x.toNat, by omega⟩
    have hn : 1 ≤ n ∧ n ≤ 7 := by omega
    have HD := hideIt (draw_any n hn 97 #[] _ w (whole_rule w n who) (enters_of Tryz.func97 (by kernel_rfl) rfl))
    clear hx
    go_enter Tryz.func60, Tryz.ntmps60
    go_wp2_with fail
    refine HD.out.mono ?_
    rintro e w1 ⟨lv, rfl, h1, h2⟩
    have H1 := hideIt h1
    have H2 := hideIt h2
    clear h1 h2 HD
    go_wp2
    go_ret2
    exact .inr ⟨n, rfl, hn, lv, rfl, H1.out, H2.out⟩

set_option maxRecDepth 100000 in
set_option maxHeartbeats 1000000 in
theorem halves_any (x who : Int) (w : World) : Calls Tryz.prog 61 #[.int .i64 x] w fun e w' => ((x < 1 ∨ 7 < x) ∧ e = .returned (badV 4) ∧ Below w.heap.size w w') ∨ ∃ n : Nat, x = n ∧ (1 ≤ n ∧ n ≤ 7) ∧ DrawTold w n (linkN 1 n who) e w' := by
  have HB := hideIt (belA (Below.refl _ w) (.cells #[.int .i64 x] 3))
  by_cases hx : x < 1 ∨ 7 < x
  · have HD := hideIt (draw_bad x (.func (.func 98) #[] #[.pointer (some ⟨w.heap.size, 0, none⟩)]) hx (w.alloc (.cells #[.int .i64 x] 3)))
    go_enter Tryz.func61, Tryz.ntmps61
    go_wp2_with fail
    refine HD.out.mono ?_
    rintro e w1 ⟨rfl, rfl⟩
    go_wp2
    go_ret2
    exact .inl ⟨hx, rfl, HB.out⟩
  · obtain ⟨n, rfl⟩ : ∃ n : Nat, x = n := ⟨x.toNat, by omega⟩
    have hn : 1 ≤ n ∧ n ≤ 7 := by omega
    have HD := hideIt (draw_any n hn 98 #[.pointer (some ⟨w.heap.size, 0, none⟩)] _ (w.alloc (.cells #[.int .i64 (n : Int)] 3)) (halves_rule _ n hn who w.heap.size (heap_alloc_new w _)) (enters_of Tryz.func98 (by kernel_rfl) rfl))
    clear hx
    go_enter Tryz.func61, Tryz.ntmps61
    go_wp2_with fail
    refine HD.out.mono ?_
    intro e w1 h1
    have h2 := h1.from HB.out
    obtain ⟨lv, rfl, h3, h4⟩ := h2
    have H1 := hideIt h3
    have H2 := hideIt h4
    clear h1 h3 h4 HD
    go_wp2
    go_ret2
    exact .inr ⟨n, rfl, hn, lv, rfl, H1.out, H2.out⟩

set_option maxRecDepth 100000 in
set_option maxHeartbeats 1000000 in
theorem bridge_any (x who : Int) (w : World) : Calls Tryz.prog 62 #[.int .i64 x] w fun e w' => ((x < 1 ∨ 7 < x) ∧ e = .returned (badV 4) ∧ Below w.heap.size w w') ∨ ∃ n : Nat, x = n ∧ (1 ≤ n ∧ n ≤ 7) ∧ DrawTold w n (linkN 2 n who) e w' := by
  have HB := hideIt (belA (Below.refl _ w) (.cells #[.int .i64 x] 3))
  by_cases hx : x < 1 ∨ 7 < x
  · have HD := hideIt (draw_bad x (.func (.func 100) #[] #[.pointer (some ⟨w.heap.size, 0, none⟩)]) hx (w.alloc (.cells #[.int .i64 x] 3)))
    go_enter Tryz.func62, Tryz.ntmps62
    go_wp2_with fail
    refine HD.out.mono ?_
    rintro e w1 ⟨rfl, rfl⟩
    go_wp2
    go_ret2
    exact .inl ⟨hx, rfl, HB.out⟩
  · obtain ⟨n, rfl⟩ : ∃ n : Nat, x = n := ⟨x.toNat, by omega⟩
    have hn : 1 ≤ n ∧ n ≤ 7 := by omega
    have HD := hideIt (draw_any n hn 100 #[.pointer (some ⟨w.heap.size, 0, none⟩)] _ (w.alloc (.cells #[.int .i64 (n : Int)] 3)) (bridge_rule _ n hn who w.heap.size (heap_alloc_new w _)) (enters_of Tryz.func100 (by kernel_rfl) rfl))
    clear hx
    go_enter Tryz.func62, Tryz.ntmps62
    go_wp2_with fail
    refine HD.out.mono ?_
    intro e w1 h1
    have h2 := h1.from HB.out
    obtain ⟨lv, rfl, h3, h4⟩ := h2
    have H1 := hideIt h3
    have H2 := hideIt h4
    clear h1 h3 h4 HD
    go_wp2
    go_ret2
    exact .inr ⟨n, rfl, hn, lv, rfl, H1.out, H2.out⟩

set_option maxRecDepth 100000 in
set_option maxHeartbeats 1000000 in
theorem ring_any (x who : Int) (w : World) : Calls Tryz.prog 63 #[.int .i64 x] w fun e w' => ((x < 1 ∨ 7 < x) ∧ e = .returned (badV 4) ∧ Below w.heap.size w w') ∨ ∃ n : Nat, x = n ∧ (1 ≤ n ∧ n ≤ 7) ∧ DrawTold w n (linkN 3 n who) e w' := by
  have HB := hideIt (belA (Below.refl _ w) (.cells #[.int .i64 x] 3))
  by_cases hx : x < 1 ∨ 7 < x
  · have HD := hideIt (draw_bad x (.func (.func 101) #[] #[.pointer (some ⟨w.heap.size, 0, none⟩)]) hx (w.alloc (.cells #[.int .i64 x] 3)))
    go_enter Tryz.func63, Tryz.ntmps63
    go_wp2_with fail
    refine HD.out.mono ?_
    rintro e w1 ⟨rfl, rfl⟩
    go_wp2
    go_ret2
    exact .inl ⟨hx, rfl, HB.out⟩
  · obtain ⟨n, rfl⟩ : ∃ n : Nat, x = n := ⟨x.toNat, by omega⟩
    have hn : 1 ≤ n ∧ n ≤ 7 := by omega
    have HD := hideIt (draw_any n hn 101 #[.pointer (some ⟨w.heap.size, 0, none⟩)] _ (w.alloc (.cells #[.int .i64 (n : Int)] 3)) (ring_rule _ n hn who w.heap.size (heap_alloc_new w _)) (enters_of Tryz.func101 (by kernel_rfl) rfl))
    clear hx
    go_enter Tryz.func63, Tryz.ntmps63
    go_wp2_with fail
    refine HD.out.mono ?_
    intro e w1 h1
    have h2 := h1.from HB.out
    obtain ⟨lv, rfl, h3, h4⟩ := h2
    have H1 := hideIt h3
    have H2 := hideIt h4
    clear h1 h3 h4 HD
    go_wp2
    go_ret2
    exact .inr ⟨n, rfl, hn, lv, rfl, H1.out, H2.out⟩

/-- What plain.Links tells. -/
def LinksTold (rule x who : Int) (w : World) (e : Ending) (w' : World) : Prop :=
  ((x < 1 ∨ 7 < x) ∧ e = .returned (badV 4) ∧ Below w.heap.size w w') ∨
  ((1 ≤ x ∧ x ≤ 7) ∧ rule = 4 ∧ (who < 0 ∨ x ≤ who) ∧ e = .returned (badV 2) ∧ Below w.heap.size w w') ∨
  ∃ n : Nat, x = n ∧ (1 ≤ n ∧ n ≤ 7) ∧ (rule = 4 → 0 ≤ who ∧ who < x) ∧ DrawTold w n (linkN rule n who) e w'

set_option maxRecDepth 100000 in
set_option maxHeartbeats 1000000 in
theorem alone_any (x who : Int) (w : World) : Calls Tryz.prog 64 #[.int .i64 x, .int .i64 who] w fun e w' => LinksTold 4 x who w e w' := by
  have HB := hideIt (belA (Below.refl _ w) (.cells #[.int .i64 who] 3))
  by_cases hx : x < 1 ∨ 7 < x
  · have HD := hideIt (draw_bad x (.func (.func 102) #[] #[.pointer (some ⟨w.heap.size, 0, none⟩)]) hx (w.alloc (.cells #[.int .i64 who] 3)))
    go_enter Tryz.func64, Tryz.ntmps64
    go_wp2_with fail
    refine HD.out.mono ?_
    rintro e w1 ⟨rfl, rfl⟩
    go_wp2
    go_ret2
    exact .inl ⟨hx, rfl, HB.out⟩
  · obtain ⟨n, rfl⟩ : ∃ n : Nat, x = n := ⟨x.toNat, by omega⟩
    have hn : 1 ≤ n ∧ n ≤ 7 := by omega
    have HD := hideIt (draw_any n hn 102 #[.pointer (some ⟨w.heap.size, 0, none⟩)] _ (w.alloc (.cells #[.int .i64 who] 3)) (alone_rule _ n 4 who (.inr (by decide)) w.heap.size (heap_alloc_new w _)) (enters_of Tryz.func102 (by kernel_rfl) rfl))
    clear hx
    go_enter Tryz.func64, Tryz.ntmps64
    go_wp2_with fail
    refine HD.out.mono ?_
    intro e w1 h1
    obtain ⟨lv0, e0, h0, hb0⟩ := h1
    have c0 : w1.cell? ⟨w.heap.size, 0, none⟩ = some (.int .i64 who) := (hb0.cell (p := ⟨w.heap.size, 0, none⟩) (by simp)).trans (cell_of_row _ _ _ _ 3 _ (heap_alloc_new w _))
    have h2 := DrawTold.from ⟨lv0, e0, h0, hb0⟩ HB.out
    obtain ⟨lv, rfl, h3, h4⟩ := h2
    have H1 := hideIt h3
    have H2 := hideIt h4
    clear h3 h4 HD e0 h0 hb0
    by_cases g1 : who < 0
    · have g1' : decide (who < 0) = true := decide_eq_true g1
      go_wp2
      go_ret2
      exact .inr (.inl ⟨by omega, rfl, .inl g1, rfl, H2.out⟩)
    have g1' : decide (who < 0) = false := decide_eq_false g1
    by_cases g2 : (n : Int) ≤ who
    · have g2' : decide (who ≥ (n : Int)) = true := decide_eq_true g2
      go_wp2
      go_ret2
      exact .inr (.inl ⟨by omega, rfl, .inr g2, rfl, H2.out⟩)
    have g2' : decide (who ≥ (n : Int)) = false := decide_eq_false g2
    go_wp2
    go_ret2
    exact .inr (.inr ⟨n, rfl, hn, fun _ => by omega, lv, rfl, H1.out, H2.out⟩)

set_option maxRecDepth 100000 in
set_option maxHeartbeats 1000000 in
theorem links_any (what x who : Int) (w : World) : Calls Tryz.prog 31 #[.int .i64 what, .int .i64 x, .int .i64 who] w fun e w' => LinksTold (ruleW what) x who w e w' := by
  by_cases e0 : what = 7
  · subst e0
    have HC := hideIt (whole_any x who w)
    go_enter Tryz.func31, Tryz.ntmps31
    go_wp2_with fail
    refine HC.out.mono ?_
    rintro e w1 (⟨h1, rfl, h2⟩ | ⟨n, rfl, h1, lv, rfl, h3, h4⟩)
    · have H2 := hideIt h2
      clear h2 HC
      unfold badV
      go_wp2
      go_ret2
      exact .inl ⟨h1, rfl, H2.out⟩
    · have H3 := hideIt h3
      have H4 := hideIt h4
      clear h3 h4 HC
      go_wp2
      go_ret2
      exact .inr (.inr ⟨n, rfl, h1, fun h => absurd h (by decide), lv, rfl, H3.out, H4.out⟩)
  have e0' : (what == 7) = false := by simp [e0]
  by_cases e1 : what = 8
  · subst e1
    have HC := hideIt (halves_any x who w)
    go_enter Tryz.func31, Tryz.ntmps31
    go_wp2_with fail
    refine HC.out.mono ?_
    rintro e w1 (⟨h1, rfl, h2⟩ | ⟨n, rfl, h1, lv, rfl, h3, h4⟩)
    · have H2 := hideIt h2
      clear h2 HC
      unfold badV
      go_wp2
      go_ret2
      exact .inl ⟨h1, rfl, H2.out⟩
    · have H3 := hideIt h3
      have H4 := hideIt h4
      clear h3 h4 HC
      go_wp2
      go_ret2
      exact .inr (.inr ⟨n, rfl, h1, fun h => absurd h (by decide), lv, rfl, H3.out, H4.out⟩)
  have e1' : (what == 8) = false := by simp [e1]
  by_cases e2 : what = 9
  · subst e2
    have HC := hideIt (bridge_any x who w)
    go_enter Tryz.func31, Tryz.ntmps31
    go_wp2_with fail
    refine HC.out.mono ?_
    rintro e w1 (⟨h1, rfl, h2⟩ | ⟨n, rfl, h1, lv, rfl, h3, h4⟩)
    · have H2 := hideIt h2
      clear h2 HC
      unfold badV
      go_wp2
      go_ret2
      exact .inl ⟨h1, rfl, H2.out⟩
    · have H3 := hideIt h3
      have H4 := hideIt h4
      clear h3 h4 HC
      go_wp2
      go_ret2
      exact .inr (.inr ⟨n, rfl, h1, fun h => absurd h (by decide), lv, rfl, H3.out, H4.out⟩)
  have e2' : (what == 9) = false := by simp [e2]
  by_cases e3 : what = 10
  · subst e3
    have HC := hideIt (ring_any x who w)
    go_enter Tryz.func31, Tryz.ntmps31
    go_wp2_with fail
    refine HC.out.mono ?_
    rintro e w1 (⟨h1, rfl, h2⟩ | ⟨n, rfl, h1, lv, rfl, h3, h4⟩)
    · have H2 := hideIt h2
      clear h2 HC
      unfold badV
      go_wp2
      go_ret2
      exact .inl ⟨h1, rfl, H2.out⟩
    · have H3 := hideIt h3
      have H4 := hideIt h4
      clear h3 h4 HC
      go_wp2
      go_ret2
      exact .inr (.inr ⟨n, rfl, h1, fun h => absurd h (by decide), lv, rfl, H3.out, H4.out⟩)
  have e3' : (what == 10) = false := by simp [e3]
  have hr : ruleW what = 4 := by unfold ruleW; rw [if_neg (by omega)]
  rw [hr]
  have HC := hideIt (alone_any x who w)
  clear hr e0 e1 e2 e3
  go_enter Tryz.func31, Tryz.ntmps31
  go_wp2_with fail
  refine HC.out.mono ?_
  rintro e w1 (⟨h1, rfl, h2⟩ | ⟨h1, h0, h5, rfl, h2⟩ | ⟨n, rfl, h1, h5, lv, rfl, h3, h4⟩)
  · have H2 := hideIt h2
    clear h2 HC
    unfold badV
    go_wp2
    go_ret2
    exact .inl ⟨h1, rfl, H2.out⟩
  · have H2 := hideIt h2
    clear h2 HC
    unfold badV
    go_wp2
    go_ret2
    exact .inr (.inl ⟨h1, rfl, h5, rfl, H2.out⟩)
  · have H3 := hideIt h3
    have H4 := hideIt h4
    have H5 := hideIt h5
    clear h3 h4 h5 HC
    go_wp2
    go_ret2
    exact .inr (.inr ⟨n, rfl, h1, fun _ => H5.out trivial, lv, rfl, H3.out, H4.out⟩)
end Go.Proofs.YtncnojgemmcplaaGreatDoor.St
