/-
  The statement ModelBack walked: whatever the object, the kinds and the values, true.
-/
import Derived.Test.YtcfomkogojggnaaDoorBackB
import Derived.Deep.RegionHeld3
namespace Go.Proofs.YtcfomkogojggnaaDoor
open Go.RowKit

/-- Where the loop is: the ops so far, their order, and the state behind them, each in a block of its own. -/
structure BackAt (w wr : World) (o : Int) (vS vO vN : Value) (L : List Opn) (st : List Int) : Prop where
  made : Made o L st
  rowS : RowAt wr w.heap.size vS st
  rowO : OwnO wr w.heap.size vO L
  rowN : Own wr w.heap.size vN (ordL L.length)
  aON : ∀ b, vO.ownBlock = some b → vN.ownBlock ≠ some b
  aSO : ∀ b, vS.ownBlock = some b → vO.ownBlock ≠ some b ∧ vN.ownBlock ≠ some b
  ends : ∀ op ∈ L, 0 ≤ op.e
  bel : Below w.heap.size w wr

theorem BackAt.below {w wr w1 : World} {o : Int} {vS vO vN : Value} {L : List Opn} {st : List Int} (h : BackAt w wr o vS vO vN L st) (hb : Below wr.heap.size wr w1) : BackAt w w1 o vS vO vN L st := by
  have hg : wr.grownBy w1 none := ⟨hb.os, hb.tape, hb.output, hb.size, fun k hk _ => hb.block k hk⟩
  exact ⟨h.made, h.rowS.new hg, h.rowO.kept hg (Classical.em _), h.rowN.kept hg, h.aON, h.aSO, h.ends, belJ h.bel hb⟩

theorem opt_kept {a b : Option Nat} (h : ∀ k, a = some k → b ≠ some k) : a = none ∨ a ≠ b := by
  cases a with
  | none => exact .inl rfl
  | some k => exact .inr fun e => h k rfl e.symm

/-- One call: what Step tells, and what is appended. -/
theorem back_step {w wr : World} {o : Int} {vS vO vN : Value} {L : List Opn} {st : List Int} (h : BackAt w wr o vS vO vN L st) (hK : KnownAt w) (hpos : 1 < w.heap.size) (hL : L.length ≤ 60) (k a b c e : Int) (he : 0 ≤ e) :
    Calls Tryd.prog 22 #[.int .i64 o, vS, .int .i64 k, .int .i64 a, .int .i64 b] wr fun x w1 =>
      (x = .returned (.tuple #[.slice none 0 0, .int .i64 0, .bool false]) ∧ BackAt w w1 o vS vO vN L st) ∨
      ∃ st' r v' V1 W1 V2 W2, x = .returned (.tuple #[v', .int .i64 r, .bool true]) ∧
        (Builtin.append_ #[47, 47] 47 #[vN, .slice (some ⟨w1.heap.size, 0, none⟩) 1 1]).run Tryd.prog (w1.alloc (.cells #[.int .i64 L.length] 3)) = .ok V1 W1 ∧
        (Builtin.append_ #[23, 23] 23 #[vO, .slice (some ⟨W1.heap.size, 0, none⟩) 1 1]).run Tryd.prog (W1.alloc (.cells #[.int .i64 0, .int .i64 0, .int .i64 k, .int .i64 a, .int .i64 b, .int .i64 r, .int .i64 c, .int .i64 e] 57)) = .ok V2 W2 ∧
        BackAt w W2 o v' V2 V1 (L ++ [⟨0, 0, k, a, b, r, c, e⟩]) st' := by
  have hml := made_len h.made
  refine (step_any o k a b st vS wr (hK.below hpos h.bel) h.rowS.has (fun e => by have hm := h.made; subst e; exact (made_rises hm).imp fun h => Int.le_of_lt h) (by omega) (Nat.lt_of_lt_of_le hpos h.bel.size)).mono ?_
  rintro x w1 ⟨hb1, ht⟩
  have h1 := h.below hb1
  cases hst : stepM o st k a b with
  | none => rw [hst] at ht; exact .inl ⟨ht, h1⟩
  | some p =>
    obtain ⟨st', r⟩ := p
    rw [hst] at ht
    obtain ⟨v', hx, hr'⟩ := ht
    right
    have G1 := World.grownBy_alloc w1 (.cells #[.int .i64 L.length] 3) none
    obtain ⟨V1, W1, hrun1, O1, G2, hob1⟩ := run_app1 (h1.rowN.kept G1) (cell_new1 w1 (.int .i64 L.length)) (Nat.le_trans h1.bel.size G1.size) (by rw [ordL_len]; omega) 47
    have B1 : Below w.heap.size w W1 := (h1.bel.grown G1 h1.bel.size (fun k hk => by cases hk)).grown G2 (Nat.le_trans h1.bel.size G1.size) (own_lt (h1.rowN.kept G1))
    have G3 := World.grownBy_alloc W1 (Opn.obj ⟨0, 0, k, a, b, r, c, e⟩) none
    have rO1 : OwnO W1 w.heap.size vO L := (h1.rowO.kept G1 (Classical.em _)).kept G2 (opt_kept h1.aON)
    obtain ⟨V2, W2, hrun2, O2, G4, hob2⟩ := run_appO (rO1.kept G3 (Classical.em _)) (opAt_new W1 ⟨0, 0, k, a, b, r, c, e⟩) (Nat.le_trans B1.size G3.size) (by omega) 23
    have ltN : ∀ q, vN.ownBlock = some q → q < w1.heap.size := fun q hq => (World.ownsRow.lt h1.rowN q hq).2
    have ltO : ∀ q, vO.ownBlock = some q → q < w1.heap.size := fun q hq => (World.ownsRow.lt h1.rowO q hq).2
    have ltO1 : ∀ q, vO.ownBlock = some q → q < wr.heap.size := fun q hq => (World.ownsRow.lt h.rowO q hq).2
    have ltN1 : ∀ q, vN.ownBlock = some q → q < wr.heap.size := fun q hq => (World.ownsRow.lt h.rowN q hq).2
    have sz1 : w1.heap.size < W1.heap.size := Nat.lt_of_lt_of_le (by simp) G2.size
    have e1 : (w1.alloc (.cells #[.int .i64 L.length] 3)).heap.size = w1.heap.size + 1 := by simp
    have e2 : (W1.alloc (Opn.obj ⟨0, 0, k, a, b, r, c, e⟩)).heap.size = W1.heap.size + 1 := by simp
    rw [e1] at hob1
    rw [e2] at hob2
    have hV1 : ∀ q, V1.ownBlock = some q → vN.ownBlock = some q ∨ q = w1.heap.size + 1 := fun q hq => by
      rcases hob1 with h | h
      · exact .inl (h ▸ hq)
      · rw [h] at hq; simp at hq; exact .inr hq.symm
    have hV2 : ∀ q, V2.ownBlock = some q → vO.ownBlock = some q ∨ q = W1.heap.size + 1 := fun q hq => by
      rcases hob2 with h | h
      · exact .inl (h ▸ hq)
      · rw [h] at hq; simp at hq; exact .inr hq.symm
    have ltV1 : ∀ q, V1.ownBlock = some q → q < W1.heap.size := fun q hq => (World.ownsRow.lt O1 q hq).2
    have hvr : ∀ q, v'.ownBlock = some q → wr.heap.size ≤ q ∧ q < w1.heap.size := hr'.lt
    have rN2 : Own W2 w.heap.size V1 (ordL (L ++ [(⟨0, 0, k, a, b, r, c, e⟩ : Opn)]).length) := by
      have : ordL (L ++ [(⟨0, 0, k, a, b, r, c, e⟩ : Opn)]).length = ordL L.length ++ [(L.length : Int)] := by rw [List.length_append]; exact ordL_succ _
      rw [this]
      exact World.ownsRow.kept (O1.kept G3) G4 (opt_kept fun q hq e => by
        rcases hV1 q hq with h | h
        · exact h1.aON q e h
        · have := ltO q e; omega)
    have rS2 : RowAt W2 w.heap.size v' st' := by
      refine ((((hr'.base (Nat.le_trans h.bel.size (Nat.le_refl _))).new G1).kept G2 (opt_kept fun q hq e => ?_)).new G3).kept G4 (opt_kept fun q hq e => ?_)
      · have := ltN1 q e; have := (hvr q hq).1; omega
      · have := ltO1 q e; have := (hvr q hq).1; omega
    refine ⟨st', r, v', V1, W1, V2, W2, hx, hrun1, hrun2, made_snoc h.made rfl hst, rS2, O2, rN2, fun q hq e => ?_, fun q hq => ⟨fun e => ?_, fun e => ?_⟩, fun x hx => ?_, (B1.grown G3 B1.size (fun k hk => by cases hk)).grown G4 (Nat.le_trans B1.size G3.size) (fun q hq => (World.ownsRow.lt (rO1.kept G3 (Classical.em _)) q hq).1)⟩
    · rcases hV2 q hq with h | h
      · rcases hV1 q e with h' | h'
        · exact h1.aON q h h'
        · have := ltO q h; omega
      · have := ltV1 q e; omega
    · rcases hV2 q e with h | h
      · have := ltO1 q h; have := (hvr q hq).1; omega
      · have := (hvr q hq).2; omega
    · rcases hV1 q e with h | h
      · have := ltN1 q h; have := (hvr q hq).1; omega
      · have := (hvr q hq).2; omega
    · rcases List.mem_append.1 hx with hx | hx
      · exact h.ends x hx
      · rw [List.mem_singleton.1 hx]; exact he

theorem back_start {w : World} (o : Int) : BackAt w (startW w o) o (startV w o) (.slice none 0 0) (.slice none 0 0) [] (startL o) :=
  ⟨made_nil o, startAt w o, World.ownsRow_nil _ _ _ _, World.ownsRow_nil _ _ _ _, fun _ h => (by cases h), fun _ _ => ⟨fun h => (by cases h), fun h => (by cases h)⟩, fun _ h => (by cases h), below_grown (startGrown w o)⟩

/-- The last op's result turned. -/
theorem last_turned {w : World} {base g cap : Nat} {L : List Opn} {op : Opn} (h : OwnO w base (.slice (some ⟨g, 0, none⟩) (L ++ [op]).length cap) (L ++ [op])) (x : Int) :
    w.cell? ⟨g, L.length * 8 + 5, none⟩ = some (.int .i64 op.r) ∧ w.frozen? ⟨g, L.length * 8 + 5, none⟩ = false ∧ HasOps (w.setCell ⟨g, L.length * 8 + 5, none⟩ (.int .i64 x)) (.slice (some ⟨g, 0, none⟩) (L ++ [op]).length cap) (L ++ [{ op with r := x }]) := by
  obtain ⟨_, ⟨h0, _⟩ | ⟨g', cap', cur, e, _, hg, h1, h2, _, h4⟩⟩ := h
  · cases h0
  · obtain ⟨rfl, rfl⟩ : g = g' ∧ cap = cap' := by simpa using e
    have hat : ∀ i, (hi : i < (L ++ [op]).length) → OpAt w g (0 + i * 8) (L ++ [op])[i] := fun i hi => ownO_at hg h4 hi
    have hl := hat L.length (by simp)
    rw [show (L ++ [op])[L.length]'(by simp) = op by simp] at hl
    have c5 : w.cell? ⟨g, L.length * 8 + 5, none⟩ = some (.int .i64 op.r) := by simpa using hl.2.2.2.2.2.1
    refine ⟨c5, frozen_of_row w g _ cur 57 hg, _, cap, by simp, by simp; simp at h1; omega, .inr ⟨g, 0, rfl, fun i hi => ?_⟩⟩
    have hne : ∀ off, off ≠ L.length * 8 + 5 → (w.setCell ⟨g, L.length * 8 + 5, none⟩ (.int .i64 x)).cell? ⟨g, off, none⟩ = w.cell? ⟨g, off, none⟩ := fun off ho => World.cell?_setCell_other _ _ _ _ (by intro e; simp at e <;> exact ho e.symm)
    by_cases hil : i < L.length
    · have hi' := hat i (by simp; omega)
      rw [List.getElem_append_left hil] at hi' ⊢
      obtain ⟨p0, p1, p2, p3, p4, p5, p6, p7⟩ := hi'
      exact ⟨(hne _ (by omega)).trans p0, (hne _ (by omega)).trans p1, (hne _ (by omega)).trans p2, (hne _ (by omega)).trans p3, (hne _ (by omega)).trans p4, (hne _ (by omega)).trans p5, (hne _ (by omega)).trans p6, (hne _ (by omega)).trans p7⟩
    · obtain rfl : i = L.length := by simp at hi; omega
      rw [show (L ++ [{ op with r := x }])[L.length]'(by simp) = { op with r := x } by simp]
      obtain ⟨p0, p1, p2, p3, p4, p5, p6, p7⟩ := hl
      exact ⟨(hne _ (by omega)).trans p0, (hne _ (by omega)).trans p1, (hne _ (by omega)).trans p2, (hne _ (by omega)).trans p3, (hne _ (by omega)).trans p4, by simpa using World.cell?_setCell_same _ _ _ c5, (hne _ (by omega)).trans p6, (hne _ (by omega)).trans p7⟩

end Go.Proofs.YtcfomkogojggnaaDoor
