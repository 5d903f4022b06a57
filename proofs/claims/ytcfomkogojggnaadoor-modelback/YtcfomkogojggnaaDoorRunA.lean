/-
  One op of a run: walked.
-/
import Derived.Test.YtcfomkogojggnaaDoorMapR
namespace Go.Proofs.YtcfomkogojggnaaDoor
open Go.RowKit

theorem opFine_none {o : Int} {S : Int → List Int} {op : Opn} (h : stepM o (S op.k) op.d op.a op.b = none) : opFine o S op = false := by simp [opFine, h]
theorem opFine_some {o : Int} {S : Int → List Int} {op : Opn} {st' : List Int} {r : Int} (h : stepM o (S op.k) op.d op.a op.b = some (st', r)) : opFine o S op = (decide (op.e < 0) || (op.r == r)) := by simp [opFine, h]
theorem after_some {o : Int} {S : Int → List Int} {op : Opn} {st' : List Int} {r : Int} (h : stepM o (S op.k) op.d op.a op.b = some (st', r)) : after o S op = setK S op.k st' := by simp [after, h]

/-- What one op tells of a run. -/
def OneTold (w : World) (M n : Nat) (o : Int) (S : Int → List Int) (op : Opn) (e : Ending) (w' : World) : Prop :=
  e = .returned (.bool (opFine o S op)) ∧ Below M w w' ∧ (opFine o S op = true → ∃ f', StatesAt w' M (n + 1) o (after o S op) f')

theorem bel_turned {w W W' : World} {M : Nat} {v : Value} (hb : Below M w W) (hM : M ≤ W.heap.size) (hr : ∀ b, v.ownBlock = some b → M + 1 ≤ b) (hg : W.grownBy W' v.ownBlock) : Below M w W' := hb.grown hg hM (fun k hk => by have := hr k hk; omega)

/-- The call and what is told to the map, as the walk wants it. -/
theorem one_call {w W : World} {M n : Nat} {o : Int} {S : Int → List Int} {f : Int → Option Value} {op : Opn} (h : StatesAt W M n o S f) (hn : n < 1000) (h0 : 0 ≤ op.k) (h8 : op.k < 8) (hM1 : 1 < M) (hMw : M < w.heap.size) (hK : KnownAt w)
    (hg : w.grownBy W none) (hbox : OpAt W w.heap.size 0 op) {v : Value} (hv : f op.k = some v ∨ (∀ b, v.ownBlock = some b → M + 1 ≤ b ∧ ∀ q u, f q = some u → u.ownBlock ≠ some b)) (hrow : RowAt W (M + 1) v (S op.k)) (hnb : v.ownBlock ≠ some w.heap.size)
    (hrise : o = 3 → (S op.k).Pairwise (· ≤ ·)) (hlen : (S op.k).length ≤ 1000) :
    Calls Tryd.prog 42 #[.int .i64 o, v, op.agg] W fun e w2 =>
      (stepM o (S op.k) op.d op.a op.b = none ∧ e = .returned (.tuple #[.slice none 0 0, .int .i64 0, .bool false]) ∧ Below M w w2) ∨
      ∃ st' r v' w3, stepM o (S op.k) op.d op.a op.b = some (st', r) ∧ e = .returned (.tuple #[v', .int .i64 r, .bool true]) ∧ (Instr.mapUpdate 93 (.map (some M)) (.int .i64 op.k) v').run Tryd.prog w2 = .ok () w3 ∧
        OpAt w2 w.heap.size 0 op ∧ OpAt w3 w.heap.size 0 op ∧ Below M w w3 ∧ ∃ f', StatesAt w3 M (n + 1) o (after o S op) f' := by
  have hMW : M < W.heap.size := Nat.lt_of_lt_of_le hMw hg.size
  have hr : ∀ b, v.ownBlock = some b → M + 1 ≤ b := fun b hb => (hrow.lt b hb).1
  have hbW : Below M w W := (below_grown hg).mono (by omega)
  refine (call_any o (S op.k) op v (M + 1) W (hK.below hM1 hbW) hrow hrise (by omega) (by omega) (by omega)).mono ?_
  intro e w2 ht
  unfold CallTold at ht
  cases hst : stepM o (S op.k) op.d op.a op.b with
  | none =>
    rw [hst] at ht
    exact .inl ⟨rfl, ht.1, bel_turned hbW (by omega) hr ht.2⟩
  | some p =>
    obtain ⟨st', r⟩ := p
    rw [hst] at ht
    obtain ⟨v', he, ht⟩ := ht
    obtain ⟨w3, hrun, hs, hg3⟩ := h.next hn h0 h8 hMW hv hr ht
    have hb2 := bel_turned hbW (by omega) hr ht.grown
    have ho2 := hbox.kept ht.grown (fun e => hnb e.symm)
    refine .inr ⟨st', r, v', w3, rfl, he, hrun, ho2, ho2.kept hg3 (fun e => by simp at e; omega), ?_, _, by rw [after_some hst]; exact hs⟩
    exact hb2.grown hg3 (Nat.le_trans (by omega) ht.grown.size) (fun k hk => by simp at hk; omega)

set_option maxRecDepth 100000 in
set_option maxHeartbeats 2000000 in
theorem runOne_any (o : Int) (op : Opn) (M n : Nat) (S : Int → List Int) (f : Int → Option Value) (w : World) (h : StatesAt w M n o S f) (hn : n < 1000) (h0 : 0 ≤ op.k) (h8 : op.k < 8) (hM1 : 1 < M) (hMw : M < w.heap.size) (hK : KnownAt w)
    (hrise : o = 3 → (S op.k).Pairwise (· ≤ ·)) (hlen : (S op.k).length ≤ 1000) :
    Calls Tryd.prog 44 #[.int .i64 o, .map (some M), op.agg] w fun e w' => OneTold w M n o S op e w' := by
  have hgr := World.grownBy_alloc w op.obj none
  have h1 := h.kept hgr
  have hbox := opAt_new w op
  obtain ⟨v, hlook, hv⟩ := h1.map.look op.k h0 h8
  cases hf : f op.k with
  | none =>
    rw [hf] at hlook
    simp only [Option.isSome_none] at hlook
    have hst := startAt (w.alloc op.obj) o
    have hsg := startGrown (w.alloc op.obj) o
    have hsc := start_any o (w.alloc op.obj)
    obtain ⟨V2, hV2⟩ : ∃ V2, V2 = startV (w.alloc op.obj) o := ⟨_, rfl⟩
    obtain ⟨W2, hW2⟩ : ∃ W2, W2 = startW (w.alloc op.obj) o := ⟨_, rfl⟩
    rw [← hV2, ← hW2] at hsc
    rw [← hW2, ← hV2] at hst
    rw [← hW2] at hsg
    have hbox2 := hbox.kept hsg (by simp)
    have hlt2 : ∀ b, V2.ownBlock = some b → w.heap.size < b := fun b hb => by have := (hst.lt b hb).1; simp at this; omega
    have HC := hideIt (one_call (h1.kept hsg) hn h0 h8 hM1 hMw hK (hgr.trans hsg) hbox2 (v := V2) (.inr fun b hb => ⟨by have := hlt2 b hb; omega, fun q u hu e => by have := ((h.row q u hu).lt b e).2; have := hlt2 b hb; omega⟩) (by rw [h1.start op.k hf]; exact hst.base (by simp; omega)) (fun e => by have := hlt2 _ e; omega) hrise hlen)
    have HST := hideIt hsc
    clear hV2 hW2 hst hsg hsc hrise hf h1 h hgr hv hlt2 hbox
    obtain ⟨b0, b1, b2, b3, b4, b5, b6, b7⟩ := hbox2
    unfold Opn.agg at HC
    unfold Opn.agg
    unfold Opn.obj at hlook HST
    cases he : decide (op.e < 0)
    all_goals
      go_enter Tryd.func44, Tryd.ntmps44
      go_wp2_with (first | (go_at_call 20; refine HST.out.mono ?_; rintro e w1 ⟨rfl, hw1⟩; have hw1 := hw1.symm; subst hw1) | fail)
      refine HC.out.mono ?_
      rintro e w2 (⟨hst, rfl, hb⟩ | ⟨st', r, v', w3, hst, rfl, hrun, ⟨c0, c1, c2, c3, c4, c5, c6, c7⟩, ⟨d0, d1, d2, d3, d4, d5, d6, d7⟩, hb, hs⟩)
      · have HB := hideIt hb
        have HF := hideIt (opFine_none hst)
        clear hst hb
        go_wp2
        go_ret
        exact ⟨by rw [HF.out]; rfl, HB.out, fun e => by rw [HF.out] at e; cases e⟩
      · have HB := hideIt hb
        have HF := hideIt (opFine_some hst)
        have HS := hideIt hs
        clear hst hb hs
        go_wp2
        go_ret
        exact ⟨by rw [HF.out, he]; rfl, HB.out, fun _ => HS.out⟩
  | some v0 =>
    rw [hf] at hlook
    obtain rfl := hv v0 hf
    simp only [Option.isSome_some] at hlook
    have HC := hideIt (one_call h1 hn h0 h8 hM1 hMw hK hgr hbox (v := v) (.inl hf) (h1.row _ _ hf) (fun e => by have := ((h.row _ _ hf).lt _ e).2; omega) hrise hlen)
    clear hrise hf h1 h hgr hv hbox
    unfold Opn.agg at HC
    unfold Opn.agg
    unfold Opn.obj at hlook HC
    cases he : decide (op.e < 0)
    all_goals
      go_enter Tryd.func44, Tryd.ntmps44
      go_wp2_with fail
      refine HC.out.mono ?_
      rintro e w2 (⟨hst, rfl, hb⟩ | ⟨st', r, v', w3, hst, rfl, hrun, ⟨c0, c1, c2, c3, c4, c5, c6, c7⟩, ⟨d0, d1, d2, d3, d4, d5, d6, d7⟩, hb, hs⟩)
      · have HB := hideIt hb
        have HF := hideIt (opFine_none hst)
        clear hst hb
        go_wp2
        go_ret
        exact ⟨by rw [HF.out]; rfl, HB.out, fun e => by rw [HF.out] at e; cases e⟩
      · have HB := hideIt hb
        have HF := hideIt (opFine_some hst)
        have HS := hideIt hs
        clear hst hb hs
        go_wp2
        go_ret
        exact ⟨by rw [HF.out, he]; rfl, HB.out, fun _ => HS.out⟩

end Go.Proofs.YtcfomkogojggnaaDoor
