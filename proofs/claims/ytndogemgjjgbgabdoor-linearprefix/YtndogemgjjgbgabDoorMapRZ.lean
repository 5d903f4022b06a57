/-
  The map of states in memory: what is at each key, each in a block of its own.
  One op of a run: walked.
-/
import Derived.Test.YtndogemgjjgbgabDoorRefUZ
import Derived.Maps.OwnSet
namespace Go.Proofs.YtndogemgjjgbgabDoor
open Go.RowKit
open Go.Maps (Keyed int_keyed IsMap)

def slD : Value → DataW Unit
  | .slice (some ⟨b, off, _⟩) n c => .agg [.lit (.int .i64 b), .lit (.int .i64 off), .lit (.int .i64 n), .lit (.int .i64 c)]
  | _ => .nil
/-- How a state reads as an element of a map: where it lies. -/
def slElem : Value → Option (DataW Unit × List MemPlace)
  | .slice (some ⟨b, off, none⟩) n c => some (slD (.slice (some ⟨b, off, none⟩) n c), [])
  | .slice none 0 0 => some (.nil, [])
  | _ => none
theorem slElem_nil : slElem (.slice none 0 0) = some (.nil, []) := rfl
theorem slElem_row {w : World} {base : Nat} {v : Value} {st : List Int} (h : RowAt w base v st) : slElem v = some (slD v, []) := by
  rcases h with ⟨rfl, _⟩ | ⟨g, off, cap, cur, rfl, _⟩
  · rfl
  · rfl
theorem slD_inj {u v : Value} {x : DataW Unit × List MemPlace} (hu : slElem u = some x) (hv : slElem v = some x) : u = v := by
  unfold slElem at hu hv
  split at hu
  · split at hv
    · have h := (Option.some.inj hu).trans (Option.some.inj hv).symm
      simp [slD] at h
      obtain ⟨h1, h2, h3, h4⟩ := h
      simp; omega
    · have h := (Option.some.inj hu).trans (Option.some.inj hv).symm
      simp [slD] at h
    · cases hv
  · split at hv
    · have h := (Option.some.inj hu).trans (Option.some.inj hv).symm
      simp [slD] at h
    · rfl
    · cases hv
  · cases hu

theorem keyedI : Keyed Tryd.prog 3 := int_keyed Tryd.underlying3
theorem zeroE (w : World) : (zeroValue 30).run Tryd.prog w = .ok (.slice none 0 0) w := by kernel_rfl
theorem keyI (p : Int) (h0 : 0 ≤ p) (h8 : p < 8) : keyOf Tryd.prog 3 (.int .i64 p) = some (.int .i64 p) := Go.Maps.keyOf_int_mk Tryd.underlying3 (WalkArith.wf_i64 (by omega))
theorem isKeyI (p : Int) : WideAt.IsKeyLit (.int .i64 p) := by simp [WideAt.IsKeyLit]

/-- Block M is a map that tells the state of each key. -/
def MapS (w : World) (M n : Nat) (f : Int → Option Value) : Prop :=
  ∃ D : DataW Unit, w.ownsMap Tryd.prog 3 slElem M n D ∧ ∀ q : Int, Maps.has D (.int .i64 q) = (f q).isSome ∧ ∀ v, f q = some v → slElem v = some (slD v, []) ∧ ∀ z, D.atKey (.int .i64 q) z = slD v

theorem MapS.kept {w w' : World} {M n : Nat} {f : Int → Option Value} {row : Option Nat} (h : MapS w M n f) (hg : w.grownBy w' row) (hne : some M ≠ row) : MapS w' M n f := by
  obtain ⟨D, h1, h2⟩ := h
  exact ⟨D, h1.kept hg hne, h2⟩
theorem mapS_made (w : World) : MapS (w.alloc (.map #[] 0)) w.heap.size 0 (fun _ => none) :=
  ⟨_, World.ownsMap_made w Tryd.prog 3 slElem, fun _ => ⟨rfl, fun o h => by cases h⟩⟩

theorem MapS.look {w : World} {M n : Nat} {f : Int → Option Value} (h : MapS w M n f) (p : Int) (h0 : 0 ≤ p) (h8 : p < 8) :
    ∃ v, (Instr.lookup 83 (.map (some M)) (.int .i64 p) true).run Tryd.prog w = .ok (.tuple #[v, .bool (f p).isSome]) w ∧ ∀ v', f p = some v' → v = v' := by
  obtain ⟨D, h1, h2⟩ := h
  obtain ⟨v, ps, hrun, hv⟩ := h1.look_ok keyedI Tryd.underlying83 (zeroE w) slElem_nil (keyI p h0 h8)
  refine ⟨v, by rw [← (h2 p).1]; exact hrun, fun v' hv' => ?_⟩
  obtain ⟨e1, e2⟩ := (h2 p).2 v' hv'
  rw [e2] at hv
  have hps : ps = [] := by
    unfold slElem at hv
    split at hv
    · have := congrArg Prod.snd (Option.some.inj hv); exact this.symm
    · have := congrArg Prod.snd (Option.some.inj hv); exact this.symm
    · cases hv
  subst hps
  exact slD_inj hv e1

theorem MapS.store {w : World} {M n : Nat} {f : Int → Option Value} (h : MapS w M n f) (hn : n < 1000) (p : Int) (h0 : 0 ≤ p) (h8 : p < 8) (v : Value) (hv : slElem v = some (slD v, [])) :
    ∃ w', (Instr.mapUpdate 83 (.map (some M)) (.int .i64 p) v).run Tryd.prog w = .ok () w' ∧ MapS w' M (n + 1) (setK f p (some v)) ∧ w.grownBy w' (some M) := by
  obtain ⟨D, h1, h2⟩ := h
  obtain ⟨w', hrun, ho, ht⟩ := h1.store keyedI Tryd.underlying83 (by unfold maxLen; omega) (keyI p h0 h8) hv
  refine ⟨w', hrun, ⟨_, ho, fun q => ?_⟩, ht.grown⟩
  by_cases e : q = p
  · subst e
    rw [setK_same, Maps.has_put_same h1.isMap (isKeyI q)]
    exact ⟨rfl, fun o ho => by obtain rfl := Option.some.inj ho; exact ⟨hv, fun z => Maps.atKey_put_same h1.isMap (isKeyI q) _ z⟩⟩
  · have hne : (Lit.int .i64 q) ≠ .int .i64 p := fun k => e (by simpa using k)
    rw [setK_other _ _ _ _ e, Maps.has_put_other hne]
    exact ⟨(h2 q).1, fun o ho => ⟨((h2 q).2 o ho).1, fun z => by rw [Maps.atKey_put_other hne]; exact ((h2 q).2 o ho).2 z⟩⟩

/-- The states of the keys: those that were begun lie in the map, each in a block of its own; the others are as at first. -/
structure StatesAt (w : World) (M n : Nat) (o : Int) (S : Int → List Int) (f : Int → Option Value) : Prop where
  map : MapS w M n f
  row : ∀ q v, f q = some v → RowAt w (M + 1) v (S q)
  start : ∀ q, f q = none → S q = startL o
  apart : ∀ q q' v v' b, q ≠ q' → f q = some v → f q' = some v' → v.ownBlock = some b → v'.ownBlock ≠ some b

theorem StatesAt.kept {w w' : World} {M n : Nat} {o : Int} {S : Int → List Int} {f : Int → Option Value} (h : StatesAt w M n o S f) (hg : w.grownBy w' none) : StatesAt w' M n o S f :=
  ⟨h.map.kept hg (by simp), fun q v hv => (h.row q v hv).new hg, h.start, h.apart⟩

theorem states_made (w : World) (o : Int) : StatesAt (w.alloc (.map #[] 0)) w.heap.size 0 o (fun _ => startL o) (fun _ => none) :=
  ⟨mapS_made w, fun _ _ h => (by cases h), fun _ _ => rfl, fun _ _ _ _ _ _ h => (by cases h)⟩

/-- A call that turned the state of one key, and the map that is told of it. -/
theorem StatesAt.next {w w2 : World} {M n : Nat} {o : Int} {S : Int → List Int} {f : Int → Option Value} (h : StatesAt w M n o S f) (hn : n < 1000) {p : Int} (h0 : 0 ≤ p) (h8 : p < 8) {v v' : Value} {st' : List Int}
    (_hM : M < w.heap.size) (hv : f p = some v ∨ (∀ b, v.ownBlock = some b → M + 1 ≤ b ∧ ∀ q u, f q = some u → u.ownBlock ≠ some b)) (hr : ∀ b, v.ownBlock = some b → M + 1 ≤ b) (ht : Turned w (M + 1) v w2 v' st') :
    ∃ w3, (Instr.mapUpdate 83 (.map (some M)) (.int .i64 p) v').run Tryd.prog w2 = .ok () w3 ∧ StatesAt w3 M (n + 1) o (setK S p st') (setK f p (some v')) ∧ w2.grownBy w3 (some M) := by
  have hMv : some M ≠ v.ownBlock := fun e => by have := hr M e.symm; omega
  obtain ⟨w3, hrun, hm, hg⟩ := (h.map.kept ht.grown hMv).store hn p h0 h8 v' (slElem_row ht.row)
  have hother : ∀ q u, q ≠ p → f q = some u → ∀ b, u.ownBlock = some b → v.ownBlock ≠ some b := fun q u hq hu b hb e => by
    rcases hv with hv | hv
    · exact h.apart p q v u b (Ne.symm hq) hv hu e hb
    · exact (hv b e).2 q u hu hb
  refine ⟨w3, hrun, ⟨hm, fun q u hu => ?_, fun q hq => ?_, fun q q' u u' b hqq hu hu' hb => ?_⟩, hg⟩
  · by_cases e : q = p
    · subst e
      rw [setK_same] at hu ⊢
      obtain rfl := Option.some.inj hu
      exact ht.row.kept hg (.inr fun e => by have := (ht.row.lt M e).1; omega)
    · rw [setK_other _ _ _ _ e] at hu ⊢
      have hrow := h.row q u hu
      refine (hrow.kept ht.grown ?_).kept hg (.inr fun e => by have := (hrow.lt M e).1; omega)
      cases hub : u.ownBlock with
      | none => exact .inl rfl
      | some b => exact .inr fun e' => hother q u e hu b hub e'.symm
  · by_cases e : q = p
    · subst e; rw [setK_same] at hq; cases hq
    · rw [setK_other _ _ _ _ e] at hq ⊢; exact h.start q hq
  · by_cases e : q = p
    · subst e
      rw [setK_same] at hu
      obtain rfl := Option.some.inj hu
      rw [setK_other _ _ _ _ (Ne.symm hqq)] at hu'
      intro e'
      rcases ht.own b hb with hb' | hb'
      · exact hother q' u' (Ne.symm hqq) hu' b e' hb'
      · have := ((h.row q' u' hu').lt b e').2; omega
    · rw [setK_other _ _ _ _ e] at hu
      by_cases e2 : q' = p
      · subst e2
        rw [setK_same] at hu'
        obtain rfl := Option.some.inj hu'
        intro e'
        rcases ht.own b e' with hb' | hb'
        · exact hother q u e hu b hb hb'
        · have := ((h.row q u hu).lt b hb).2; omega
      · rw [setK_other _ _ _ _ e2] at hu'
        exact h.apart q q' u u' b hqq hu hu' hb

end Go.Proofs.YtndogemgjjgbgabDoor

namespace Go.Proofs.YtndogemgjjgbgabDoor
open Go.RowKit

theorem opFine_none {o : Int} {S : Int → List Int} {op : Opn} (h : stepM o (S op.k) op.d op.a op.b = none) : opFine o S op = false := by simp [opFine, h]
theorem opFine_some {o : Int} {S : Int → List Int} {op : Opn} {st' : List Int} {r : Int} (h : stepM o (S op.k) op.d op.a op.b = some (st', r)) : opFine o S op = (decide (op.e < 0) || (op.r == r)) := by simp [opFine, h]
theorem after_some {o : Int} {S : Int → List Int} {op : Opn} {st' : List Int} {r : Int} (h : stepM o (S op.k) op.d op.a op.b = some (st', r)) : after o S op = setK S op.k st' := by simp [after, h]

/-- What one op tells of a run. -/
def OneTold (w : World) (M n : Nat) (o : Int) (S : Int → List Int) (op : Opn) (e : Ending) (w' : World) : Prop :=
  e = .returned (.bool (opFine o S op)) ∧ Below M w w' ∧ (opFine o S op = true → ∃ f', StatesAt w' M (n + 1) o (after o S op) f')

theorem bel_turned {w W W' : World} {M : Nat} {v : Value} (hb : Below M w W) (hM : M ≤ W.heap.size) (hr : ∀ b, v.ownBlock = some b → M + 1 ≤ b) (hg : W.grownBy W' v.ownBlock) : Below M w W' := hb.grown hg hM (fun k hk => by have := hr k hk; omega)

/-- The call and what is told to the map, as the walk wants it. -/
theorem one_call {w W : World} {M n : Nat} {o : Int} {S : Int → List Int} {f : Int → Option Value} {op : Opn} (h : StatesAt W M n o S f) (hn : n < 1000) (h0 : 0 ≤ op.k) (h8 : op.k < 8) (hM1 : 0 < M) (hMw : M < w.heap.size) (hK : KnownAt w)
    (hg : w.grownBy W none) (hbox : OpAt W w.heap.size 0 op) {v : Value} (hv : f op.k = some v ∨ (∀ b, v.ownBlock = some b → M + 1 ≤ b ∧ ∀ q u, f q = some u → u.ownBlock ≠ some b)) (hrow : RowAt W (M + 1) v (S op.k)) (hnb : v.ownBlock ≠ some w.heap.size)
    (hrise : o = 3 → (S op.k).Pairwise (· ≤ ·)) (hlen : (S op.k).length ≤ 1000) :
    Calls Tryd.prog 48 #[.int .i64 o, v, op.agg] W fun e w2 =>
      (stepM o (S op.k) op.d op.a op.b = none ∧ e = .returned (.tuple #[.slice none 0 0, .int .i64 0, .bool false]) ∧ Below M w w2) ∨
      ∃ st' r v' w3, stepM o (S op.k) op.d op.a op.b = some (st', r) ∧ e = .returned (.tuple #[v', .int .i64 r, .bool true]) ∧ (Instr.mapUpdate 83 (.map (some M)) (.int .i64 op.k) v').run Tryd.prog w2 = .ok () w3 ∧
        OpAt w2 w.heap.size 0 op ∧ OpAt w3 w.heap.size 0 op ∧ Below M w w3 ∧ ∃ f', StatesAt w3 M (n + 1) o (after o S op) f' := by
  have hMW : M < W.heap.size := Nat.lt_of_lt_of_le hMw hg.size
  have hr : ∀ b, v.ownBlock = some b → M + 1 ≤ b := fun b hb => (hrow.lt b hb).1
  have hbW : Below M w W := (below_grown hg).mono (by omega)
  refine (call_any o (S op.k) op v (M + 1) W (hK.below hM1 hbW) hrow hrise (by omega) (by omega) (by omega)).mono ?_
  intro e w2 ht
  unfold CallTold at ht
  cases hst : stepM o (S op.k) op.d op.a op.b with
  | none =>
    rw [hst] at ht
    exact .inl ⟨rfl, ht.1, bel_turned hbW (by omega) hr ht.2⟩
  | some p =>
    obtain ⟨st', r⟩ := p
    rw [hst] at ht
    obtain ⟨v', he, ht⟩ := ht
    obtain ⟨w3, hrun, hs, hg3⟩ := h.next hn h0 h8 hMW hv hr ht
    have hb2 := bel_turned hbW (by omega) hr ht.grown
    have ho2 := hbox.kept ht.grown (fun e => hnb e.symm)
    refine .inr ⟨st', r, v', w3, rfl, he, hrun, ho2, ho2.kept hg3 (fun e => by simp at e; omega), ?_, _, by rw [after_some hst]; exact hs⟩
    exact hb2.grown hg3 (Nat.le_trans (by omega) ht.grown.size) (fun k hk => by simp at hk; omega)

set_option maxRecDepth 100000 in
set_option maxHeartbeats 2000000 in
theorem runOne_any (o : Int) (op : Opn) (M n : Nat) (S : Int → List Int) (f : Int → Option Value) (w : World) (h : StatesAt w M n o S f) (hn : n < 1000) (h0 : 0 ≤ op.k) (h8 : op.k < 8) (hM1 : 0 < M) (hMw : M < w.heap.size) (hK : KnownAt w)
    (hrise : o = 3 → (S op.k).Pairwise (· ≤ ·)) (hlen : (S op.k).length ≤ 1000) :
    Calls Tryd.prog 37 #[.int .i64 o, .map (some M), op.agg] w fun e w' => OneTold w M n o S op e w' := by
  have hgr := World.grownBy_alloc w op.obj none
  have h1 := h.kept hgr
  have hbox := opAt_obj w op
  obtain ⟨v, hlook, hv⟩ := h1.map.look op.k h0 h8
  cases hf : f op.k with
  | none =>
    rw [hf] at hlook
    simp only [Option.isSome_none] at hlook
    have hst := startAt (w.alloc op.obj) o
    have hsg := startGrown (w.alloc op.obj) o
    have hsc := start_any o (w.alloc op.obj)
    obtain ⟨V2, hV2⟩ : ∃ V2, V2 = startV (w.alloc op.obj) o := ⟨_, rfl⟩
    obtain ⟨W2, hW2⟩ : ∃ W2, W2 = startW (w.alloc op.obj) o := ⟨_, rfl⟩
    rw [← hV2, ← hW2] at hsc
    rw [← hW2, ← hV2] at hst
    rw [← hW2] at hsg
    have hbox2 := hbox.kept hsg (by simp)
    have hlt2 : ∀ b, V2.ownBlock = some b → w.heap.size < b := fun b hb => by have := (hst.lt b hb).1; simp at this; omega
    have HC := hideIt (one_call (h1.kept hsg) hn h0 h8 hM1 hMw hK (hgr.trans hsg) hbox2 (v := V2) (.inr fun b hb => ⟨by have := hlt2 b hb; omega, fun q u hu e => by have := ((h.row q u hu).lt b e).2; have := hlt2 b hb; omega⟩) (by rw [h1.start op.k hf]; exact hst.base (by simp; omega)) (fun e => by have := hlt2 _ e; omega) hrise hlen)
    have HST := hideIt hsc
    clear hV2 hW2 hst hsg hsc hrise hf h1 h hgr hv hlt2 hbox
    obtain ⟨b0, b1, b2, b3, b4, b5, b6, b7⟩ := hbox2
    unfold Opn.agg at HC
    unfold Opn.agg
    unfold Opn.obj at hlook HST
    cases he : decide (op.e < 0)
    all_goals
      go_enter Tryd.func37, Tryd.ntmps37
      go_wp2_with (first | (go_at_call 44; refine HST.out.mono ?_; rintro e w1 ⟨rfl, hw1⟩; have hw1 := hw1.symm; subst hw1) | fail)
      refine HC.out.mono ?_
      rintro e w2 (⟨hst, rfl, hb⟩ | ⟨st', r, v', w3, hst, rfl, hrun, ⟨c0, c1, c2, c3, c4, c5, c6, c7⟩, ⟨d0, d1, d2, d3, d4, d5, d6, d7⟩, hb, hs⟩)
      · have HB := hideIt hb
        have HF := hideIt (opFine_none hst)
        clear hst hb
        go_wp2
        go_ret
        exact ⟨by rw [HF.out]; rfl, HB.out, fun e => by rw [HF.out] at e; cases e⟩
      · have HB := hideIt hb
        have HF := hideIt (opFine_some hst)
        have HS := hideIt hs
        clear hst hb hs
        go_wp2
        go_ret
        exact ⟨by rw [HF.out, he]; rfl, HB.out, fun _ => HS.out⟩
  | some v0 =>
    rw [hf] at hlook
    obtain rfl := hv v0 hf
    simp only [Option.isSome_some] at hlook
    have HC := hideIt (one_call h1 hn h0 h8 hM1 hMw hK hgr hbox (v := v) (.inl hf) (h1.row _ _ hf) (fun e => by have := ((h.row _ _ hf).lt _ e).2; omega) hrise hlen)
    clear hrise hf h1 h hgr hv hbox
    unfold Opn.agg at HC
    unfold Opn.agg
    unfold Opn.obj at hlook HC
    cases he : decide (op.e < 0)
    all_goals
      go_enter Tryd.func37, Tryd.ntmps37
      go_wp2_with fail
      refine HC.out.mono ?_
      rintro e w2 (⟨hst, rfl, hb⟩ | ⟨st', r, v', w3, hst, rfl, hrun, ⟨c0, c1, c2, c3, c4, c5, c6, c7⟩, ⟨d0, d1, d2, d3, d4, d5, d6, d7⟩, hb, hs⟩)
      · have HB := hideIt hb
        have HF := hideIt (opFine_none hst)
        clear hst hb
        go_wp2
        go_ret
        exact ⟨by rw [HF.out]; rfl, HB.out, fun e => by rw [HF.out] at e; cases e⟩
      · have HB := hideIt hb
        have HF := hideIt (opFine_some hst)
        have HS := hideIt hs
        clear hst hb hs
        go_wp2
        go_ret
        exact ⟨by rw [HF.out, he]; rfl, HB.out, fun _ => HS.out⟩

end Go.Proofs.YtndogemgjjgbgabDoor
