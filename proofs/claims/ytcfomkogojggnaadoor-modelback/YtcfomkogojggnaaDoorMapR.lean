/-
  The map of states in memory: what is at each key, each in a block of its own.
-/
import Derived.Test.YtcfomkogojggnaaDoorPlainR
import Derived.Maps.OwnSet
namespace Go.Proofs.YtcfomkogojggnaaDoor
open Go.RowKit
open Go.Maps (Keyed int_keyed IsMap)

def slD : Value → DataW Unit
  | .slice (some ⟨b, off, _⟩) n c => .agg [.lit (.int .i64 b), .lit (.int .i64 off), .lit (.int .i64 n), .lit (.int .i64 c)]
  | _ => .nil
/-- How a state reads as an element of a map: where it lies. -/
def slElem : Value → Option (DataW Unit × List MemPlace)
  | .slice (some ⟨b, off, none⟩) n c => some (slD (.slice (some ⟨b, off, none⟩) n c), [])
  | .slice none 0 0 => some (.nil, [])
  | _ => none
theorem slElem_nil : slElem (.slice none 0 0) = some (.nil, []) := rfl
theorem slElem_row {w : World} {base : Nat} {v : Value} {st : List Int} (h : RowAt w base v st) : slElem v = some (slD v, []) := by
  rcases h with ⟨rfl, _⟩ | ⟨g, off, cap, cur, rfl, _⟩
  · rfl
  · rfl
theorem slD_inj {u v : Value} {x : DataW Unit × List MemPlace} (hu : slElem u = some x) (hv : slElem v = some x) : u = v := by
  unfold slElem at hu hv
  split at hu
  · split at hv
    · have h := (Option.some.inj hu).trans (Option.some.inj hv).symm
      simp [slD] at h
      obtain ⟨h1, h2, h3, h4⟩ := h
      simp; omega
    · have h := (Option.some.inj hu).trans (Option.some.inj hv).symm
      simp [slD] at h
    · cases hv
  · split at hv
    · have h := (Option.some.inj hu).trans (Option.some.inj hv).symm
      simp [slD] at h
    · rfl
    · cases hv
  · cases hu

theorem keyedI : Keyed Tryd.prog 3 := int_keyed Tryd.underlying3
theorem zeroE (w : World) : (zeroValue 47).run Tryd.prog w = .ok (.slice none 0 0) w := by kernel_rfl
theorem keyI (p : Int) (h0 : 0 ≤ p) (h8 : p < 8) : keyOf Tryd.prog 3 (.int .i64 p) = some (.int .i64 p) := Go.Maps.keyOf_int_mk Tryd.underlying3 (WalkArith.wf_i64 (by omega))
theorem isKeyI (p : Int) : WideAt.IsKeyLit (.int .i64 p) := by simp [WideAt.IsKeyLit]

/-- Block M is a map that tells the state of each key. -/
def MapS (w : World) (M n : Nat) (f : Int → Option Value) : Prop :=
  ∃ D : DataW Unit, w.ownsMap Tryd.prog 3 slElem M n D ∧ ∀ q : Int, Maps.has D (.int .i64 q) = (f q).isSome ∧ ∀ v, f q = some v → slElem v = some (slD v, []) ∧ ∀ z, D.atKey (.int .i64 q) z = slD v

theorem MapS.kept {w w' : World} {M n : Nat} {f : Int → Option Value} {row : Option Nat} (h : MapS w M n f) (hg : w.grownBy w' row) (hne : some M ≠ row) : MapS w' M n f := by
  obtain ⟨D, h1, h2⟩ := h
  exact ⟨D, h1.kept hg hne, h2⟩
theorem mapS_made (w : World) : MapS (w.alloc (.map #[] 0)) w.heap.size 0 (fun _ => none) :=
  ⟨_, World.ownsMap_made w Tryd.prog 3 slElem, fun _ => ⟨rfl, fun o h => by cases h⟩⟩

theorem MapS.look {w : World} {M n : Nat} {f : Int → Option Value} (h : MapS w M n f) (p : Int) (h0 : 0 ≤ p) (h8 : p < 8) :
    ∃ v, (Instr.lookup 93 (.map (some M)) (.int .i64 p) true).run Tryd.prog w = .ok (.tuple #[v, .bool (f p).isSome]) w ∧ ∀ v', f p = some v' → v = v' := by
  obtain ⟨D, h1, h2⟩ := h
  obtain ⟨v, ps, hrun, hv⟩ := h1.look_ok keyedI Tryd.underlying93 (zeroE w) slElem_nil (keyI p h0 h8)
  refine ⟨v, by rw [← (h2 p).1]; exact hrun, fun v' hv' => ?_⟩
  obtain ⟨e1, e2⟩ := (h2 p).2 v' hv'
  rw [e2] at hv
  have hps : ps = [] := by
    unfold slElem at hv
    split at hv
    · have := congrArg Prod.snd (Option.some.inj hv); exact this.symm
    · have := congrArg Prod.snd (Option.some.inj hv); exact this.symm
    · cases hv
  subst hps
  exact slD_inj hv e1

theorem MapS.store {w : World} {M n : Nat} {f : Int → Option Value} (h : MapS w M n f) (hn : n < 1000) (p : Int) (h0 : 0 ≤ p) (h8 : p < 8) (v : Value) (hv : slElem v = some (slD v, [])) :
    ∃ w', (Instr.mapUpdate 93 (.map (some M)) (.int .i64 p) v).run Tryd.prog w = .ok () w' ∧ MapS w' M (n + 1) (setK f p (some v)) ∧ w.grownBy w' (some M) := by
  obtain ⟨D, h1, h2⟩ := h
  obtain ⟨w', hrun, ho, ht⟩ := h1.store keyedI Tryd.underlying93 (by unfold maxLen; omega) (keyI p h0 h8) hv
  refine ⟨w', hrun, ⟨_, ho, fun q => ?_⟩, ht.grown⟩
  by_cases e : q = p
  · subst e
    rw [setK_same, Maps.has_put_same h1.isMap (isKeyI q)]
    exact ⟨rfl, fun o ho => by obtain rfl := Option.some.inj ho; exact ⟨hv, fun z => Maps.atKey_put_same h1.isMap (isKeyI q) _ z⟩⟩
  · have hne : (Lit.int .i64 q) ≠ .int .i64 p := fun k => e (by simpa using k)
    rw [setK_other _ _ _ _ e, Maps.has_put_other hne]
    exact ⟨(h2 q).1, fun o ho => ⟨((h2 q).2 o ho).1, fun z => by rw [Maps.atKey_put_other hne]; exact ((h2 q).2 o ho).2 z⟩⟩

/-- The states of the keys: those that were begun lie in the map, each in a block of its own; the others are as at first. -/
structure StatesAt (w : World) (M n : Nat) (o : Int) (S : Int → List Int) (f : Int → Option Value) : Prop where
  map : MapS w M n f
  row : ∀ q v, f q = some v → RowAt w (M + 1) v (S q)
  start : ∀ q, f q = none → S q = startL o
  apart : ∀ q q' v v' b, q ≠ q' → f q = some v → f q' = some v' → v.ownBlock = some b → v'.ownBlock ≠ some b

theorem StatesAt.kept {w w' : World} {M n : Nat} {o : Int} {S : Int → List Int} {f : Int → Option Value} (h : StatesAt w M n o S f) (hg : w.grownBy w' none) : StatesAt w' M n o S f :=
  ⟨h.map.kept hg (by simp), fun q v hv => (h.row q v hv).new hg, h.start, h.apart⟩

theorem states_made (w : World) (o : Int) : StatesAt (w.alloc (.map #[] 0)) w.heap.size 0 o (fun _ => startL o) (fun _ => none) :=
  ⟨mapS_made w, fun _ _ h => (by cases h), fun _ _ => rfl, fun _ _ _ _ _ _ h => (by cases h)⟩

/-- A call that turned the state of one key, and the map that is told of it. -/
theorem StatesAt.next {w w2 : World} {M n : Nat} {o : Int} {S : Int → List Int} {f : Int → Option Value} (h : StatesAt w M n o S f) (hn : n < 1000) {p : Int} (h0 : 0 ≤ p) (h8 : p < 8) {v v' : Value} {st' : List Int}
    (_hM : M < w.heap.size) (hv : f p = some v ∨ (∀ b, v.ownBlock = some b → M + 1 ≤ b ∧ ∀ q u, f q = some u → u.ownBlock ≠ some b)) (hr : ∀ b, v.ownBlock = some b → M + 1 ≤ b) (ht : Turned w (M + 1) v w2 v' st') :
    ∃ w3, (Instr.mapUpdate 93 (.map (some M)) (.int .i64 p) v').run Tryd.prog w2 = .ok () w3 ∧ StatesAt w3 M (n + 1) o (setK S p st') (setK f p (some v')) ∧ w2.grownBy w3 (some M) := by
  have hMv : some M ≠ v.ownBlock := fun e => by have := hr M e.symm; omega
  obtain ⟨w3, hrun, hm, hg⟩ := (h.map.kept ht.grown hMv).store hn p h0 h8 v' (slElem_row ht.row)
  have hother : ∀ q u, q ≠ p → f q = some u → ∀ b, u.ownBlock = some b → v.ownBlock ≠ some b := fun q u hq hu b hb e => by
    rcases hv with hv | hv
    · exact h.apart p q v u b (Ne.symm hq) hv hu e hb
    · exact (hv b e).2 q u hu hb
  refine ⟨w3, hrun, ⟨hm, fun q u hu => ?_, fun q hq => ?_, fun q q' u u' b hqq hu hu' hb => ?_⟩, hg⟩
  · by_cases e : q = p
    · subst e
      rw [setK_same] at hu ⊢
      obtain rfl := Option.some.inj hu
      exact ht.row.kept hg (.inr fun e => by have := (ht.row.lt M e).1; omega)
    · rw [setK_other _ _ _ _ e] at hu ⊢
      have hrow := h.row q u hu
      refine (hrow.kept ht.grown ?_).kept hg (.inr fun e => by have := (hrow.lt M e).1; omega)
      cases hub : u.ownBlock with
      | none => exact .inl rfl
      | some b => exact .inr fun e' => hother q u e hu b hub e'.symm
  · by_cases e : q = p
    · subst e; rw [setK_same] at hq; cases hq
    · rw [setK_other _ _ _ _ e] at hq ⊢; exact h.start q hq
  · by_cases e : q = p
    · subst e
      rw [setK_same] at hu
      obtain rfl := Option.some.inj hu
      rw [setK_other _ _ _ _ (Ne.symm hqq)] at hu'
      intro e'
      rcases ht.own b hb with hb' | hb'
      · exact hother q' u' (Ne.symm hqq) hu' b e' hb'
      · have := ((h.row q' u' hu').lt b e').2; omega
    · rw [setK_other _ _ _ _ e] at hu
      by_cases e2 : q' = p
      · subst e2
        rw [setK_same] at hu'
        obtain rfl := Option.some.inj hu'
        intro e'
        rcases ht.own b e' with hb' | hb'
        · exact hother q u e hu b hb hb'
        · have := ((h.row q u hu).lt b hb).2; omega
      · rw [setK_other _ _ _ _ e2] at hu'
        exact h.apart q q' u u' b hqq hu hu' hb

end Go.Proofs.YtcfomkogojggnaaDoor
