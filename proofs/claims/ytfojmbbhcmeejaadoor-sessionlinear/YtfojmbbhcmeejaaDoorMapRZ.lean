/-
  The map of states in memory: what is at each key, each in a block of its own.
  One op of a run: walked.
-/
import Derived.Test.YtfojmbbhcmeejaaDoorRefUZ
import Derived.Maps.OwnSet
namespace Go.Proofs.YtfojmbbhcmeejaaDoor
open Go.RowKit
open Go.Maps (Keyed int_keyed IsMap)

def slD : Value → DataW Unit
  | .slice (some ⟨b, off, _⟩) n c => .agg [.lit (.int .i64 b), .lit (.int .i64 off), .lit (.int .i64 n), .lit (.int .i64 c)]
  | _ => .nil
/-- How a state reads as an element of a map: where it lies. -/
def slElem : Value → Option (DataW Unit × List MemPlace)
  | .slice (some ⟨b, off, none⟩) n c => some (slD (.slice (some ⟨b, off, none⟩) n c), [])
  | .slice none 0 0 => some (.nil, [])
  | _ => none
theorem slElem_nil : slElem (.slice none 0 0) = some (.nil, []) := rfl
theorem slElem_row {w : World} {base : Nat} {v : Value} {st : List Int} (h : RowAt w base v st) : slElem v = some (slD v, []) := by
  rcases h with ⟨rfl, _⟩ | ⟨g, off, cap, cur, rfl, _⟩
  · rfl
  · rfl
theorem slD_inj {u v : Value} {x : DataW Unit × List MemPlace} (hu : slElem u = some x) (hv : slElem v = some x) : u = v := by
  unfold slElem at hu hv
  split at hu
  · split at hv
    · have h := (Option.some.inj hu).trans (Option.some.inj hv).symm
      simp [slD] at h
      obtain ⟨h1, h2, h3, h4⟩ := h
      simp; omega
    · have h := (Option.some.inj hu).trans (Option.some.inj hv).symm
      simp [slD] at h
    · cases hv
  · split at hv
    · have h := (Option.some.inj hu).trans (Option.some.inj hv).symm
      simp [slD] at h
    · rfl
    · cases hv
  · cases hu

theorem keyedI : Keyed Tryd.prog 3 := int_keyed Tryd.underlying3
theorem zeroE (w : World) : (zeroValue 41).run Tryd.prog w = .ok (.slice none 0 0) w := by kernel_rfl
theorem keyI (p : Int) (h0 : 0 ≤ p) (h8 : p < 8) : keyOf Tryd.prog 3 (.int .i64 p) = some (.int .i64 p) := Go.Maps.keyOf_int_mk Tryd.underlying3 (WalkArith.wf_i64 (by omega))
theorem isKeyI (p : Int) : WideAt.IsKeyLit (.int .i64 p) := by simp [WideAt.IsKeyLit]

/-- Block M is a map that tells the state of each key. -/
def MapS (w : World) (M n : Nat) (f : Int → Option Value) : Prop :=
  ∃ D : DataW Unit, w.ownsMap Tryd.prog 3 slElem M n D ∧ ∀ q : Int, Maps.has D (.int .i64 q) = (f q).isSome ∧ ∀ v, f q = some v → slElem v = some (slD v, []) ∧ ∀ z, D.atKey (.int .i64 q) z = slD v

theorem MapS.kept {w w' : World} {M n : Nat} {f : Int → Option Value} {row : Option Nat} (h : MapS w M n f) (hg : w.grownBy w' row) (hne : some M ≠ row) : MapS w' M n f := by
  obtain ⟨D, h1, h2⟩ := h
  exact ⟨D, h1.kept hg hne, h2⟩
theorem mapS_made (w : World) : MapS (w.alloc (.map #[] 0)) w.heap.size 0 (fun _ => none) :=
  ⟨_, World.ownsMap_made w Tryd.prog 3 slElem, fun _ => ⟨rfl, fun o h => by cases h⟩⟩

/-- The states of the keys: those that were begun lie in the map, each in a block of its own; the others are as at first. -/
structure StatesAt (w : World) (M n : Nat) (o : Int) (S : Int → List Int) (f : Int → Option Value) : Prop where
  map : MapS w M n f
  row : ∀ q v, f q = some v → RowAt w (M + 1) v (S q)
  start : ∀ q, f q = none → S q = startL o
  apart : ∀ q q' v v' b, q ≠ q' → f q = some v → f q' = some v' → v.ownBlock = some b → v'.ownBlock ≠ some b

theorem StatesAt.kept {w w' : World} {M n : Nat} {o : Int} {S : Int → List Int} {f : Int → Option Value} (h : StatesAt w M n o S f) (hg : w.grownBy w' none) : StatesAt w' M n o S f :=
  ⟨h.map.kept hg (by simp), fun q v hv => (h.row q v hv).new hg, h.start, h.apart⟩

theorem states_made (w : World) (o : Int) : StatesAt (w.alloc (.map #[] 0)) w.heap.size 0 o (fun _ => startL o) (fun _ => none) :=
  ⟨mapS_made w, fun _ _ h => (by cases h), fun _ _ => rfl, fun _ _ _ _ _ _ h => (by cases h)⟩

end Go.Proofs.YtfojmbbhcmeejaaDoor

namespace Go.Proofs.YtfojmbbhcmeejaaDoor
open Go.RowKit

theorem opFine_none {o : Int} {S : Int → List Int} {op : Opn} (h : stepM o (S op.k) op.d op.a op.b = none) : opFine o S op = false := by simp [opFine, h]
theorem opFine_some {o : Int} {S : Int → List Int} {op : Opn} {st' : List Int} {r : Int} (h : stepM o (S op.k) op.d op.a op.b = some (st', r)) : opFine o S op = (decide (op.e < 0) || (op.r == r)) := by simp [opFine, h]
theorem after_some {o : Int} {S : Int → List Int} {op : Opn} {st' : List Int} {r : Int} (h : stepM o (S op.k) op.d op.a op.b = some (st', r)) : after o S op = setK S op.k st' := by simp [after, h]

/-- What one op tells of a run. -/
def OneTold (w : World) (M n : Nat) (o : Int) (S : Int → List Int) (op : Opn) (e : Ending) (w' : World) : Prop :=
  e = .returned (.bool (opFine o S op)) ∧ Below M w w' ∧ (opFine o S op = true → ∃ f', StatesAt w' M (n + 1) o (after o S op) f')

theorem bel_turned {w W W' : World} {M : Nat} {v : Value} (hb : Below M w W) (hM : M ≤ W.heap.size) (hr : ∀ b, v.ownBlock = some b → M + 1 ≤ b) (hg : W.grownBy W' v.ownBlock) : Below M w W' := hb.grown hg hM (fun k hk => by have := hr k hk; omega)

end Go.Proofs.YtfojmbbhcmeejaaDoor
