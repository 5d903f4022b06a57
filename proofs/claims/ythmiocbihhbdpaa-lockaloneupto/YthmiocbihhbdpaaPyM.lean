/-
  A plan in memory; what Play tells of one.
-/
import Derived.Test.YthmiocbihhbdpaaGrMZ
import Derived.Test.YthmiocbihhbdpaaWalkAZ
import Derived.Test.YthmiocbihhbdpaaLkPZ
namespace Go.Proofs.Ythmiocbihhbdpaa
open Go.RowKit

/-- A plan that came in: none, or in memory. -/
def PlQ (w : World) (a : Option Addr) (p : List (List Stp)) : Prop := p = [] ∨ ∃ b off, a = some ⟨b, off, none⟩ ∧ b < w.heap.size ∧ ∀ k (h : k < p.length), ∃ ra rc, w.cell? ⟨b, off + k, none⟩ = some (.slice ra p[k].length rc) ∧ p[k].length ≤ rc ∧ p[k].length ≤ maxLen ∧ StpsQ w ra p[k]
theorem PlQ.below {w w' : World} {a : Option Addr} {p : List (List Stp)} (h : PlQ w a p) (hb : Below w.heap.size w w') : PlQ w' a p := by
  rcases h with h | ⟨b, off, rfl, hlt, h⟩
  · exact .inl h
  · refine .inr ⟨b, off, rfl, Nat.lt_of_lt_of_le hlt hb.size, fun k hk => ?_⟩
    obtain ⟨ra, rc, h1, h2, h3, h4⟩ := h k hk
    exact ⟨ra, rc, (hb.cell (p := ⟨b, off + k, none⟩) hlt).trans h1, h2, h3, h4.below hb⟩
theorem plN_at {p : List (List Stp)} {t : Nat} (h : t < p.length) : plN p t = p[t] := by
  unfold plN
  rw [List.getD_eq_getElem?_getD, List.getElem?_eq_getElem h]
  rfl
theorem PlQ.at {w : World} {a : Option Addr} {p : List (List Stp)} (h : PlQ w a p) {t : Nat} (ht : t < p.length) : ∃ b off ra rc, a = some ⟨b, off, none⟩ ∧ b < w.heap.size ∧ w.cell? ⟨b, off + t, none⟩ = some (.slice ra (plN p t).length rc) ∧ (plN p t).length ≤ rc ∧ (plN p t).length ≤ maxLen ∧ StpsQ w ra (plN p t) := by
  rcases h with h | ⟨b, off, rfl, hlt, h⟩
  · subst h; simp at ht
  · obtain ⟨ra, rc, h1, h2, h3, h4⟩ := h t ht
    rw [plN_at ht]
    exact ⟨b, off, ra, rc, rfl, hlt, h1, h2, h3, h4⟩
theorem HasI.form {w : World} {v : Value} {xs : List Int} (h : HasI w v xs) : ∃ a c, v = .slice a xs.length c := by
  obtain ⟨a, c, e, _⟩ := h
  exact ⟨a, c, e⟩
/-- What Play tells: the error, or what was done. -/
def fltY (p : List (List Stp)) (ks : List Int) : Int := if fltL p = 0 then (if 200 < ks.length then 4 else 0) else fltL p
def dnY (p : List (List Stp)) (ks : List Int) : List Stp := if fltY p ks = 0 then (lkP p ks).done else []
def wtY (p : List (List Stp)) (ks : List Int) : List Int := if fltY p ks = 0 then (List.range p.length).map fun t => ((lkP p ks).cnt t : Int) else []
def vcY (p : List (List Stp)) (ks : List Int) : List Int := if fltY p ks = 0 then natI (lkP p ks).vic else []
def PlTold (p : List (List Stp)) (ks : List Int) (w : World) (e : Ending) (w' : World) : Prop :=
  ∃ a c vw vv, e = .returned (.tuple #[.agg #[.slice a (dnY p ks).length c, vw, vv], toldV (fltY p ks)]) ∧ StpsQ w' a (dnY p ks) ∧ HasI w' vw (wtY p ks) ∧ HasI w' vv (vcY p ks) ∧ Below w.heap.size w w'
/-- How long a plan's lists may be. -/
structure PlZ (p : List (List Stp)) : Prop where
  few : p.length * 24 ≤ 140737488355328
  len : ∀ t, (plN p t).length * 24 ≤ 140737488355328
theorem done_few {p : List (List Stp)} (hf : fltL p = 0) (ks : List Int) : (lkP p ks).done.length ≤ 60 ∧ (lkP p ks).vic.length ≤ 60 ∧ p.length ≤ 8 := by
  obtain ⟨hpl, hl⟩ := fltL_ok hf
  have h1 := (lkP_ok hpl ks).1.len
  refine ⟨by omega, ?_, hpl.few⟩
  have hc : ∀ f (st : LkS) m, CtI m st → (plS p p.length f st).vic.length ≤ (plS p p.length f st).done.length := fun f => by
    induction f with
    | zero => exact fun st m h => h.vic
    | succ f ih =>
      intro st m h
      cases ha : allO p.length st
      · rw [plS_go ha]
        exact ih _ (m + 1) (h.mid (Nat.le_refl _))
      · rw [plS_stop ha]
        exact h.vic
  have h2 := hc (lefN p p.length lk0) (pkS p p.length lk0 ks) (0 + ks.length) (ct_pk ⟨fun _ => Nat.le_refl _, Nat.le_refl _⟩)
  have h3 : (lkP p ks).vic.length ≤ (lkP p ks).done.length := h2
  omega
end Go.Proofs.Ythmiocbihhbdpaa
