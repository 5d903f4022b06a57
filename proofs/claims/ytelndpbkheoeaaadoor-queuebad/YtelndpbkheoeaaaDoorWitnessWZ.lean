/-
  The statement LinearWitness walked: whatever the object and the ops, true.
  The statements' own pick and sameInts: walked.
  The statement LinearComplete walked: whatever the object, the ops, the order and the budget, true.
-/
import Derived.Test.YtelndpbkheoeaaaDoorJudgeWZ
namespace Go.Proofs.YtelndpbkheoeaaaDoor
open Go.RowKit

theorem lc_zero {o bud : Int} {ops : List Opn} (h : LcTold o bud ops 0) : objB o = true ∧ CkTold o ops 0 ∧ 0 ≤ bud ∧ bud ≤ 1000000 := by
  rcases h with ⟨_, h⟩ | ⟨_, _, h⟩ | ⟨h1, h2, h3, h4⟩
  · cases h
  · cases h
  · exact ⟨h1, h4, h2, h3⟩
theorem ord_has {w : World} {base : Nat} {ov : Value} {ord : List Nat} (h : w.ownsRow base 3 1 ov ord.length (ordV ord)) : HasInts w ov (iL ord) := by
  have e : ordV ord = (iL ord).map (Value.int .i64) := by simp [ordV, iL]
  have : w.ownsRow base 3 1 ov (iL ord).length ((iL ord).map (Value.int .i64)) := by rw [iL_length, ← e]; exact h
  exact (rowAt_owns this).has
theorem nil_has (w : World) : HasInts w (.slice none 0 0) [] := ⟨none, 0, rfl, by decide, by decide, fun _ => rfl, .inl rfl⟩
/-- What Shows tells where nothing is told against the ops. -/
theorem sh_zero {o : Int} {ops : List Opn} {ord : List Int} {w : World} {e : Ending} {w' : World} (h : ShTold o ops ord w e w') (ho : objB o = true) (hc : CkTold o ops 0) : ∃ b, e = .returned (.tuple #[.bool b, .nilIface]) ∧ (b = true ↔ ShowsM o ops ord) := by
  obtain ⟨_, ⟨ho', _⟩ | ⟨_, n, hn, hc', _⟩ | ⟨_, _, b, hb, he⟩⟩ := h
  · rw [ho] at ho'; cases ho'
  · exact absurd (ckTold_one hc' hc) hn
  · exact ⟨b, he, hb⟩
theorem code_int {c : Nat} (h : c = 1 ∨ c = 2 ∨ c = 3) : ((c : Int) == 1) = (c == 1) ∧ ((c : Int) == 2) = (c == 2) := by
  rcases h with rfl | rfl | rfl <;> exact ⟨rfl, rfl⟩
theorem valid_shows {o : Int} {ops : List Opn} {bud : Nat} (h : (searchM (srB o ops bud)).code = 1) : ShowsM o ops (iL (searchM (srB o ops bud)).ord) := by
  obtain ⟨S, hR, ho⟩ := search_valid h
  exact reach_shows hR ho rfl
theorem valid_len {o : Int} {ops : List Opn} {bud : Nat} (h : (searchM (srB o ops bud)).code = 1) : (searchM (srB o ops bud)).ord.length ≤ ops.length := by
  obtain ⟨S, hR, _⟩ := search_valid h
  exact reach_length hR

end Go.Proofs.YtelndpbkheoeaaaDoor

namespace Go.Proofs.YtelndpbkheoeaaaDoor
open Go.RowKit

end Go.Proofs.YtelndpbkheoeaaaDoor

namespace Go.Proofs.YtelndpbkheoeaaaDoor
open Go.RowKit

theorem shows_nat {o : Int} {ops : List Opn} {ord : List Int} (h : ShowsM o ops ord) : ∃ l, ord = iL l := by
  refine ⟨ord.map Int.toNat, ?_⟩
  unfold iL
  rw [List.map_map]
  conv => lhs; rw [← List.map_id ord]
  apply List.map_congr_left
  intro x hx
  have := (h.range x hx).1
  simp; omega
theorem shows_not_invalid {o : Int} {ops : List Opn} {ord : List Int} {bud : Nat} (ht : Told ops 0) (h : ShowsM o ops ord) : (searchM (srB o ops bud)).code ≠ 2 := by
  obtain ⟨l, rfl⟩ := shows_nat h
  intro hc
  exact search_dead (own_srB (told_keysN ht)) hc (shows_comp (c := srB o ops bud) h (fun _ _ _ _ _ h => h))
/-- Where Check tells an error, Shows does. -/
theorem sh_err {o bud : Int} {ops : List Opn} {ord : List Int} {w : World} {e : Ending} {w' : World} {n : Int} (h : ShTold o ops ord w e w') (hn : n ≠ 0) (hl : LcTold o bud ops n) (hb : 0 ≤ bud ∧ bud ≤ 1000000) : ∃ m, m ≠ 0 ∧ e = .returned (.tuple #[.bool false, toldV m]) := by
  obtain ⟨_, ⟨_, he⟩ | ⟨_, m, hm, _, he⟩ | ⟨ho, hc, _⟩⟩ := h
  · exact ⟨1, by decide, he⟩
  · exact ⟨m, hm, he⟩
  · exfalso
    rcases hl with ⟨ho', _⟩ | ⟨_, h, _⟩ | ⟨_, _, _, h⟩
    · rw [ho] at ho'; cases ho'
    · omega
    · exact hn (ckTold_one h hc)

end Go.Proofs.YtelndpbkheoeaaaDoor
