/-
  The statement LinearWitness walked: whatever the object and the ops, true.
  The statements' own pick and sameInts: walked.
  The statement LinearComplete walked: whatever the object, the ops, the order and the budget, true.
  What the search tells of a register's ops, and of a queue's, against zones and pairs: plain.
-/
import Derived.Test.YtelndpbkheoeaaaDoorJudgeWZ
import Derived.Test.YtelndpbkheoeaaaDoorGkZZ
namespace Go.Proofs.YtelndpbkheoeaaaDoor
open Go.RowKit

theorem lc_zero {o bud : Int} {ops : List Opn} (h : LcTold o bud ops 0) : objB o = true ∧ CkTold o ops 0 ∧ 0 ≤ bud ∧ bud ≤ 1000000 := by
  rcases h with ⟨_, h⟩ | ⟨_, _, h⟩ | ⟨h1, h2, h3, h4⟩
  · cases h
  · cases h
  · exact ⟨h1, h4, h2, h3⟩
theorem ord_has {w : World} {base : Nat} {ov : Value} {ord : List Nat} (h : w.ownsRow base 3 1 ov ord.length (ordV ord)) : HasInts w ov (iL ord) := by
  have e : ordV ord = (iL ord).map (Value.int .i64) := by simp [ordV, iL]
  have : w.ownsRow base 3 1 ov (iL ord).length ((iL ord).map (Value.int .i64)) := by rw [iL_length, ← e]; exact h
  exact (rowAt_owns this).has
theorem nil_has (w : World) : HasInts w (.slice none 0 0) [] := ⟨none, 0, rfl, by decide, by decide, fun _ => rfl, .inl rfl⟩
/-- What Shows tells where nothing is told against the ops. -/
theorem sh_zero {o : Int} {ops : List Opn} {ord : List Int} {w : World} {e : Ending} {w' : World} (h : ShTold o ops ord w e w') (ho : objB o = true) (hc : CkTold o ops 0) : ∃ b, e = .returned (.tuple #[.bool b, .nilIface]) ∧ (b = true ↔ ShowsM o ops ord) := by
  obtain ⟨_, ⟨ho', _⟩ | ⟨_, n, hn, hc', _⟩ | ⟨_, _, b, hb, he⟩⟩ := h
  · rw [ho] at ho'; cases ho'
  · exact absurd (ckTold_one hc' hc) hn
  · exact ⟨b, he, hb⟩
theorem code_int {c : Nat} (h : c = 1 ∨ c = 2 ∨ c = 3) : ((c : Int) == 1) = (c == 1) ∧ ((c : Int) == 2) = (c == 2) := by
  rcases h with rfl | rfl | rfl <;> exact ⟨rfl, rfl⟩
theorem valid_shows {o : Int} {ops : List Opn} {bud : Nat} (h : (searchM (srB o ops bud)).code = 1) : ShowsM o ops (iL (searchM (srB o ops bud)).ord) := by
  obtain ⟨S, hR, ho⟩ := search_valid h
  exact reach_shows hR ho rfl
theorem valid_len {o : Int} {ops : List Opn} {bud : Nat} (h : (searchM (srB o ops bud)).code = 1) : (searchM (srB o ops bud)).ord.length ≤ ops.length := by
  obtain ⟨S, hR, _⟩ := search_valid h
  exact reach_length hR

end Go.Proofs.YtelndpbkheoeaaaDoor

namespace Go.Proofs.YtelndpbkheoeaaaDoor
open Go.RowKit

end Go.Proofs.YtelndpbkheoeaaaDoor

namespace Go.Proofs.YtelndpbkheoeaaaDoor
open Go.RowKit

theorem shows_nat {o : Int} {ops : List Opn} {ord : List Int} (h : ShowsM o ops ord) : ∃ l, ord = iL l := by
  refine ⟨ord.map Int.toNat, ?_⟩
  unfold iL
  rw [List.map_map]
  conv => lhs; rw [← List.map_id ord]
  apply List.map_congr_left
  intro x hx
  have := (h.range x hx).1
  simp; omega
theorem shows_not_invalid {o : Int} {ops : List Opn} {ord : List Int} {bud : Nat} (ht : Told ops 0) (h : ShowsM o ops ord) : (searchM (srB o ops bud)).code ≠ 2 := by
  obtain ⟨l, rfl⟩ := shows_nat h
  intro hc
  exact search_dead (own_srB (told_keysN ht)) hc (shows_comp (c := srB o ops bud) h (fun _ _ _ _ _ h => h))
/-- Where Check tells an error, Shows does. -/
theorem sh_err {o bud : Int} {ops : List Opn} {ord : List Int} {w : World} {e : Ending} {w' : World} {n : Int} (h : ShTold o ops ord w e w') (hn : n ≠ 0) (hl : LcTold o bud ops n) (hb : 0 ≤ bud ∧ bud ≤ 1000000) : ∃ m, m ≠ 0 ∧ e = .returned (.tuple #[.bool false, toldV m]) := by
  obtain ⟨_, ⟨_, he⟩ | ⟨_, m, hm, _, he⟩ | ⟨ho, hc, _⟩⟩ := h
  · exact ⟨1, by decide, he⟩
  · exact ⟨m, hm, he⟩
  · exfalso
    rcases hl with ⟨ho', _⟩ | ⟨_, h, _⟩ | ⟨_, _, _, h⟩
    · rw [ho] at ho'; cases ho'
    · omega
    · exact hn (ckTold_one h hc)

end Go.Proofs.YtelndpbkheoeaaaDoor

namespace Go.Proofs.YtelndpbkheoeaaaDoor

theorem code_just {o : Int} {ops : List Opn} (ht : Told ops 0) (h8 : ops.length ≤ 8) : ((searchM (srB o ops 1000000)).code = 1 ∨ (searchM (srB o ops 1000000)).code = 2) ∧ ((searchM (srB o ops 1000000)).code = 1 ↔ ∃ ord, ShowsM o ops (iL ord)) := by
  have h3 : (searchM (srB o ops 1000000)).code ≠ 3 := search_known h8 rfl
  have hc := search_code (srB o ops 1000000)
  refine ⟨by omega, fun h => ⟨_, valid_shows h⟩, fun ⟨ord, h⟩ => ?_⟩
  have := shows_not_invalid (bud := 1000000) ht h
  omega

theorem told_not8 {l : List Opn} {n : Int} (h : Told l n) : n ≠ 8 := by
  have hf : ∀ (l : List Opn) (x : Opn), opFaultN l x ≠ 8 := fun l x => by
    unfold opFaultN
    split
    · split
      · split
        · split
          · decide
          · split <;> decide
        · decide
      · decide
    · decide
  rcases h with ⟨_, rfl⟩ | ⟨_, _, rfl⟩ | ⟨_, k, _, _, _, rfl⟩
  · decide
  · decide
  · exact hf _ _
theorem cTold_not8 {form : Opn → Bool} {d0 : Int} {l : List Opn} {n : Int} (h : CTold form d0 l n) : n ≠ 8 := by
  obtain ⟨m, ht, ⟨_, rfl⟩ | ⟨_, ⟨_, rfl⟩ | ⟨k, _, _, _, rfl⟩⟩⟩ := h
  · exact told_not8 ht
  · decide
  · unfold cFaultAt cFaultN
    split
    · split <;> decide
    · decide

/-- Of what Zones tells: of no error, or of a value that can't have been read, the ops may be looked at. -/
theorem zTold_ok {l : List Opn} {n : Int} {L : List Zon} (h : ZTold l n L) (hn : n = 0 ∨ n = 8) : CTold zFormB 2 l 0 := by
  obtain ⟨m, hm, ⟨h0, rfl, _⟩ | ⟨rfl, _⟩ | ⟨rfl, _⟩⟩ := h
  · rcases hn with hn | hn
    · exact absurd hn h0
    · exact absurd hn (cTold_not8 hm)
  · exact hm
  · exact hm

theorem opZ_opN (l : List Opn) (i : Nat) : opZ l i = opN l i := rfl
theorem any_none {l : List Opn} {f : Opn → Bool} (h : ∀ i, i < l.length → f (opZ l i) = false) : l.any f = false := by
  rw [List.any_eq_false]
  intro x hx
  obtain ⟨i, hi, rfl⟩ := List.getElem_of_mem hx
  have := h i hi
  rw [opZ_at hi] at this
  rw [this]; simp

theorem reg_ck {l : List Opn} (h : CTold zFormB 2 l 0) : CkTold 1 l 0 := by
  have ok := zOk_of h
  refine .inr (.inr ⟨h.zero.1, any_none fun i hi => ?_, rfl⟩)
  rcases ok.kind i hi with e | e <;> simp [knowsB, e]

theorem reg_just {l : List Opn} {n : Int} {L : List Zon} {fit : Bool} {a b : Int} (h8 : l.length ≤ 8) (hz : ZTold l n L) (hn : n = 0 ∨ n = 8) (hf : n = 0 → FTold L fit a b) (hx : n ≠ 0 → fit = false) :
    ((searchM (srB 1 l 1000000)).code = 1 ∨ (searchM (srB 1 l 1000000)).code = 2) ∧ ((searchM (srB 1 l 1000000)).code = 1 ↔ fit = true) := by
  have hc := zTold_ok hz hn
  have ok := zOk_of hc
  obtain ⟨h1, h2⟩ := code_just (o := 1) hc.zero.1 h8
  refine ⟨h1, ?_⟩
  rw [h2, zone_just hz hn hc hf hx]
  have hr : RegOps l (opZ l 0).k := ⟨ok.key, ok.kind, fun i hi => by have := ok.back i hi; show 0 ≤ (opZ l i).e; omega, fun i hi hd => (ok.write i hi hd).2⟩
  exact reg_shows hr (rg_ok ok)

/-! ### a queue -/

theorem que_ck {l : List Opn} (h : CTold qFormB 9 l 0) : CkTold 4 l 0 := by
  have ok := qOk_of h
  refine .inr (.inr ⟨h.zero.1, any_none fun i hi => ?_, rfl⟩)
  rcases ok.kind i hi with e | e <;> simp [knowsB, e]

theorem que_just {l : List Opn} {c a b : Int} (h8 : l.length ≤ 8) (hc : CTold qFormB 9 l 0) (hf : FindsT l c a b) :
    ((searchM (srB 4 l 1000000)).code = 1 ∨ (searchM (srB 4 l 1000000)).code = 2) ∧ ((searchM (srB 4 l 1000000)).code = 1 ↔ c = 0) := by
  have ok := qOk_of hc
  obtain ⟨ht, hk⟩ := hc.zero
  obtain ⟨hlen, ho⟩ := toldNil ht
  have hform : ∀ i, i < l.length → 0 ≤ (opZ l i).e ∧ ((opZ l i).d = 9 → (opZ l i).r = 0) ∧ ((opZ l i).d = 10 → (opZ l i).r ≠ -1) := fun i hi => by
    have hfm := (cFault_zero (hk i hi)).2.1
    unfold qFormB at hfm
    split at hfm
    · next e => simp at hfm; exact ⟨hfm.1.1, fun _ => hfm.2, fun k => by omega⟩
    · split at hfm
      · next e => simp at hfm; exact ⟨hfm.1, fun k => by omega, fun _ => hfm.2⟩
      · cases hfm
  have hpos : ∀ i, i < l.length → 0 ≤ (opZ l i).c ∧ (opZ l i).c < (opZ l i).e := fun i hi => by
    have h3 := (opFault0 (ho i hi)).2.2.1
    have he := (hform i hi).1
    unfold orderB at h3
    rw [if_neg (by omega)] at h3
    simp at h3
    exact ⟨h3.1.1, h3.2⟩
  have hnum : ∀ i, i < l.length → (opZ l i).e ≤ 1000000 := fun i hi => by
    have h1 := (opFault0 (ho i hi)).1
    simp [rangeB, inB, numB] at h1
    omega
  have hsh : ∀ i j, i < l.length → j < l.length → (opZ l i).e ≠ (opZ l j).c := fun i j hi hj => by
    rcases Nat.lt_trichotomy i j with h | h | h
    · have h4 := (opFault0 (ho j hj)).2.2.2.1 _ (mem_take h hj)
      unfold shareB hasB at h4
      simp at h4
      exact h4.1.2
    · subst h; have := hpos i hi; omega
    · have h4 := (opFault0 (ho i hi)).2.2.2.1 _ (mem_take h hi)
      have he := (hform i hi).1
      unfold shareB hasB at h4
      simp at h4
      have := h4.2 (by omega)
      exact fun e => this.1 e.symm
  have hq : QueOps l (opZ l 0).k := ⟨fun i hi => (cFault_zero (hk i hi)).1, ok.kind, fun i hi => (hform i hi).1, fun i hi hd => (hform i hi).2.1 hd, fun i hi hd => (hform i hi).2.2 hd⟩
  have hQ : (rgOf l 9).QOk := by
    refine ⟨by show l.length ≤ 64; omega, hpos, hnum, hsh, fun i j hi hj hw hw' e => ?_⟩
    have hw1 : (opZ l i).d = 9 := (rgI_w i 9).1 hw
    have hw2 : (opZ l j).d = 9 := (rgI_w j 9).1 hw'
    refine ok.once i j hi hj hw1 hw2 ?_
    have e' : (if (opZ l i).d == 9 then (opZ l i).a else (opZ l i).r) = (if (opZ l j).d == 9 then (opZ l j).a else (opZ l j).r) := e
    simpa [hw1, hw2] using e'
  obtain ⟨h1, h2⟩ := code_just (o := 4) ht h8
  refine ⟨h1, ?_⟩
  rw [h2, que_shows hq hQ, finds_zero hf]
  exact fine_iff ok fun i hi => (hform i hi).1

end Go.Proofs.YtelndpbkheoeaaaDoor
