/-
  The document's search in memory: its block, the states of the keys, the order, the set of names.
-/
import Derived.Test.YtkbjaneekblgmaaGreatDoorDoWZ
import Derived.Test.YtkbjaneekblgmaaGreatDoorFmtH
import Derived.Test.YtkbjaneekblgmaaGreatDoorShelf
import Derived.Test.YtkbjaneekblgmaaGreatDoorSameW
import Derived.Test.YtkbjaneekblgmaaGreatDoorRefUZ
namespace Go.Proofs.YtkbjaneekblgmaaGreatDoor
open Go.RowKit
open Go.Maps (Keyed IsMap)

/-! The set of names, as the document keeps it: a map to bools that are true. -/
theorem zeroB4 (w : World) : (zeroValue 4).run Tryz.prog w = .ok (.bool false) w := by kernel_rfl
def SetB (w : World) (M : Nat) (ent : List (List UInt8)) : Prop :=
  ∃ D : DataW Unit, w.ownsMap Tryz.prog 9 (plainElem Tryz.prog 4) M ent.length D ∧ (∀ l, Maps.has D (.string l) = ent.contains l) ∧ (∀ l z, ent.contains l = true → D.atKey (.string l) z = .lit (.bool true)) ∧ Maps.size D = ent.length
theorem SetB.same {w w' : World} {M : Nat} {ent : List (List UInt8)} (h : SetB w M ent) (hs : w'.heap[M]? = w.heap[M]?) : SetB w' M ent := by
  obtain ⟨D, ⟨es, clock, hb, h1⟩, h2⟩ := h
  exact ⟨D, ⟨es, clock, hs.trans hb, h1⟩, h2⟩
theorem SetB.isMap {w : World} {M : Nat} {ent : List (List UInt8)} (h : SetB w M ent) : ∃ es clock, w.heap[M]? = some (.map es clock) := by
  obtain ⟨D, ⟨es, clock, hb, _⟩, _⟩ := h
  exact ⟨es, clock, hb⟩
theorem setB_made (w : World) : SetB (w.alloc (.map #[] 0)) w.heap.size [] :=
  ⟨_, World.ownsMap_made w Tryz.prog 9 _, fun _ => rfl, fun _ _ h => by simp at h, rfl⟩
theorem plainElem_bool_inv {H : Type} {P : Program} {e : TypeId} (he : P.underlying e = some .bool) {v : Value} {z : DataW H × List MemPlace} (h : plainElem P e v = some z) : ∃ x, v = .bool x ∧ z = (.lit (.bool x), []) := by
  unfold plainElem at h
  rw [he] at h
  cases v <;> simp at h
  exact ⟨_, rfl, h.symm⟩
theorem litB_inj {H : Type} {x y : Bool} (h : (DataW.lit (Lit.bool x) : DataW H) = DataW.lit (Lit.bool y)) : x = y := by
  cases h; rfl
theorem SetB.look {w : World} {M : Nat} {ent : List (List UInt8)} (h : SetB w M ent) (l : List UInt8) (hl : l.length ≤ 100000) :
    (Instr.lookup 58 (.map (some M)) (strV l) false).run Tryz.prog w = .ok (.bool (ent.contains l)) w := by
  obtain ⟨D, h1, h2, h3, _⟩ := h
  obtain ⟨v, ps, hrun, hv⟩ := h1.lookup keyedS Tryz.underlying58 (zeroB4 w) (plainElem_bool Tryz.underlying4 false) (keyS l hl)
  have key : v = .bool (ent.contains l) := by
    have hat : D.atKey (.string l) (.lit (.bool false)) = .lit (.bool (ent.contains l)) := by
      cases hc : ent.contains l
      · exact Maps.atKey_of_not_has (by rw [h2, hc]) _
      · exact h3 l _ hc
    rw [hat] at hv
    obtain ⟨x, rfl, e⟩ := plainElem_bool_inv Tryz.underlying4 hv
    rw [litB_inj (congrArg Prod.fst e)]
  rw [key] at hrun; exact hrun
theorem SetB.len {w : World} {M : Nat} {ent : List (List UInt8)} (h : SetB w M ent) (ty : TypeId) : (Builtin.len_ #[58] ty #[.map (some M)]).run Tryz.prog w = .ok (.int .i64 (ent.length : Int)) w := by
  obtain ⟨D, h1, _, _, h3⟩ := h
  have := h1.len Tryz.underlying58 ty
  rw [h3] at this; exact this
theorem SetB.store {w : World} {M : Nat} {ent : List (List UInt8)} (h : SetB w M ent) (hn : ent.length < 2000000) (l : List UInt8) (hl : l.length ≤ 100000) (hnew : ent.contains l = false) :
    ∃ w', (Instr.mapUpdate 58 (.map (some M)) (strV l) (.bool true)).run Tryz.prog w = .ok () w' ∧ SetB w' M (l :: ent) ∧ w.grownBy w' (some M) := by
  obtain ⟨D, h1, h2, h4, h3⟩ := h
  obtain ⟨w', hrun, ho, ht⟩ := h1.store keyedS Tryz.underlying58 (by unfold maxLen; omega) (keyS l hl) (plainElem_bool Tryz.underlying4 true)
  refine ⟨w', hrun, ⟨_, ho, fun m => ?_, fun m z hm => ?_, ?_⟩, ht.grown⟩
  · by_cases e : m = l
    · subst e
      rw [Maps.has_put_same h1.isMap (isKeyS m)]
      simp
    · have hne : (Lit.string m) ≠ .string l := fun k => e (by simpa using k)
      rw [Maps.has_put_other hne, h2 m, List.contains_cons]
      simp [e]
  · by_cases e : m = l
    · subst e
      exact Maps.atKey_put_same h1.isMap (isKeyS m) _ z
    · have hne : (Lit.string m) ≠ .string l := fun k => e (by simpa using k)
      rw [Maps.atKey_put_other hne]
      rw [List.contains_cons] at hm
      simp [e] at hm
      exact h4 m z (by simpa using hm)
  · rw [Maps.size_put (h1.tidy keyedS), h2 l, hnew, h3]; rfl

/-- The powers of ten. -/
def PowAt (w : World) : Prop := Lib.TabIs Tryz.prog w "internal/strconv.uint64pow10" .u64 Lib.pow10Tab

/-- The names of the document. -/
def Par.srD (p : Par) : Sr := ⟨p.o, p.ops, p.ah, p.bud, nameD Lib.itoa⟩
theorem reach_srB {p : Par} {ord : List Nat} {S : Int → List Int} (h : Reach p.srD ord S) : Reach p.sr ord S := by
  induction h with
  | start => exact Reach.start
  | step h hn hs ih => exact ih.step hn hs
theorem reach_rises {p : Par} {ord : List Nat} {S : Int → List Int} (h : Reach p.srD ord S) (q : Int) : p.o = 3 → (S q).Pairwise (· < ·) := by
  intro e
  have : S = sAt 3 p.ops (iL ord) ord.length := by rw [← e]; exact (reach_run h).1
  rw [this]
  exact sAt_rises _ _ _ _

def fblk (p : Par) (sm : Bool) (ov : Value) : Array Value := #[.int .i64 p.o, p.u, .bool sm, .int .i64 p.bud, .map (some p.M), ov]

structure FndAt (p : Par) (sm : Bool) (w : World) (ord : List Nat) (S : Int → List Int) (vs : Nat → Value) (ov : Value) (ent : List (List UInt8)) : Prop where
  blk : w.heap[p.B]? = some (.cells (fblk p sm ov) 60 (0, 0))
  rows : ∀ k, k < 8 → RowAt w p.b0 (vs k) (S k)
  sep : ∀ k, k < 8 → ∀ b, (vs k).ownBlock = some b → ov.ownBlock ≠ some b
  ordr : w.ownsRow p.b0 3 1 ov ord.length (ordV ord)
  set : SetB w p.M ent
  ops : OpsIn w p.u p.ops
  opsb : ∀ a n c, p.u = .slice (some a) n c → 0 < n → a.block < p.b0
  deb : DebAt w
  pow : PowAt w
  b0pos : 4 < p.b0
  b0B : p.b0 ≤ p.B
  b0M : p.b0 ≤ p.M

theorem pow_named : ∃ g, Tryz.prog.globalNamed "internal/strconv.uint64pow10" = some g ∧ g < 5 := ⟨1, by kernel_rfl, by decide⟩
theorem pow_below {n : Nat} {w w' : World} (h : PowAt w) (hn : 4 < n) (hb : Below n w w') : PowAt w' := by
  obtain ⟨g, hg, hlt⟩ := pow_named
  have e : w'.heap[g]? = w.heap[g]? := hb.block g (by omega)
  unfold PowAt Lib.TabIs World.var? at h ⊢
  rw [hg] at h ⊢
  simp only [Option.bind_some] at h ⊢
  rw [e]
  exact h
theorem deb_below {n : Nat} {w w' : World} (h : DebAt w) (hn : 4 < n) (hb : Below n w w') : DebAt w' := (hb.cell (p := ⟨4, 15, none⟩) hn).trans h

theorem FndAt.lo {p : Par} {sm : Bool} {w : World} {ord : List Nat} {S : Int → List Int} {vs : Nat → Value} {ov : Value} {ent : List (List UInt8)} (h : FndAt p sm w ord S vs ov ent) : p.b0 ≤ w.heap.size := by
  have := lt_of_heap h.blk; have := h.b0B; omega

/-- The search behind what turned its own block, the set and the order's row alone. -/
theorem FndAt.turn {p : Par} {sm : Bool} {w w' : World} {ord ord' : List Nat} {S : Int → List Int} {vs : Nat → Value} {ov ov' : Value} {ent ent' : List (List UInt8)} (h : FndAt p sm w ord S vs ov ent) (hv : VFr p ov w ov' w')
    (hblk : w'.heap[p.B]? = some (.cells (fblk p sm ov') 60 (0, 0))) (hord : w'.ownsRow p.b0 3 1 ov' ord'.length (ordV ord')) (hset : SetB w' p.M ent') : FndAt p sm w' ord' S vs ov' ent' := by
  have hbel := hv.below h.b0B h.b0M (fun b e => (h.ordr.lt b e).1) h.lo
  refine ⟨hblk, fun k hk => (h.rows k hk).same fun b hb => ?_, fun k hk b hb e => ?_, hord, hset, ?_, h.opsb, deb_below h.deb h.b0pos hbel, pow_below h.pow h.b0pos hbel, h.b0pos, h.b0B, h.b0M⟩
  · obtain ⟨_, hlt, cur, hc⟩ := (h.rows k hk).block b hb
    refine hv.same b hlt ?_ ?_ (h.sep k hk b hb) (.inr fun c fz e => by rw [hc] at e; simp at e)
    · rintro rfl; rw [h.blk] at hc; simp at hc
    · rintro rfl; obtain ⟨es, clock, hm⟩ := h.set.isMap; rw [hm] at hc; cases hc
  · rcases hv.ovn b e with e | e
    · exact h.sep k hk b hb e
    · have := ((h.rows k hk).lt b hb).2; omega
  · obtain ⟨a, cap, e, hc, hm, ho⟩ := h.ops
    refine ⟨a, cap, e, hc, hm, ?_⟩
    rcases ho with ho | ⟨b, off, rfl, hlt, ho⟩
    · exact .inl ho
    · by_cases h0 : p.ops = []
      · exact .inl h0
      · have hb0 : b < p.b0 := h.opsb ⟨b, off, none⟩ _ _ e (List.length_pos_iff.2 h0)
        exact .inr ⟨b, off, rfl, Nat.lt_of_lt_of_le hlt hv.size, ho.below hb0 hbel⟩
theorem FndAt.grown {p : Par} {sm : Bool} {w w' : World} {ord : List Nat} {S : Int → List Int} {vs : Nat → Value} {ov : Value} {ent : List (List UInt8)} (h : FndAt p sm w ord S vs ov ent) (hg : w.grownBy w' none) : FndAt p sm w' ord S vs ov ent :=
  h.turn (vfr_grown hg) ((hg.block p.B (lt_of_heap h.blk) (by simp)).trans h.blk) (h.ordr.kept hg (Classical.em _)) (h.set.same (hg.block p.M (by obtain ⟨es, clock, hm⟩ := h.set.isMap; exact lt_of_heap hm) (by simp)))
theorem grown_below {w w' : World} (h : Below w.heap.size w w') : w.grownBy w' none := ⟨h.os, h.tape, h.output, h.size, fun k hk _ => h.block k hk⟩
theorem FndAt.below {p : Par} {sm : Bool} {w w' : World} {ord : List Nat} {S : Int → List Int} {vs : Nat → Value} {ov : Value} {ent : List (List UInt8)} (h : FndAt p sm w ord S vs ov ent) (hb : Below w.heap.size w w') : FndAt p sm w' ord S vs ov ent := h.grown (grown_below hb)
/-- Other states in the same search. -/
theorem FndAt.states {p : Par} {sm : Bool} {w : World} {ord : List Nat} {S S' : Int → List Int} {vs vs' : Nat → Value} {ov : Value} {ent : List (List UInt8)} (h : FndAt p sm w ord S vs ov ent) (hr : ∀ k, k < 8 → RowAt w p.b0 (vs' k) (S' k)) (hs : ∀ k, k < 8 → ∀ b, (vs' k).ownBlock = some b → ov.ownBlock ≠ some b) : FndAt p sm w ord S' vs' ov ent :=
  ⟨h.blk, hr, hs, h.ordr, h.set, h.ops, h.opsb, h.deb, h.pow, h.b0pos, h.b0B, h.b0M⟩

theorem fblk_cell {p : Par} {sm : Bool} {w : World} {ov : Value} (h : w.heap[p.B]? = some (.cells (fblk p sm ov) 60 (0, 0))) (i : Nat) : w.cell? ⟨p.B, i, none⟩ = (fblk p sm ov)[i]? := cell_of_row w _ _ _ 60 (0, 0) h
theorem fblk_fz {p : Par} {w : World} {cs : Array Value} (h : w.heap[p.B]? = some (.cells cs 60 (0, 0))) (i : Nat) : w.frozen? ⟨p.B, i, none⟩ = false := frozen_of_row w _ _ _ 60 h
theorem fblk_set {p : Par} {w : World} {cs : Array Value} (h : w.heap[p.B]? = some (.cells cs 60 (0, 0))) (i : Nat) (x : Value) : (w.setCell ⟨p.B, i, none⟩ x).heap[p.B]? = some (.cells (cs.setIfInBounds i x) 60 (0, 0)) := by
  simp [World.setCell, Array.getElem?_modify, h]
end Go.Proofs.YtkbjaneekblgmaaGreatDoor
