/-
  Package linear's visit: what it tells; its head walked.
-/
import Derived.Test.YtfojmbbhcmeejaaDoorDoWZ
import Derived.Test.YtfojmbbhcmeejaaDoorStepL
namespace Go.Proofs.YtfojmbbhcmeejaaDoor
open Go.RowKit

/-- What visit tells. -/
def VTold (p : Par) (w : World) (ord : List Nat) (S : Int → List Int) (vs : Nat → Value) (ov : Value) (r : Res) (e : Ending) (w' : World) : Prop :=
  e = .returned (.int .i64 (r.code : Int)) ∧ ∃ S' vs' ov' nv', SearchAt p w' r.ord S' vs' ov' nv' r.ent ∧ VFr p ov w ov' w' ∧ (r.code = 2 → r.ord = ord ∧ S' = S ∧ vs' = vs)

theorem SearchAt.grown {p : Par} {w w' : World} {ord : List Nat} {S : Int → List Int} {vs : Nat → Value} {ov nv : Value} {ent : List (List UInt8)} (h : SearchAt p w ord S vs ov nv ent) (hg : w.grownBy w' none) : SearchAt p w' ord S vs ov nv ent :=
  h.after (tch_grown hg (fun k e => by cases e)) ((hg.block p.B (lt_of_heap h.blk) (by simp)).trans h.blk) (h.ordr.kept hg (Classical.em _)) (fun b hb => .inl hb) h.rows h.sep
theorem grown_of_below {w w' : World} (h : Below w.heap.size w w') : w.grownBy w' none := ⟨h.os, h.tape, h.output, h.size, fun k hk _ => h.block k hk⟩

/-- The search behind a name that was written. -/
theorem SearchAt.named {p : Par} {w w' : World} {ord : List Nat} {S : Int → List Int} {vs : Nat → Value} {ov nv nv' : Value} {ent : List (List UInt8)} {l : List UInt8} (h : SearchAt p w ord S vs ov nv ent) (hw : Wrote p.b0 w 0 [] l nv' w') :
    SearchAt p (w'.setCell ⟨p.B, 17, none⟩ nv') ord S vs ov nv' ent ∧ (w'.setCell ⟨p.B, 17, none⟩ nv').ownsRow p.b0 5 1 nv' (0 + l.length) ([] ++ byteV l) ∧ VFr p ov w ov (w'.setCell ⟨p.B, 17, none⟩ nv') := by
  have hs : p.b0 ≤ w.heap.size := by have := lt_of_heap h.blk; have := h.b0B; omega
  have hf := hw.fr
  have key : ∀ (b : Nat) (c : Array Value) (t : TypeId), w.heap[b]? = some (Obj.cells c t (0, 0)) → t ≠ 5 → w'.heap[b]? = w.heap[b]? := fun b c t hb ht => hf.block b (lt_of_heap hb) (fun ⟨_, c', fz, e⟩ => by rw [hb] at e; simp at e; exact ht e.2.1)
  have keyM : w'.heap[p.M]? = w.heap[p.M]? := by
    obtain ⟨es, clock, hm⟩ := h.set.isMap
    exact hf.block p.M (lt_of_heap hm) (fun ⟨_, c', fz, e⟩ => by rw [hm] at e; cases e)
  have hB : w'.heap[p.B]? = some (.cells (blkA p (maskN ord) vs ov nv) 100 (0, 0)) := (key p.B _ 100 h.blk (by decide)).trans h.blk
  have hset : ∀ b, b ≠ p.B → (w'.setCell ⟨p.B, 17, none⟩ nv').heap[b]? = w'.heap[b]? := fun b hb => Below.heap_setCell _ _ _ _ hb
  have hv : VFr p ov w ov (w'.setCell ⟨p.B, 17, none⟩ nv') := (vfr_bfr hf).trans (vfr_set 17 _ (fun _ h => .inl h))
  have hneB : ∀ (b : Nat) (c : Array Value) (t : TypeId), w.heap[b]? = some (Obj.cells c t (0, 0)) → t ≠ 100 → b ≠ p.B := fun b c t hb ht e => by rw [e, h.blk] at hb; simp at hb; exact ht hb.2.symm
  have hbel := hv.below h.b0B h.b0M (fun b e => (h.ordr.lt b e).1) hs
  have hrow5 : (w'.setCell ⟨p.B, 17, none⟩ nv').ownsRow p.b0 5 1 nv' (0 + l.length) ([] ++ byteV l) := ownsRow_same hw.row fun b hb => hset b (fun e => by
    obtain ⟨_, _, cur, hc⟩ := ownsRow_block hw.row b hb
    rw [e, hB] at hc; simp at hc)
  refine ⟨⟨(blk_set hB 17 nv').trans (by rw [blkA_name]), fun k hk => (h.rows k hk).same fun b hb => ?_, h.sep, ownsRow_same h.ordr fun b hb => ?_, ⟨_, _, hrow5⟩, ?_, ?_, ?_, h.opsb, ?_, h.b0pos, h.b0B, h.b0M⟩, hrow5, hv⟩
  · obtain ⟨_, _, cur, hc⟩ := (h.rows k hk).block b hb
    rw [hset b (hneB b cur 3 hc (by decide)), key b cur 3 hc (by decide)]
  · obtain ⟨_, _, cur, hc⟩ := ownsRow_block h.ordr b hb
    rw [hset b (hneB b cur 3 hc (by decide)), key b cur 3 hc (by decide)]
  · refine h.set.same ?_
    rw [hset p.M (fun e => by obtain ⟨es, clock, hm⟩ := h.set.isMap; rw [e, h.blk] at hm; cases hm), keyM]
  · exact hv.waits h.waits h.blkd h.set.isMap (fun b hb => by obtain ⟨_, _, cur, hc⟩ := ownsRow_block h.ordr b hb; exact ⟨_, _, hc⟩)
  · obtain ⟨a, cap, e, hc, hm, ho⟩ := h.ops
    refine ⟨a, cap, e, hc, hm, ?_⟩
    rcases ho with ho | ⟨b, off, rfl, hlt, ho⟩
    · exact .inl ho
    · by_cases h0 : p.ops = []
      · exact .inl h0
      · have hb0 : b < p.b0 := h.opsb ⟨b, off, none⟩ _ _ e (List.length_pos_iff.2 h0)
        exact .inr ⟨b, off, rfl, Nat.lt_of_lt_of_le hlt hv.size, ho.below hb0 hbel⟩
  · exact h.known.below h.b0pos hbel

/-- The search behind a name that was entered. -/
theorem SearchAt.entered {p : Par} {w w' : World} {ord : List Nat} {S : Int → List Int} {vs : Nat → Value} {ov nv : Value} {ent ent' : List (List UInt8)} (h : SearchAt p w ord S vs ov nv ent) (hg : w.grownBy w' (some p.M)) (hs' : SetS w' p.M ent') :
    SearchAt p w' ord S vs ov nv ent' ∧ VFr p ov w ov w' := by
  have hs : p.b0 ≤ w.heap.size := by have := lt_of_heap h.blk; have := h.b0B; omega
  have hv : VFr p ov w ov w' := vfr_map hg
  have hbel := hv.below h.b0B h.b0M (fun b e => (h.ordr.lt b e).1) hs
  obtain ⟨es, clock, hm⟩ := h.set.isMap
  have key : ∀ (b : Nat) (c : Array Value) (t : TypeId), w.heap[b]? = some (Obj.cells c t (0, 0)) → w'.heap[b]? = w.heap[b]? := fun b c t hb => hg.block b (lt_of_heap hb) (fun e => by
    rw [Option.some.inj e, hm] at hb; cases hb)
  refine ⟨⟨(key _ _ _ h.blk).trans h.blk, fun k hk => (h.rows k hk).same fun b hb => ?_, h.sep, ownsRow_same h.ordr fun b hb => ?_, ?_, hs', ?_, ?_, h.opsb, ?_, h.b0pos, h.b0B, h.b0M⟩, hv⟩
  · obtain ⟨_, _, cur, hc⟩ := (h.rows k hk).block b hb
    exact key b cur 3 hc
  · obtain ⟨_, _, cur, hc⟩ := ownsRow_block h.ordr b hb
    exact key b cur 3 hc
  · obtain ⟨n, xs, hn⟩ := h.name
    refine ⟨n, xs, ownsRow_same hn fun b hb => ?_⟩
    obtain ⟨_, _, cur, hc⟩ := ownsRow_block hn b hb
    exact key b cur 5 hc
  · exact hv.waits h.waits h.blkd h.set.isMap (fun b hb => by obtain ⟨_, _, cur, hc⟩ := ownsRow_block h.ordr b hb; exact ⟨_, _, hc⟩)
  · obtain ⟨a, cap, e, hc, hm, ho⟩ := h.ops
    refine ⟨a, cap, e, hc, hm, ?_⟩
    rcases ho with ho | ⟨b, off, rfl, hlt, ho⟩
    · exact .inl ho
    · by_cases h0 : p.ops = []
      · exact .inl h0
      · have hb0 : b < p.b0 := h.opsb ⟨b, off, none⟩ _ _ e (List.length_pos_iff.2 h0)
        exact .inr ⟨b, off, rfl, Nat.lt_of_lt_of_le hlt hv.size, ho.below hb0 hbel⟩
  · exact h.known.below h.b0pos hbel

theorem name_cut {w : World} {base : Nat} {nv : Value} (h : ∃ n xs, w.ownsRow base 5 1 nv n xs) : ∃ a n c, nv = .slice a n c ∧ n ≤ c ∧ c ≤ maxLen ∧ w.ownsRow base 5 1 (.slice a 0 c) 0 [] := by
  obtain ⟨n, xs, _, ⟨rfl, rfl⟩ | ⟨g, cap, cur, rfl, hb, hh, h1, h2, h3, h4⟩⟩ := h
  · exact ⟨none, 0, 0, rfl, Nat.le_refl _, by decide, World.ownsRow_nil _ _ _ _⟩
  · exact ⟨_, n, cap, rfl, h1, h2, by simp, .inr ⟨g, cap, cur, rfl, hb, hh, Nat.zero_le _, h2, h3, by simp⟩⟩

end Go.Proofs.YtfojmbbhcmeejaaDoor
