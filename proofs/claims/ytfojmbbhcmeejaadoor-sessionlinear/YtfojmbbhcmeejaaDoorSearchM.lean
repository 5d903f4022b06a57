/-
  A search in memory: its block, the states of the keys, the order, the room for names, the set of names; what turns, and what doesn't.
-/
import Derived.Test.YtfojmbbhcmeejaaDoorWholeW
import Derived.Test.YtfojmbbhcmeejaaDoorFmt
import Derived.Maps.OwnSet
import Derived.Maps.AppendAt
import Derived.Laws.IdiomStrings
namespace Go.Proofs.YtfojmbbhcmeejaaDoor
open Go.RowKit
open Go.Maps (Keyed string_keyed IsMap)

/-! What hangs on one block alone. -/
theorem RowAt.same {w w' : World} {base : Nat} {v : Value} {st : List Int} (h : RowAt w base v st) (hs : ∀ b, v.ownBlock = some b → w'.heap[b]? = w.heap[b]?) : RowAt w' base v st := by
  rcases h with h | ⟨g, off, cap, cur, rfl, hb, hh, h1, h2, h4, h5⟩
  · exact .inl h
  · have e := hs g rfl
    exact .inr ⟨g, off, cap, cur, rfl, hb, e.trans hh, h1, h2, h4, fun j hj => (World.cell?_of_block (a := ⟨g, off + j, none⟩) e).trans (h5 j hj)⟩
theorem ownsRow_same {w w' : World} {base : Nat} {e : TypeId} {size : Nat} {v : Value} {n : Nat} {xs : List Value} (h : w.ownsRow base e size v n xs) (hs : ∀ b, v.ownBlock = some b → w'.heap[b]? = w.heap[b]?) : w'.ownsRow base e size v n xs := by
  obtain ⟨hl, h | ⟨g, cap, cur, rfl, hb, hh, h1⟩⟩ := h
  · exact ⟨hl, .inl h⟩
  · exact ⟨hl, .inr ⟨g, cap, cur, rfl, hb, (hs g rfl).trans hh, h1⟩⟩
theorem ownsMap_same {w w' : World} {k : TypeId} {R : Value → Option (DataW Unit × List MemPlace)} {b n : Nat} {D : DataW Unit} (h : w.ownsMap Tryd.prog k R b n D) (hs : w'.heap[b]? = w.heap[b]?) : w'.ownsMap Tryd.prog k R b n D := by
  obtain ⟨es, clock, hb, h⟩ := h
  exact ⟨es, clock, hs.trans hb, h⟩
theorem RowAt.block {w : World} {base : Nat} {v : Value} {st : List Int} (h : RowAt w base v st) : ∀ b, v.ownBlock = some b → base ≤ b ∧ b < w.heap.size ∧ ∃ cur, w.heap[b]? = some (.cells cur 3 (0, 0)) := by
  intro b hb
  have hl := h.lt b hb
  rcases h with ⟨rfl, _⟩ | ⟨g, off, cap, cur, rfl, _, hh, _⟩
  · cases hb
  · obtain rfl : g = b := by simpa [Value.ownBlock] using hb
    exact ⟨hl.1, hl.2, cur, hh⟩
theorem ownsRow_block {w : World} {base : Nat} {e : TypeId} {size : Nat} {v : Value} {n : Nat} {xs : List Value} (h : w.ownsRow base e size v n xs) : ∀ b, v.ownBlock = some b → base ≤ b ∧ b < w.heap.size ∧ ∃ cur, w.heap[b]? = some (.cells cur e (0, 0)) := by
  intro b hb
  have hl := h.lt b hb
  obtain ⟨_, ⟨rfl, _⟩ | ⟨g, cap, cur, rfl, _, hh, _⟩⟩ := h
  · cases hb
  · obtain rfl : g = b := by simpa [Value.ownBlock] using hb
    exact ⟨hl.1, hl.2, cur, hh⟩

/-! The set of names. -/
theorem keyedS : Keyed Tryd.prog 9 := string_keyed Tryd.underlying9
theorem zeroU (w : World) : (zeroValue 134).run Tryd.prog w = .ok (.agg #[]) w := by kernel_rfl
def strV (l : List UInt8) : Value := .string ⟨l.toArray⟩
theorem keyS (l : List UInt8) (h : l.length ≤ 100000) : keyOf Tryd.prog 9 (strV l) = some (.string l) := by
  have := WideMaps.keyOf_string_mk (P := Tryd.prog) (k := 9) Tryd.underlying9 (s := ⟨l.toArray⟩) (by show l.toArray.size ≤ maxLen; simp; unfold maxLen; omega)
  simpa [strV] using this
theorem isKeyS (l : List UInt8) : WideAt.IsKeyLit (.string l) := by simp [WideAt.IsKeyLit]

def SetS (w : World) (M : Nat) (ent : List (List UInt8)) : Prop :=
  ∃ D : DataW Unit, w.ownsMap Tryd.prog 9 (unitElem (H := Unit)) M ent.length D ∧ (∀ l, Maps.has D (.string l) = ent.contains l) ∧ Maps.size D = ent.length
theorem SetS.same {w w' : World} {M : Nat} {ent : List (List UInt8)} (h : SetS w M ent) (hs : w'.heap[M]? = w.heap[M]?) : SetS w' M ent := by
  obtain ⟨D, h1, h2⟩ := h
  exact ⟨D, ownsMap_same h1 hs, h2⟩
theorem SetS.isMap {w : World} {M : Nat} {ent : List (List UInt8)} (h : SetS w M ent) : ∃ es clock, w.heap[M]? = some (.map es clock) := by
  obtain ⟨D, ⟨es, clock, hb, _⟩, _⟩ := h
  exact ⟨es, clock, hb⟩
theorem setS_made (w : World) : SetS (w.alloc (.map #[] 0)) w.heap.size [] :=
  ⟨_, World.ownsMap_made w Tryd.prog 9 _, fun _ => rfl, rfl⟩
theorem SetS.look {w : World} {M : Nat} {ent : List (List UInt8)} (h : SetS w M ent) (l : List UInt8) (hl : l.length ≤ 100000) :
    (Instr.lookup 92 (.map (some M)) (strV l) true).run Tryd.prog w = .ok (.tuple #[.agg #[], .bool (ent.contains l)]) w := by
  obtain ⟨D, h1, h2, _⟩ := h
  obtain ⟨v, ps, hrun, hv⟩ := h1.look_ok keyedS Tryd.underlying92 (zeroU w) unitElem_mk (keyS l hl)
  obtain ⟨rfl, _⟩ := unitElem_inv hv
  rw [← h2 l]; exact hrun
theorem SetS.len {w : World} {M : Nat} {ent : List (List UInt8)} (h : SetS w M ent) (ty : TypeId) : (Builtin.len_ #[92] ty #[.map (some M)]).run Tryd.prog w = .ok (.int .i64 (ent.length : Int)) w := by
  obtain ⟨D, h1, _, h3⟩ := h
  have := h1.len Tryd.underlying92 ty
  rw [h3] at this; exact this
theorem SetS.store {w : World} {M : Nat} {ent : List (List UInt8)} (h : SetS w M ent) (hn : ent.length < 2000000) (l : List UInt8) (hl : l.length ≤ 100000) (hnew : ent.contains l = false) :
    ∃ w', (Instr.mapUpdate 92 (.map (some M)) (strV l) (.agg #[])).run Tryd.prog w = .ok () w' ∧ SetS w' M (l :: ent) ∧ w.grownBy w' (some M) := by
  obtain ⟨D, h1, h2, h3⟩ := h
  obtain ⟨w', hrun, ho, ht⟩ := h1.store keyedS Tryd.underlying92 (by unfold maxLen; omega) (keyS l hl) unitElem_mk
  refine ⟨w', hrun, ⟨_, ho, fun m => ?_, ?_⟩, ht.grown⟩
  · by_cases e : m = l
    · subst e
      rw [Maps.has_put_same h1.isMap (isKeyS m)]
      simp
    · have hne : (Lit.string m) ≠ .string l := fun k => e (by simpa using k)
      rw [Maps.has_put_other hne, h2 m, List.contains_cons]
      simp [e]
  · rw [Maps.size_put (h1.tidy keyedS), h2 l, hnew, h3]; rfl

/-- What stays as it is all along a search. -/
structure Par where
  o : Int
  ops : List Opn
  ah : Opn → Opn → Bool
  bud : Nat
  u : Value
  fn : Value
  wv : Value
  b0 : Nat
  B : Nat
  M : Nat

def Par.sr (p : Par) : Sr := ⟨p.o, p.ops, p.ah, p.bud, nameB⟩

/-- The search's own block. -/
def blkA (p : Par) (done : Nat) (vs : Nat → Value) (ov nv : Value) : Array Value :=
  #[.int .i64 p.o, p.u, .int .i64 p.bud, p.fn, p.wv, .int .u64 (maskN (endL p.ops)), .map (some p.M), .int .u64 done, vs 0, vs 1, vs 2, vs 3, vs 4, vs 5, vs 6, vs 7, ov, nv]

def ordV (ord : List Nat) : List Value := ord.map fun n : Nat => .int .i64 (n : Int)

/-- What must be ahead of what, in memory. -/
def WaitsAt (p : Par) (w : World) : Prop :=
  ∃ Wb cur, p.wv = .slice (some ⟨Wb, 0, none⟩) p.ops.length p.ops.length ∧ p.b0 ≤ Wb ∧ w.heap[Wb]? = some (.cells cur 94 (0, 0)) ∧ ∀ i, i < p.ops.length → w.cell? ⟨Wb, i, none⟩ = some (.int .u64 (maskN (waitL p.ops p.ah i)))

structure SearchAt (p : Par) (w : World) (ord : List Nat) (S : Int → List Int) (vs : Nat → Value) (ov nv : Value) (ent : List (List UInt8)) : Prop where
  blk : w.heap[p.B]? = some (.cells (blkA p (maskN ord) vs ov nv) 100 (0, 0))
  rows : ∀ k, k < 8 → RowAt w p.b0 (vs k) (S k)
  sep : ∀ k, k < 8 → ∀ b, (vs k).ownBlock = some b → ov.ownBlock ≠ some b
  ordr : w.ownsRow p.b0 3 1 ov ord.length (ordV ord)
  name : ∃ n xs, w.ownsRow p.b0 5 1 nv n xs
  set : SetS w p.M ent
  waits : WaitsAt p w
  ops : OpsIn w p.u p.ops
  opsb : ∀ a n c, p.u = .slice (some a) n c → 0 < n → a.block < p.b0
  known : KnownAt w
  b0pos : 0 < p.b0
  b0B : p.b0 ≤ p.B
  b0M : p.b0 ≤ p.M

/-- What a part of the search may turn: its own block, the set, the order's row, rows of bytes, and what is new. -/
structure VFr (p : Par) (ov : Value) (w : World) (ov' : Value) (w' : World) : Prop where
  os : w'.os = w.os
  tape : w'.tape = w.tape
  output : w'.output = w.output
  size : w.heap.size ≤ w'.heap.size
  same : ∀ k, k < w.heap.size → k ≠ p.B → k ≠ p.M → ov.ownBlock ≠ some k → (k < p.b0 ∨ ∀ c fz, w.heap[k]? ≠ some (.cells c 5 fz)) → w'.heap[k]? = w.heap[k]?
  ovn : ∀ b, ov'.ownBlock = some b → ov.ownBlock = some b ∨ w.heap.size ≤ b

theorem VFr.refl (p : Par) (ov : Value) (w : World) : VFr p ov w ov w := ⟨rfl, rfl, rfl, Nat.le_refl _, fun _ _ _ _ _ _ => rfl, fun _ h => .inl h⟩
theorem VFr.trans {p : Par} {ov ov1 ov2 : Value} {w w1 w2 : World} (h : VFr p ov w ov1 w1) (k : VFr p ov1 w1 ov2 w2) : VFr p ov w ov2 w2 := by
  refine ⟨k.os.trans h.os, k.tape.trans h.tape, k.output.trans h.output, Nat.le_trans h.size k.size, fun i hi hB hM ho hb => ?_, fun b hb => ?_⟩
  · have e := h.same i hi hB hM ho hb
    rw [k.same i (Nat.lt_of_lt_of_le hi h.size) hB hM (fun e1 => by
      rcases h.ovn i e1 with e2 | e2
      · exact ho e2
      · omega) (hb.imp id (fun hb c fz => by rw [e]; exact hb c fz)), e]
  · rcases k.ovn b hb with e | e
    · exact h.ovn b e
    · exact .inr (Nat.le_trans h.size e)
theorem vfr_grown {p : Par} {ov : Value} {w w' : World} (h : w.grownBy w' none) : VFr p ov w ov w' :=
  ⟨h.os, h.tape, h.output, h.size, fun k hk _ _ _ _ => h.block k hk (by simp), fun _ h => .inl h⟩
theorem vfr_bfr {p : Par} {ov : Value} {w w' : World} (h : BFr p.b0 w w') : VFr p ov w ov w' :=
  ⟨h.os, h.tape, h.output, h.size, fun k hk _ _ _ hb => h.block k hk (fun ⟨h1, c, fz, h2⟩ => by
    rcases hb with hb | hb
    · omega
    · exact hb c fz h2), fun _ h => .inl h⟩
theorem vfr_map {p : Par} {ov : Value} {w w' : World} (h : w.grownBy w' (some p.M)) : VFr p ov w ov w' :=
  ⟨h.os, h.tape, h.output, h.size, fun k hk _ hM _ _ => h.block k hk (fun e => hM (Option.some.inj e)), fun _ h => .inl h⟩
theorem vfr_set {p : Par} {ov ov' : Value} {w : World} (i : Nat) (x : Value) (ho : ∀ b, ov'.ownBlock = some b → ov.ownBlock = some b ∨ w.heap.size ≤ b) : VFr p ov w ov' (w.setCell ⟨p.B, i, none⟩ x) :=
  ⟨rfl, rfl, rfl, by simp [World.setCell], fun k _ hB _ _ _ => Below.heap_setCell _ _ _ _ hB, ho⟩
theorem vfr_row {p : Par} {ov ov' : Value} {w w' : World} (h : w.grownBy w' ov.ownBlock) (ho : ∀ b, ov'.ownBlock = some b → ov.ownBlock = some b ∨ w.heap.size ≤ b) : VFr p ov w ov' w' :=
  ⟨h.os, h.tape, h.output, h.size, fun k hk _ _ hv _ => h.block k hk (fun e => hv e.symm), ho⟩

/-- Below the first block of the search nothing turns. -/
theorem VFr.below {p : Par} {ov ov' : Value} {w w' : World} (h : VFr p ov w ov' w') (hB : p.b0 ≤ p.B) (hM : p.b0 ≤ p.M) (ho : ∀ b, ov.ownBlock = some b → p.b0 ≤ b) (hs : p.b0 ≤ w.heap.size) : Below p.b0 w w' :=
  ⟨h.os, h.tape, h.output, h.size, fun k hk => h.same k (by omega) (by omega) (by omega) (fun e => by have := ho k e; omega) (.inl hk)⟩
/-- A state that is not the order's row stays. -/
theorem VFr.row {p : Par} {ov ov' : Value} {w w' : World} (h : VFr p ov w ov' w') {v : Value} {st : List Int} (hr : RowAt w p.b0 v st) (hB : ∃ c fz, w.heap[p.B]? = some (.cells c 100 fz)) (hM : ∃ es clock, w.heap[p.M]? = some (.map es clock))
    (ho : ∀ b, v.ownBlock = some b → ov.ownBlock ≠ some b) : RowAt w' p.b0 v st := by
  refine hr.same fun b hb => ?_
  obtain ⟨_, hlt, cur, hc⟩ := hr.block b hb
  refine h.same b hlt ?_ ?_ (ho b hb) (.inr fun c fz e => by rw [hc] at e; simp at e)
  · rintro rfl; obtain ⟨c, fz, e⟩ := hB; rw [hc] at e; simp at e
  · rintro rfl; obtain ⟨c, fz, e⟩ := hM; rw [hc] at e; simp at e
theorem VFr.waits {p : Par} {ov ov' : Value} {w w' : World} (h : VFr p ov w ov' w') (hw : WaitsAt p w) (hB : ∃ c fz, w.heap[p.B]? = some (.cells c 100 fz)) (hM : ∃ es clock, w.heap[p.M]? = some (.map es clock))
    (ho : ∀ b, ov.ownBlock = some b → ∃ c fz, w.heap[b]? = some (.cells c 3 fz)) : WaitsAt p w' := by
  obtain ⟨Wb, cur, e1, e2, e3, e4⟩ := hw
  have e : w'.heap[Wb]? = w.heap[Wb]? := by
    refine h.same Wb (lt_of_heap e3) ?_ ?_ ?_ (.inr fun c fz e => by rw [e3] at e; simp at e)
    · rintro rfl; obtain ⟨c, fz, e⟩ := hB; rw [e3] at e; simp at e
    · rintro rfl; obtain ⟨c, fz, e⟩ := hM; rw [e3] at e; simp at e
    · intro e; obtain ⟨c, fz, e'⟩ := ho Wb e; rw [e3] at e'; simp at e'
  exact ⟨Wb, cur, e1, e2, e.trans e3, fun i hi => (World.cell?_of_block (a := ⟨Wb, i, none⟩) e).trans (e4 i hi)⟩

/-- All but some blocks as they were. -/
structure Tch (T : Nat → Prop) (w w' : World) : Prop where
  os : w'.os = w.os
  tape : w'.tape = w.tape
  output : w'.output = w.output
  size : w.heap.size ≤ w'.heap.size
  same : ∀ k, k < w.heap.size → ¬ T k → w'.heap[k]? = w.heap[k]?
theorem Tch.refl (T : Nat → Prop) (w : World) : Tch T w w := ⟨rfl, rfl, rfl, Nat.le_refl _, fun _ _ _ => rfl⟩
theorem Tch.trans {T : Nat → Prop} {a b c : World} (h : Tch T a b) (k : Tch T b c) : Tch T a c :=
  ⟨k.os.trans h.os, k.tape.trans h.tape, k.output.trans h.output, Nat.le_trans h.size k.size, fun i hi hT => (k.same i (Nat.lt_of_lt_of_le hi h.size) hT).trans (h.same i hi hT)⟩
theorem tch_grown {T : Nat → Prop} {w w' : World} {row : Option Nat} (h : w.grownBy w' row) (ht : ∀ k, row = some k → T k) : Tch T w w' :=
  ⟨h.os, h.tape, h.output, h.size, fun k hk hT => h.block k hk (fun e => hT (ht k e.symm))⟩
theorem tch_set {T : Nat → Prop} {w : World} {a : Addr} (x : Value) (ht : T a.block) : Tch T w (w.setCell a x) :=
  ⟨rfl, rfl, rfl, by simp [World.setCell], fun k _ hT => Below.heap_setCell _ _ _ _ (fun e => hT (e ▸ ht))⟩
theorem Tch.drew {T : Nat → Prop} {w w' : World} (h : Tch T w w') : Tch T w w'.drew := ⟨h.os, h.tape, h.output, h.size, h.same⟩

def OwnT (p : Par) (ov : Value) (k : Nat) : Prop := k = p.B ∨ ov.ownBlock = some k
theorem vfr_tch {p : Par} {ov ov' : Value} {w w' : World} (h : Tch (OwnT p ov) w w') (ho : ∀ b, ov'.ownBlock = some b → ov.ownBlock = some b ∨ w.heap.size ≤ b) : VFr p ov w ov' w' :=
  ⟨h.os, h.tape, h.output, h.size, fun k hk hB _ hv _ => h.same k hk (fun e => e.elim hB hv), ho⟩

/-- What does not lie in the order's row, nor is the search's own block. -/
theorem SearchAt.others {p : Par} {w w' : World} {ord : List Nat} {S : Int → List Int} {vs : Nat → Value} {ov nv : Value} {ent : List (List UInt8)} (h : SearchAt p w ord S vs ov nv ent) (ht : Tch (OwnT p ov) w w') :
    ∀ b c t, w.heap[b]? = some (.cells c t (0, 0)) → t ≠ 100 → (t = 3 → ov.ownBlock ≠ some b) → w'.heap[b]? = w.heap[b]? := by
  intro b c t hb h79 h3
  refine ht.same b (lt_of_heap hb) (fun e => ?_)
  rcases e with rfl | e
  · rw [h.blk] at hb; simp at hb; exact h79 hb.2.symm
  · obtain ⟨_, _, cur, hc⟩ := ownsRow_block h.ordr b e
    rw [hb] at hc
    simp at hc
    exact h3 hc.2 e
theorem SearchAt.blkd {p : Par} {w : World} {ord : List Nat} {S : Int → List Int} {vs : Nat → Value} {ov nv : Value} {ent : List (List UInt8)} (h : SearchAt p w ord S vs ov nv ent) : ∃ c fz, w.heap[p.B]? = some (.cells c 100 fz) := ⟨_, _, h.blk⟩

/-- The search behind what turned its own block and the order's row alone. -/
theorem SearchAt.after {p : Par} {w w' : World} {ord ord' : List Nat} {S S' : Int → List Int} {vs vs' : Nat → Value} {ov ov' nv : Value} {ent : List (List UInt8)} (h : SearchAt p w ord S vs ov nv ent) (ht : Tch (OwnT p ov) w w')
    (hblk : w'.heap[p.B]? = some (.cells (blkA p (maskN ord') vs' ov' nv) 100 (0, 0))) (hord : w'.ownsRow p.b0 3 1 ov' ord'.length (ordV ord')) (hov : ∀ b, ov'.ownBlock = some b → ov.ownBlock = some b ∨ w.heap.size ≤ b)
    (hrow : ∀ k, k < 8 → RowAt w p.b0 (vs' k) (S' k)) (hsep : ∀ k, k < 8 → ∀ b, (vs' k).ownBlock = some b → ov.ownBlock ≠ some b) : SearchAt p w' ord' S' vs' ov' nv ent := by
  have hs : p.b0 ≤ w.heap.size := by have := lt_of_heap h.blk; have := h.b0B; omega
  have hbel : Below p.b0 w w' := ⟨ht.os, ht.tape, ht.output, ht.size, fun k hk => ht.same k (by omega) (fun e => by
    rcases e with rfl | e
    · have := h.b0B; omega
    · have := (h.ordr.lt k e).1; omega)⟩
  refine ⟨hblk, fun k hk => (hrow k hk).same fun b hb => ?_, fun k hk b hb e => ?_, hord, ?_, ?_, ?_, ?_, h.opsb, ?_, h.b0pos, h.b0B, h.b0M⟩
  · obtain ⟨_, _, cur, hc⟩ := (hrow k hk).block b hb
    exact h.others ht b cur 3 hc (by decide) (fun _ => hsep k hk b hb)
  · rcases hov b e with e | e
    · exact hsep k hk b hb e
    · have := ((hrow k hk).lt b hb).2; omega
  · obtain ⟨n, xs, hn⟩ := h.name
    refine ⟨n, xs, ownsRow_same hn fun b hb => ?_⟩
    obtain ⟨_, _, cur, hc⟩ := ownsRow_block hn b hb
    exact h.others ht b cur 5 hc (by decide) (fun e => by cases e)
  · refine h.set.same (ht.same p.M ?_ (fun e => ?_))
    · obtain ⟨es, clock, hm⟩ := h.set.isMap; exact lt_of_heap hm
    · obtain ⟨es, clock, hm⟩ := h.set.isMap
      rcases e with e | e
      · rw [e, h.blk] at hm; cases hm
      · obtain ⟨_, _, cur, hc⟩ := ownsRow_block h.ordr p.M e
        rw [hc] at hm; cases hm
  · exact (vfr_tch ht hov).waits h.waits h.blkd h.set.isMap (fun b hb => by obtain ⟨_, _, cur, hc⟩ := ownsRow_block h.ordr b hb; exact ⟨_, _, hc⟩)
  · obtain ⟨a, cap, e, hc, hm, ho⟩ := h.ops
    refine ⟨a, cap, e, hc, hm, ?_⟩
    rcases ho with ho | ⟨b, off, rfl, hlt, ho⟩
    · exact .inl ho
    · by_cases h0 : p.ops = []
      · exact .inl h0
      · have hb0 : b < p.b0 := h.opsb ⟨b, off, none⟩ _ _ e (List.length_pos_iff.2 h0)
        exact .inr ⟨b, off, rfl, Nat.lt_of_lt_of_le hlt ht.size, ho.below hb0 hbel⟩
  · exact h.known.below h.b0pos hbel

end Go.Proofs.YtfojmbbhcmeejaaDoor
