/-
  Package lock: a run in memory: its block, the locks that are held, what is left of each list, who is over, who waits, what came of it.
  Package lock: crowds as bits, and mayStand, walked.
  Package lock's table: against and take, walked.
-/
import Derived.Test.YthmiocbihhbdpaaDoorLbW
import Derived.Test.YthmiocbihhbdpaaDoorMnPZ
import Derived.Maps.RangeWalk
import Derived.Maps.OwnSet
import Derived.Laws.BitsAllLaws
import Derived.Laws.Bits64b
import Derived.Laws.EntriesVeiled
import Derived.Deep.CutBlock
import Derived.Deep.DeepCutAuto
namespace Go.Proofs.YthmiocbihhbdpaaDoor
open Go.RowKit
open Go.Maps (Keyed int_keyed IsMap)

theorem infoH : (Tryd.prog.info? 46).map (fun i => (i.zero, i.size, i.bytes)) = some (some (.agg #[.int .i64 0, .int .i64 0, .int .i64 0]), 3, 24) := by kernel_rfl
theorem run_appH {w : World} {base B : Nat} {v : Value} {n : Nat} {L : List Stp} {s : Stp} (hown : w.ownsRow base 46 3 v n (stpC L)) (hB : StpAt w B 0 s) (hb : base ≤ w.heap.size) (hlen : n ≤ 1000) (ty : TypeId) :
    ∃ v' w', (Builtin.append_ #[26, 26] ty #[v, .slice (some ⟨B, 0, none⟩) 1 1]).run Tryd.prog w = .ok v' w' ∧ w'.ownsRow base 46 3 v' (n + 1) (stpC (L ++ [s])) ∧ w.grownBy w' v.ownBlock ∧ (v'.ownBlock = v.ownBlock ∨ v'.ownBlock = some w.heap.size) := by
  obtain ⟨i, hi, hz, hsz, hby⟩ := info_parts' infoH
  have hnews : ∀ j u, [Value.int .i64 s.p, .int .i64 s.k, .int .i64 s.m][j]? = some u → w.cell? ((⟨B, 0, none⟩ : Addr).add j) = some u := by
    intro j u hj
    rw [Addr.add_mid, Nat.zero_add]
    match j, hj with
    | 0, hj => simp at hj; subst hj; exact hB.1
    | 1, hj => simp at hj; subst hj; exact hB.2.1
    | 2, hj => simp at hj; subst hj; exact hB.2.2
  obtain ⟨v', w', hr, ho, hg, _, hob⟩ := run_append_own_at (P := Tryd.prog) (w := w) base 26 ty 46 i _ 3 24 Tryd.underlying26 hi hz hsz hby rfl (by decide) v _ _ hown ⟨B, 0, none⟩ 1 1 [.int .i64 s.p, .int .i64 s.k, .int .i64 s.m] rfl hnews (by simp [Value.oneCell']) (by unfold maxLen; omega) (by omega) hb
  exact ⟨v', w', hr, by rw [stpC_app]; exact ho, hg, hob⟩
def numC (l : List Nat) : List Value := l.map fun q : Nat => Value.int .i64 (q : Int)
theorem run_appN {w : World} {base B : Nat} {v : Value} {n : Nat} {L : List Nat} {x : Nat} (hown : w.ownsRow base 3 1 v n (numC L)) (hB : w.cell? ⟨B, 0, none⟩ = some (.int .i64 (x : Int))) (hb : base ≤ w.heap.size) (hlen : n ≤ 1000) (ty : TypeId) :
    ∃ v' w', (Builtin.append_ #[24, 24] ty #[v, .slice (some ⟨B, 0, none⟩) 1 1]).run Tryd.prog w = .ok v' w' ∧ w'.ownsRow base 3 1 v' (n + 1) (numC (L ++ [x])) ∧ w.grownBy w' v.ownBlock ∧ (v'.ownBlock = v.ownBlock ∨ v'.ownBlock = some w.heap.size) := by
  obtain ⟨i, hi, hz, hsz, hby⟩ := info_parts' info3
  have hnews : ∀ j u, [Value.int .i64 (x : Int)][j]? = some u → w.cell? ((⟨B, 0, none⟩ : Addr).add j) = some u := by
    intro j u hj
    rw [Addr.add_mid, Nat.zero_add]
    match j, hj with
    | 0, hj => simp at hj; subst hj; exact hB
  obtain ⟨v', w', hr, ho, hg, _, hob⟩ := run_append_own_at (P := Tryd.prog) (w := w) base 24 ty 3 i _ 1 8 Tryd.underlying24 hi hz hsz hby rfl (by decide) v _ _ hown ⟨B, 0, none⟩ 1 1 [.int .i64 (x : Int)] rfl hnews (by simp [Value.oneCell']) (by unfold maxLen; omega) (by omega) hb
  exact ⟨v', w', hr, by rw [show numC (L ++ [x]) = numC L ++ [.int .i64 (x : Int)] by simp [numC]]; exact ho, hg, hob⟩
theorem stpsQ_ownH {w : World} {base : Nat} {v : Value} {l : List Stp} (h : w.ownsRow base 46 3 v l.length (stpC l)) : ∃ a cap, v = .slice a l.length cap ∧ l.length ≤ cap ∧ StpsQ w a l := by
  obtain ⟨hl, ⟨rfl, h0⟩ | ⟨g, cap, cur, rfl, hb, hh, h1, h2, h3, h4⟩⟩ := h
  · have : l = [] := List.eq_nil_of_length_eq_zero h0
    subst this
    exact ⟨none, 0, rfl, Nat.le_refl _, .inl rfl⟩
  · refine ⟨_, cap, rfl, h1, .inr ⟨g, 0, rfl, lt_of_heap hh, fun k hk => ?_⟩⟩
    have hc : ∀ j, j < 3 → w.cell? ⟨g, 0 + k * 3 + j, none⟩ = [Value.int .i64 l[k].p, .int .i64 l[k].k, .int .i64 l[k].m][j]? := fun j hj => by
      rw [cell_of_row _ _ _ _ 46 _ hh, Nat.zero_add, ← stpC_at l k j hk hj]
      have e : (cur.toList.take (l.length * 3))[k * 3 + j]? = (stpC l)[k * 3 + j]? := by rw [h4]
      rw [List.getElem?_take_of_lt (by omega), Array.getElem?_toList] at e
      exact e
    exact ⟨hc 0 (by omega), hc 1 (by omega), hc 2 (by omega)⟩

/-! ### who waits for whom: a map from transactions to crowds -/
def heldC (v : Value) : Option (DataW Value × List MemPlace) := some (.held v, [])
theorem und3 : Tryd.prog.underlying 3 = some (.int .i64) := Tryd.underlying3
/-- Block M is a map that tells a crowd of each of the first n. -/
def CrMap (w : World) (M q n : Nat) (g : Nat → Nat) : Prop := ∃ D : DataW Value, w.ownsMap Tryd.prog 3 heldC M q D ∧ ∀ t : Nat, t < n → D.atKey (.int .i64 (t : Int)) (.held (.int .u64 0)) = .held (.int .u64 (g t : Int))
theorem isKeyC (p : Int) : WideAt.IsKeyLit (.int .i64 p) := by simp [WideAt.IsKeyLit]
theorem keyNeC {p q : Nat} (h : q ≠ p) : (Lit.int .i64 (q : Int)) ≠ .int .i64 (p : Int) := fun k => by
  have e : (q : Int) = (p : Int) := by simpa using k
  omega
theorem wfC {t n : Nat} (ht : t < n) (hn : n ≤ 8) : (Lit.int .i64 (t : Int)).wf = true := by
  have e : IntKind.i64.min = -9223372036854775808 := rfl
  simp [Lit.wf, e]
  omega
section
variable {w w' : World} {M q n : Nat} {g : Nat → Nat}
theorem CrMap.blk (h : CrMap w M q n g) : ∃ es clock, w.heap[M]? = some (.map es clock) := by
  obtain ⟨D, ⟨es, clock, h1, _⟩, _⟩ := h
  exact ⟨es, clock, h1⟩
theorem CrMap.lt (h : CrMap w M q n g) : M < w.heap.size := by
  obtain ⟨D, h1, _⟩ := h
  exact h1.lt
theorem CrMap.block (h : CrMap w M q n g) (hb : w'.heap[M]? = w.heap[M]?) : CrMap w' M q n g := by
  obtain ⟨D, ⟨es, clock, h1, F, hs, hD⟩, h2⟩ := h
  exact ⟨D, ⟨es, clock, hb.trans h1, F, hs, hD⟩, h2⟩
theorem crMap_made (w : World) : CrMap (w.alloc (.map #[] 0)) w.heap.size 0 n (fun _ => 0) :=
  ⟨_, World.ownsMap_made w Tryd.prog 3 heldC, fun _ _ => rfl⟩
theorem CrMap.look (h : CrMap w M q n g) (hn : n ≤ 8) {t : Nat} (ht : t < n) : (Instr.lookup 64 (.map (some M)) (.int .i64 (t : Int)) false).run Tryd.prog w = .ok (.int .u64 (g t : Int)) w := by
  obtain ⟨D, h1, h2⟩ := h
  obtain ⟨v, ps, hrun, hv⟩ := h1.lookup (int_keyed und3) Tryd.underlying64 (Tryd.zeroValue70 w) (zd := .held (.int .u64 0)) (zp := []) rfl (Go.Maps.keyOf_int_mk und3 (wfC ht hn))
  rw [h2 t ht] at hv
  have := DataW.held.inj (congrArg Prod.fst (Option.some.inj hv))
  subst this
  exact hrun
theorem CrMap.drop (h : CrMap w M q n g) (hn : n ≤ 8) {t : Nat} (ht : t < n) (ty : TypeId) : ∃ w', (Builtin.delete_ #[64, 3] ty #[.map (some M), .int .i64 (t : Int)]).run Tryd.prog w = .ok (.tuple #[]) w' ∧ CrMap w' M q n (upd g t 0) ∧ w.grownBy w' (some M) := by
  obtain ⟨D, h1, h2⟩ := h
  obtain ⟨w', hrun, ho, hm⟩ := h1.drop (int_keyed und3) Tryd.underlying64 (Go.Maps.keyOf_int_mk und3 (wfC ht hn)) ty
  refine ⟨w', hrun, ⟨_, ho, fun u hu => ?_⟩, hm.grown⟩
  by_cases e : u = t
  · subst e; rw [upd_same, Maps.atKey_del_same]; rfl
  · rw [upd_ne _ _ e, Maps.atKey_del_other (keyNeC e)]; exact h2 u hu
theorem CrMap.store (h : CrMap w M q n g) (hn : n ≤ 8) (hq : q < 1000) {t : Nat} (ht : t < n) (m : Nat) : ∃ w', (Instr.mapUpdate 64 (.map (some M)) (.int .i64 (t : Int)) (.int .u64 (m : Int))).run Tryd.prog w = .ok () w' ∧ CrMap w' M (q + 1) n (upd g t m) ∧ w.grownBy w' (some M) := by
  obtain ⟨D, h1, h2⟩ := h
  obtain ⟨w', hrun, ho, hm⟩ := h1.store (val := .int .u64 (m : Int)) (int_keyed und3) Tryd.underlying64 (by unfold maxLen; omega) (Go.Maps.keyOf_int_mk und3 (wfC ht hn)) (d := .held (.int .u64 (m : Int))) (ps := []) rfl
  refine ⟨w', hrun, ⟨_, ho, fun u hu => ?_⟩, hm.grown⟩
  by_cases e : u = t
  · subst e; rw [upd_same, Maps.atKey_put_same h1.isMap (isKeyC _)]
  · rw [upd_ne _ _ e, Maps.atKey_put_other (keyNeC e)]; exact h2 u hu
end

/-! ### what is left of each list -/
structure LefAt (w0 W : World) (L n : Nat) (p : List (List Stp)) (pos : Nat → Nat) : Prop where
  blk : ∃ cur, W.heap[L]? = some (.cells cur 26 (0, 0))
  at_ : ∀ t, t < n → ∃ a c, W.cell? ⟨L, t, none⟩ = some (.slice a ((plN p t).length - pos t) c) ∧ (plN p t).length - pos t ≤ c ∧ StpsQ w0 a ((plN p t).drop (pos t))
section
variable {w0 W W' : World} {L n : Nat} {p : List (List Stp)} {pos : Nat → Nat}
theorem LefAt.lt (h : LefAt w0 W L n p pos) : L < W.heap.size := by
  obtain ⟨cur, hc⟩ := h.blk
  exact lt_of_heap hc
theorem LefAt.fz (h : LefAt w0 W L n p pos) (i : Nat) : W.frozen? ⟨L, i, none⟩ = false := by
  obtain ⟨cur, hc⟩ := h.blk
  exact frozen_of_row _ L i cur 26 hc
theorem LefAt.block (h : LefAt w0 W L n p pos) (hb : W'.heap[L]? = W.heap[L]?) : LefAt w0 W' L n p pos := by
  obtain ⟨cur, hc⟩ := h.blk
  refine ⟨⟨cur, hb.trans hc⟩, fun t ht => ?_⟩
  obtain ⟨a, c, h1, h2⟩ := h.at_ t ht
  exact ⟨a, c, (World.cell?_of_block (a := ⟨L, t, none⟩) hb).trans h1, h2⟩
theorem LefAt.put (h : LefAt w0 W L n p pos) {t : Nat} (ht : t < n) {a : Option Addr} {c : Nat} (hc : (plN p t).length - (pos t + 1) ≤ c) (hq : StpsQ w0 a ((plN p t).drop (pos t + 1))) :
    LefAt w0 (W.setCell ⟨L, t, none⟩ (.slice a ((plN p t).length - (pos t + 1)) c)) L n p (upd pos t (pos t + 1)) := by
  obtain ⟨cur, hcur⟩ := h.blk
  obtain ⟨cur', hc', _⟩ := heap_setCell hcur t (.slice a ((plN p t).length - (pos t + 1)) c)
  refine ⟨⟨cur', hc'⟩, fun u hu => ?_⟩
  by_cases e : u = t
  · subst e
    obtain ⟨_, _, h1, _⟩ := h.at_ u hu
    rw [upd_same]
    exact ⟨a, c, World.cell?_setCell_same _ _ _ h1, hc, hq⟩
  · obtain ⟨a', c', h1, h2⟩ := h.at_ u hu
    rw [upd_ne _ _ e]
    exact ⟨a', c', (World.cell?_setCell_other _ _ _ _ (offNe (Ne.symm e))).trans h1, h2⟩
end

/-! ### the run -/
def tagO : Option Obj → Nat
  | some (.cells _ t _) => t + 1
  | _ => 0
theorem ne_tag {W : World} {a b x y : Nat} (ha : tagO W.heap[a]? = x) (hb : tagO W.heap[b]? = y) (h : x ≠ y) : a ≠ b := fun e => h (by rw [← ha, ← hb, e])
def runO (L O M C n : Nat) (vh vd vv : Value) : Obj := .cells #[vh, .slice (some ⟨L, 0, none⟩) n n, .slice (some ⟨O, 0, none⟩) n n, .map (some M), vd, .slice (some ⟨C, 0, none⟩) n n, vv] 66 (0, 0)
/-- Whose blocks these are: the run's, what is left, who is over, who waits, how often. -/
structure RunB where
  B : Nat
  L : Nat
  O : Nat
  M : Nat
  C : Nat
structure RunM (w0 : World) (n : Nat) (p : List (List Stp)) (k : RunB) (W : World) (hl dn : List Stp) (ov : Nat → Bool) (pos : Nat → Nat) (q : Nat) (g : Nat → Nat) (cnt : Nat → Nat) (vic : List Nat) (vh vd vv : Value) : Prop where
  bel : Below w0.heap.size w0 W
  blk : W.heap[k.B]? = some (runO k.L k.O k.M k.C n vh vd vv)
  held : W.ownsRow w0.heap.size 46 3 vh hl.length (stpC hl)
  left : LefAt w0 W k.L n p pos
  over : BitsAt W k.O n ov
  map : CrMap W k.M q n g
  done : W.ownsRow w0.heap.size 46 3 vd dn.length (stpC dn)
  cnt : NumsAt W k.C n cnt
  vic : W.ownsRow w0.heap.size 3 1 vv vic.length (numC vic)
  lo : w0.heap.size ≤ k.B ∧ w0.heap.size ≤ k.L ∧ w0.heap.size ≤ k.O ∧ w0.heap.size ≤ k.M ∧ w0.heap.size ≤ k.C
  hd : ∀ b, vh.ownBlock = some b → vd.ownBlock ≠ some b
  cv : vv.ownBlock ≠ some k.C
section
variable {w0 W W' : World} {n : Nat} {p : List (List Stp)} {k : RunB} {hl dn : List Stp} {ov : Nat → Bool} {pos : Nat → Nat} {q : Nat} {g : Nat → Nat} {cnt : Nat → Nat} {vic : List Nat} {vh vd vv : Value}
theorem RunM.lt (h : RunM w0 n p k W hl dn ov pos q g cnt vic vh vd vv) : k.B < W.heap.size := lt_of_heap h.blk
theorem RunM.size (h : RunM w0 n p k W hl dn ov pos q g cnt vic vh vd vv) : w0.heap.size ≤ W.heap.size := h.bel.size
/-- What lies in the run's own block. -/
theorem RunM.cells (h : RunM w0 n p k W hl dn ov pos q g cnt vic vh vd vv) : W.cell? ⟨k.B, 0, none⟩ = some vh ∧ W.cell? ⟨k.B, 1, none⟩ = some (.slice (some ⟨k.L, 0, none⟩) n n) ∧ W.cell? ⟨k.B, 2, none⟩ = some (.slice (some ⟨k.O, 0, none⟩) n n) ∧ W.cell? ⟨k.B, 3, none⟩ = some (.map (some k.M)) ∧ W.cell? ⟨k.B, 4, none⟩ = some vd ∧ W.cell? ⟨k.B, 5, none⟩ = some (.slice (some ⟨k.C, 0, none⟩) n n) ∧ W.cell? ⟨k.B, 6, none⟩ = some vv := by
  have hb := h.blk
  unfold runO at hb
  refine ⟨?_, ?_, ?_, ?_, ?_, ?_, ?_⟩ <;> rw [cell_of_row _ _ _ _ 66 _ hb] <;> rfl
theorem RunM.fz (h : RunM w0 n p k W hl dn ov pos q g cnt vic vh vd vv) (i : Nat) : W.frozen? ⟨k.B, i, none⟩ = false := by
  have hb := h.blk
  unfold runO at hb
  exact frozen_of_row _ _ _ _ 66 hb
theorem own_tag {base : Nat} {e : TypeId} {m : Nat} {v : Value} {l : Nat} {xs : List Value} (h : W.ownsRow base e m v l xs) {b : Nat} (hb : v.ownBlock = some b) : tagO W.heap[b]? = e + 1 := by
  obtain ⟨_, _, cur, hc⟩ := ownsRow_block h b hb
  rw [hc]
  rfl
/-- Of what kind each block is. -/
theorem RunM.tags (h : RunM w0 n p k W hl dn ov pos q g cnt vic vh vd vv) : tagO W.heap[k.B]? = 67 ∧ tagO W.heap[k.L]? = 27 ∧ tagO W.heap[k.O]? = 5 ∧ tagO W.heap[k.M]? = 0 ∧ tagO W.heap[k.C]? = 4 := by
  obtain ⟨c1, h1⟩ := h.left.blk
  obtain ⟨c2, h2⟩ := h.over.blk
  obtain ⟨c3, c3', h3⟩ := h.map.blk
  obtain ⟨c4, h4⟩ := h.cnt.blk
  exact ⟨by rw [h.blk]; rfl, by rw [h1]; rfl, by rw [h2]; rfl, by rw [h3]; rfl, by rw [h4]; rfl⟩
/-- What is kept where one block alone is turned. -/
theorem RunM.keeps (h : RunM w0 n p k W hl dn ov pos q g cnt vic vh vd vv) {X : Option Nat} (hk : ∀ b, b < W.heap.size → some b ≠ X → W'.heap[b]? = W.heap[b]?) :
    (some k.B ≠ X → W'.heap[k.B]? = some (runO k.L k.O k.M k.C n vh vd vv)) ∧ ((∀ b, vh.ownBlock = some b → some b ≠ X) → W'.ownsRow w0.heap.size 46 3 vh hl.length (stpC hl)) ∧ (some k.L ≠ X → LefAt w0 W' k.L n p pos) ∧ (some k.O ≠ X → BitsAt W' k.O n ov) ∧ (some k.M ≠ X → CrMap W' k.M q n g) ∧
      ((∀ b, vd.ownBlock = some b → some b ≠ X) → W'.ownsRow w0.heap.size 46 3 vd dn.length (stpC dn)) ∧ (some k.C ≠ X → NumsAt W' k.C n cnt) ∧ ((∀ b, vv.ownBlock = some b → some b ≠ X) → W'.ownsRow w0.heap.size 3 1 vv vic.length (numC vic)) :=
  ⟨fun e => (hk _ h.lt e).trans h.blk, fun e => ownsRow_same h.held fun b hb => hk b (ownsRow_block h.held b hb).2.1 (e b hb), fun e => h.left.block (hk _ h.left.lt e), fun e => h.over.block (hk _ h.over.lt e), fun e => h.map.block (hk _ h.map.lt e),
    fun e => ownsRow_same h.done fun b hb => hk b (ownsRow_block h.done b hb).2.1 (e b hb), fun e => h.cnt.block (hk _ h.cnt.lt e), fun e => ownsRow_same h.vic fun b hb => hk b (ownsRow_block h.vic b hb).2.1 (e b hb)⟩
/-- What makes memory alone. -/
theorem RunM.below (h : RunM w0 n p k W hl dn ov pos q g cnt vic vh vd vv) (hb : Below W.heap.size W W') : RunM w0 n p k W' hl dn ov pos q g cnt vic vh vd vv := by
  obtain ⟨k1, k2, k3, k4, k5, k6, k7, k8⟩ := h.keeps (W' := W') (X := none) fun b hb' _ => hb.block b hb'
  exact ⟨belJ h.bel hb, k1 (by simp), k2 (by simp), k3 (by simp), k4 (by simp), k5 (by simp), k6 (by simp), k7 (by simp), k8 (by simp), h.lo, h.hd, h.cv⟩
theorem someNe {a b : Nat} (h : a ≠ b) : some a ≠ some b := fun e => h (by injection e)
/-- One is over. -/
theorem RunM.putO (h : RunM w0 n p k W hl dn ov pos q g cnt vic vh vd vv) {t : Nat} (ht : t < n) (x : Bool) : RunM w0 n p k (W.setCell ⟨k.O, t, none⟩ (.bool x)) hl dn (upd ov t x) pos q g cnt vic vh vd vv := by
  obtain ⟨t1, t2, t3, t4, t5⟩ := h.tags
  obtain ⟨k1, k2, k3, _, k5, k6, k7, k8⟩ := h.keeps (W' := W.setCell ⟨k.O, t, none⟩ (.bool x)) (X := some k.O) fun b _ hb => Below.heap_setCell W ⟨k.O, t, none⟩ _ b fun e => hb (by rw [e])
  exact ⟨h.bel.setCell (p := ⟨k.O, t, none⟩) h.lo.2.2.1 _, k1 (someNe (ne_tag t1 t3 (by decide))), k2 (fun b hb => someNe (ne_tag (own_tag h.held hb) t3 (by decide))), k3 (someNe (ne_tag t2 t3 (by decide))), h.over.put ht x, k5 (someNe (ne_tag t4 t3 (by decide))),
    k6 (fun b hb => someNe (ne_tag (own_tag h.done hb) t3 (by decide))), k7 (someNe (ne_tag t5 t3 (by decide))), k8 (fun b hb => someNe (ne_tag (own_tag h.vic hb) t3 (by decide))), h.lo, h.hd, h.cv⟩
/-- The map is turned. -/
theorem RunM.putM (h : RunM w0 n p k W hl dn ov pos q g cnt vic vh vd vv) {q' : Nat} {g' : Nat → Nat} (hm : CrMap W' k.M q' n g') (hg : W.grownBy W' (some k.M)) : RunM w0 n p k W' hl dn ov pos q' g' cnt vic vh vd vv := by
  obtain ⟨t1, t2, t3, t4, t5⟩ := h.tags
  obtain ⟨k1, k2, k3, k4, _, k6, k7, k8⟩ := h.keeps (W' := W') (X := some k.M) fun b hb hne => hg.block b hb hne
  exact ⟨h.bel.grown hg h.size (fun b e => by injection e with e; rw [← e]; exact h.lo.2.2.2.1), k1 (someNe (ne_tag t1 t4 (by decide))), k2 (fun b hb => someNe (ne_tag (own_tag h.held hb) t4 (by decide))), k3 (someNe (ne_tag t2 t4 (by decide))), k4 (someNe (ne_tag t3 t4 (by decide))), hm,
    k6 (fun b hb => someNe (ne_tag (own_tag h.done hb) t4 (by decide))), k7 (someNe (ne_tag t5 t4 (by decide))), k8 (fun b hb => someNe (ne_tag (own_tag h.vic hb) t4 (by decide))), h.lo, h.hd, h.cv⟩
/-- One of a list is done. -/
theorem RunM.putL (h : RunM w0 n p k W hl dn ov pos q g cnt vic vh vd vv) {t : Nat} (ht : t < n) {a : Option Addr} {c : Nat} (hc : (plN p t).length - (pos t + 1) ≤ c) (hq : StpsQ w0 a ((plN p t).drop (pos t + 1))) :
    RunM w0 n p k (W.setCell ⟨k.L, t, none⟩ (.slice a ((plN p t).length - (pos t + 1)) c)) hl dn ov (upd pos t (pos t + 1)) q g cnt vic vh vd vv := by
  obtain ⟨t1, t2, t3, t4, t5⟩ := h.tags
  obtain ⟨k1, k2, _, k4, k5, k6, k7, k8⟩ := h.keeps (W' := W.setCell ⟨k.L, t, none⟩ (.slice a ((plN p t).length - (pos t + 1)) c)) (X := some k.L) fun b _ hb => Below.heap_setCell W ⟨k.L, t, none⟩ _ b fun e => hb (by rw [e])
  exact ⟨h.bel.setCell (p := ⟨k.L, t, none⟩) h.lo.2.1 _, k1 (someNe (ne_tag t1 t2 (by decide))), k2 (fun b hb => someNe (ne_tag (own_tag h.held hb) t2 (by decide))), h.left.put ht hc hq, k4 (someNe (ne_tag t3 t2 (by decide))), k5 (someNe (ne_tag t4 t2 (by decide))),
    k6 (fun b hb => someNe (ne_tag (own_tag h.done hb) t2 (by decide))), k7 (someNe (ne_tag t5 t2 (by decide))), k8 (fun b hb => someNe (ne_tag (own_tag h.vic hb) t2 (by decide))), h.lo, h.hd, h.cv⟩
/-- One waits once more. -/
theorem RunM.putC (h : RunM w0 n p k W hl dn ov pos q g cnt vic vh vd vv) {t : Nat} (ht : t < n) (x : Nat) : RunM w0 n p k (W.setCell ⟨k.C, t, none⟩ (.int .i64 (x : Int))) hl dn ov pos q g (upd cnt t x) vic vh vd vv := by
  obtain ⟨t1, t2, t3, t4, t5⟩ := h.tags
  obtain ⟨k1, k2, k3, k4, k5, k6, _, k8⟩ := h.keeps (W' := W.setCell ⟨k.C, t, none⟩ (.int .i64 (x : Int))) (X := some k.C) fun b _ hb => Below.heap_setCell W ⟨k.C, t, none⟩ _ b fun e => hb (by rw [e])
  exact ⟨h.bel.setCell (p := ⟨k.C, t, none⟩) h.lo.2.2.2.2 _, k1 (someNe (ne_tag t1 t5 (by decide))), k2 (fun b hb => someNe (ne_tag (own_tag h.held hb) t5 (by decide))), k3 (someNe (ne_tag t2 t5 (by decide))), k4 (someNe (ne_tag t3 t5 (by decide))), k5 (someNe (ne_tag t4 t5 (by decide))),
    k6 (fun b hb => someNe (ne_tag (own_tag h.done hb) t5 (by decide))), h.cnt.put ht x, k8 (fun b hb e => h.cv (by rw [hb]; exact e)), h.lo, h.hd, h.cv⟩
/-- The run's block, one of its cells stored. -/
theorem set_run {W : World} {B : Nat} {cs : Array Value} (h : W.heap[B]? = some (.cells cs 66 (0, 0))) (i : Nat) (v : Value) : (W.setCell ⟨B, i, none⟩ v).heap[B]? = some (.cells (cs.setIfInBounds i v) 66 (0, 0)) := by
  have hlt := lt_of_block h
  have h' : W.heap[B] = .cells cs 66 (0, 0) := by simpa [Array.getElem?_eq_getElem hlt] using h
  show (W.heap.modify B _)[B]? = _
  rw [Array.getElem?_eq_getElem (by simpa using hlt), Array.getElem_modify_self, h']
  rfl
theorem grown_run {W1 W2 W3 : World} {B i : Nat} {X : Option Nat} {v : Value} (hg : W1.grownBy W2 X) (e : W3 = W2.setCell ⟨B, i, none⟩ v) : ∀ b, b < W1.heap.size → b ≠ B → some b ≠ X → W3.heap[b]? = W1.heap[b]? := fun b hb h1 h2 => by
  rw [e]
  exact (Below.heap_setCell W2 ⟨B, i, none⟩ v b h1).trans (hg.block b hb h2)
/-- What was done, one more. -/
theorem RunM.putD (h : RunM w0 n p k W hl dn ov pos q g cnt vic vh vd vv) {s : Stp} {v' : Value} (ho : W'.ownsRow w0.heap.size 46 3 v' (dn.length + 1) (stpC (dn ++ [s]))) (hg : W.grownBy W' vd.ownBlock) (hv : v'.ownBlock = vd.ownBlock ∨ v'.ownBlock = some W.heap.size) :
    RunM w0 n p k (W'.setCell ⟨k.B, 4, none⟩ v') hl (dn ++ [s]) ov pos q g cnt vic vh v' vv := by
  obtain ⟨t1, t2, t3, t4, t5⟩ := h.tags
  have hB := hg.block k.B h.lt fun e => ne_tag (own_tag h.done e.symm) t1 (by decide) rfl
  have hne : ∀ b, b < W.heap.size → some b ≠ vd.ownBlock → b ≠ k.B → (W'.setCell ⟨k.B, 4, none⟩ v').heap[b]? = W.heap[b]? := fun b hb h1 h2 => grown_run hg rfl b hb h2 h1
  have hd : ∀ {b : Nat}, tagO W.heap[b]? ≠ 47 → some b ≠ vd.ownBlock := fun ht e => ht (own_tag h.done e.symm)
  have hb : Below w0.heap.size w0 W' := h.bel.grown hg h.size fun b e => (ownsRow_block h.done b e).1
  have hob : ∀ b, v'.ownBlock = some b → b ≠ k.B := fun b hb' e => by
    rcases hv with hv | hv
    · rw [hv] at hb'; exact ne_tag (own_tag h.done hb') t1 (by decide) e
    · rw [hv] at hb'; injection hb' with hb'; have := h.lt; omega
  refine ⟨hb.setCell (p := ⟨k.B, 4, none⟩) h.lo.1 _, set_run (hB.trans h.blk) 4 v', ?_, h.left.block (hne _ h.left.lt (hd (by rw [t2]; decide)) (ne_tag t2 t1 (by decide))), h.over.block (hne _ h.over.lt (hd (by rw [t3]; decide)) (ne_tag t3 t1 (by decide))), h.map.block (hne _ h.map.lt (hd (by rw [t4]; decide)) (ne_tag t4 t1 (by decide))), ?_, h.cnt.block (hne _ h.cnt.lt (hd (by rw [t5]; decide)) (ne_tag t5 t1 (by decide))), ?_, h.lo, ?_, h.cv⟩
  · exact ownsRow_same h.held fun b hb' => hne b (ownsRow_block h.held b hb').2.1 (fun e => h.hd b hb' e.symm) (ne_tag (own_tag h.held hb') t1 (by decide))
  · rw [show (dn ++ [s]).length = dn.length + 1 by simp]
    exact ownsRow_same ho fun b hb' => Below.heap_setCell W' ⟨k.B, 4, none⟩ v' b (hob b hb')
  · exact ownsRow_same h.vic fun b hb' => hne b (ownsRow_block h.vic b hb').2.1 (hd (by rw [own_tag h.vic hb']; decide)) (ne_tag (own_tag h.vic hb') t1 (by decide))
  · intro b hb' e
    rcases hv with hv | hv
    · rw [hv] at e; exact h.hd b hb' e
    · rw [hv] at e
      injection e with e
      have := (ownsRow_block h.held b hb').2.1
      omega
/-- The locks that are held, turned. -/
theorem RunM.putH (h : RunM w0 n p k W hl dn ov pos q g cnt vic vh vd vv) {hl' : List Stp} {v' : Value} (ho : W'.ownsRow w0.heap.size 46 3 v' hl'.length (stpC hl')) (hg : W.grownBy W' vh.ownBlock) (hv : v'.ownBlock = vh.ownBlock ∨ ∃ z, v'.ownBlock = some z ∧ W.heap.size ≤ z) :
    RunM w0 n p k (W'.setCell ⟨k.B, 0, none⟩ v') hl' dn ov pos q g cnt vic v' vd vv := by
  obtain ⟨t1, t2, t3, t4, t5⟩ := h.tags
  have hB := hg.block k.B h.lt fun e => ne_tag (own_tag h.held e.symm) t1 (by decide) rfl
  have hne : ∀ b, b < W.heap.size → some b ≠ vh.ownBlock → b ≠ k.B → (W'.setCell ⟨k.B, 0, none⟩ v').heap[b]? = W.heap[b]? := fun b hb h1 h2 => grown_run hg rfl b hb h2 h1
  have hd : ∀ {b : Nat}, tagO W.heap[b]? ≠ 47 → some b ≠ vh.ownBlock := fun ht e => ht (own_tag h.held e.symm)
  have hb : Below w0.heap.size w0 W' := h.bel.grown hg h.size fun b e => (ownsRow_block h.held b e).1
  have hob : ∀ b, v'.ownBlock = some b → b ≠ k.B := fun b hb' e => by
    rcases hv with hv | ⟨z, hv, hz⟩
    · rw [hv] at hb'; exact ne_tag (own_tag h.held hb') t1 (by decide) e
    · rw [hv] at hb'; injection hb' with hb'; have := h.lt; omega
  refine ⟨hb.setCell (p := ⟨k.B, 0, none⟩) h.lo.1 _, set_run (hB.trans h.blk) 0 v', ?_, h.left.block (hne _ h.left.lt (hd (by rw [t2]; decide)) (ne_tag t2 t1 (by decide))), h.over.block (hne _ h.over.lt (hd (by rw [t3]; decide)) (ne_tag t3 t1 (by decide))), h.map.block (hne _ h.map.lt (hd (by rw [t4]; decide)) (ne_tag t4 t1 (by decide))), ?_, h.cnt.block (hne _ h.cnt.lt (hd (by rw [t5]; decide)) (ne_tag t5 t1 (by decide))), ?_, h.lo, ?_, h.cv⟩
  · exact ownsRow_same ho fun b hb' => Below.heap_setCell W' ⟨k.B, 0, none⟩ v' b (hob b hb')
  · exact ownsRow_same h.done fun b hb' => hne b (ownsRow_block h.done b hb').2.1 (fun e => h.hd b e.symm hb') (ne_tag (own_tag h.done hb') t1 (by decide))
  · exact ownsRow_same h.vic fun b hb' => hne b (ownsRow_block h.vic b hb').2.1 (hd (by rw [own_tag h.vic hb']; decide)) (ne_tag (own_tag h.vic hb') t1 (by decide))
  · intro b hb' e
    rcases hv with hv | ⟨z, hv, hz⟩
    · rw [hv] at hb'; exact h.hd b hb' e
    · rw [hv] at hb'
      injection hb' with hb'
      have := (ownsRow_block h.done b e).2.1
      omega
/-- Who was ended, one more. -/
theorem RunM.putV (h : RunM w0 n p k W hl dn ov pos q g cnt vic vh vd vv) {x : Nat} {v' : Value} (ho : W'.ownsRow w0.heap.size 3 1 v' (vic.length + 1) (numC (vic ++ [x]))) (hg : W.grownBy W' vv.ownBlock) (hv : v'.ownBlock = vv.ownBlock ∨ v'.ownBlock = some W.heap.size) :
    RunM w0 n p k (W'.setCell ⟨k.B, 6, none⟩ v') hl dn ov pos q g cnt (vic ++ [x]) vh vd v' := by
  obtain ⟨t1, t2, t3, t4, t5⟩ := h.tags
  have hB := hg.block k.B h.lt fun e => ne_tag (own_tag h.vic e.symm) t1 (by decide) rfl
  have hne : ∀ b, b < W.heap.size → some b ≠ vv.ownBlock → b ≠ k.B → (W'.setCell ⟨k.B, 6, none⟩ v').heap[b]? = W.heap[b]? := fun b hb h1 h2 => grown_run hg rfl b hb h2 h1
  have hd : ∀ {b : Nat}, tagO W.heap[b]? ≠ 4 → some b ≠ vv.ownBlock := fun ht e => ht (own_tag h.vic e.symm)
  have hb : Below w0.heap.size w0 W' := h.bel.grown hg h.size fun b e => (ownsRow_block h.vic b e).1
  have hob : ∀ b, v'.ownBlock = some b → b ≠ k.B := fun b hb' e => by
    rcases hv with hv | hv
    · rw [hv] at hb'; exact ne_tag (own_tag h.vic hb') t1 (by decide) e
    · rw [hv] at hb'; injection hb' with hb'; have := h.lt; omega
  refine ⟨hb.setCell (p := ⟨k.B, 6, none⟩) h.lo.1 _, set_run (hB.trans h.blk) 6 v', ?_, h.left.block (hne _ h.left.lt (hd (by rw [t2]; decide)) (ne_tag t2 t1 (by decide))), h.over.block (hne _ h.over.lt (hd (by rw [t3]; decide)) (ne_tag t3 t1 (by decide))), h.map.block (hne _ h.map.lt (hd (by rw [t4]; decide)) (ne_tag t4 t1 (by decide))), ?_, h.cnt.block (hne _ h.cnt.lt (fun e => h.cv e.symm) (ne_tag t5 t1 (by decide))), ?_, h.lo, h.hd, ?_⟩
  · exact ownsRow_same h.held fun b hb' => hne b (ownsRow_block h.held b hb').2.1 (hd (by rw [own_tag h.held hb']; decide)) (ne_tag (own_tag h.held hb') t1 (by decide))
  · exact ownsRow_same h.done fun b hb' => hne b (ownsRow_block h.done b hb').2.1 (hd (by rw [own_tag h.done hb']; decide)) (ne_tag (own_tag h.done hb') t1 (by decide))
  · rw [show (vic ++ [x]).length = vic.length + 1 by simp]
    exact ownsRow_same ho fun b hb' => Below.heap_setCell W' ⟨k.B, 6, none⟩ v' b (hob b hb')
  · intro e
    rcases hv with hv | hv
    · rw [hv] at e; exact h.cv e
    · rw [hv] at e
      injection e with e
      have := h.cnt.lt
      omega
end
end Go.Proofs.YthmiocbihhbdpaaDoor

namespace Go.Proofs.YthmiocbihhbdpaaDoor
open Go.RowKit

theorem ret_bl {a b : Bool} (h : a = b) : Ending.returned (.bool a) = .returned (.bool b) := by rw [h]
theorem ret_nt {k : IntKind} {a b : Int} (h : a = b) : Ending.returned (.int k a) = .returned (.int k b) := by rw [h]

set_option maxHeartbeats 1000000 in
theorem mayStand_any (t : Nat) (s : Stp) (w : World) : Calls Tryd.prog 13 #[.agg #[.int .i64 s.p, .int .i64 s.k, .int .i64 s.m], .int .i64 (t : Int)] w fun e w' => e = .returned (.bool (!badT t s)) ∧ Below w.heap.size w w' := by
  obtain ⟨sp, sk, sm⟩ := s
  have HB := hideIt (belA (Below.refl w.heap.size w) (.cells #[.int .i64 sp, .int .i64 sk, .int .i64 sm] 46))
  dsimp only
  by_cases e1 : sp = (t : Int)
  · have h1 : (sp == (t : Int)) = true := by simp [e1]
    by_cases k1 : sk = 1
    · have h2 : (sk == 1) = true := by simp [k1]
      by_cases m0 : 0 ≤ sm
      · by_cases m7 : sm < 8
        · have HE := hideIt (show badT t ⟨sp, sk, sm⟩ = false by unfold badT; simp [e1, k1]; omega)
          clear e1 k1
          go_enter Tryd.func13, Tryd.ntmps13
          go_wp2
          go_ret
          exact ⟨ret_bl (by rw [HE.out]; simp), HB.out⟩
        · have HE := hideIt (show badT t ⟨sp, sk, sm⟩ = true by unfold badT; simp [e1, k1]; omega)
          clear e1 k1
          go_enter Tryd.func13, Tryd.ntmps13
          go_wp2
          go_ret
          exact ⟨ret_bl (by rw [HE.out]; simp), HB.out⟩
      · have HE := hideIt (show badT t ⟨sp, sk, sm⟩ = true by unfold badT; simp [e1, k1]; omega)
        clear e1 k1
        go_enter Tryd.func13, Tryd.ntmps13
        go_wp2
        go_ret
        exact ⟨ret_bl (by rw [HE.out]; simp), HB.out⟩
    · have h2 : (sk == 1) = false := by simp [k1]
      by_cases k2 : sk = 2
      · have h3 : (sk == 2) = true := by simp [k2]
        by_cases m0 : 0 ≤ sm
        · by_cases m7 : sm < 8
          · have HE := hideIt (show badT t ⟨sp, sk, sm⟩ = false by unfold badT; simp [e1, k2]; omega)
            clear e1 k1 k2
            go_enter Tryd.func13, Tryd.ntmps13
            go_wp2
            go_ret
            exact ⟨ret_bl (by rw [HE.out]; simp), HB.out⟩
          · have HE := hideIt (show badT t ⟨sp, sk, sm⟩ = true by unfold badT; simp [e1, k2]; omega)
            clear e1 k1 k2
            go_enter Tryd.func13, Tryd.ntmps13
            go_wp2
            go_ret
            exact ⟨ret_bl (by rw [HE.out]; simp), HB.out⟩
        · have HE := hideIt (show badT t ⟨sp, sk, sm⟩ = true by unfold badT; simp [e1, k2]; omega)
          clear e1 k1 k2
          go_enter Tryd.func13, Tryd.ntmps13
          go_wp2
          go_ret
          exact ⟨ret_bl (by rw [HE.out]; simp), HB.out⟩
      · have h3 : (sk == 2) = false := by simp [k2]
        have HE := hideIt (show badT t ⟨sp, sk, sm⟩ = true by unfold badT; simp [k1, k2])
        clear e1 k1 k2
        go_enter Tryd.func13, Tryd.ntmps13
        go_wp2
        go_ret
        exact ⟨ret_bl (by rw [HE.out]; simp), HB.out⟩
  · have h1 : (sp == (t : Int)) = false := by simp [e1]
    have HE := hideIt (show badT t ⟨sp, sk, sm⟩ = true by unfold badT; simp [e1])
    clear e1
    go_enter Tryd.func13, Tryd.ntmps13
    go_wp2
    go_ret
    exact ⟨ret_bl (by rw [HE.out]; simp), HB.out⟩

set_option maxHeartbeats 400000 in
theorem has_any (m u : Nat) (w : World) (hm : m < 256) (hu : u < 8) : Calls Tryd.prog 44 #[.int .u64 m, .int .i64 u] w fun e w' => e = .returned (.bool (m.testBit u)) ∧ w' = w := by
  have h1 : (0 : Int) ≤ (u : Int) := by omega
  have h2 : (u : Int) ≤ 64 := by omega
  go_enter Tryd.func44, Tryd.ntmps44
  go_wp2
  go_ret
  refine ⟨ret_bl ?_, rfl⟩
  have e : ((m : Int) / 2 ^ u) = ((m / 2 ^ u : Nat) : Int) := by
    rw [Int.natCast_ediv]; simp
  have hlt : m / 2 ^ u < 18446744073709551616 := Nat.lt_of_le_of_lt (Nat.div_le_self _ _) (by omega)
  rw [e, show (1 : Int) = ((1 : Nat) : Int) from rfl, bits_and_u64_nat _ _ hlt (by decide), Nat.testBit_eq_decide_div_mod_eq, Nat.and_one_is_mod, Bool.eq_iff_iff, beq_iff_eq, decide_eq_true_iff]
  exact ⟨fun h => by exact_mod_cast h, fun h => by exact_mod_cast h⟩

set_option maxHeartbeats 400000 in
theorem with_any (m u : Nat) (w : World) (hm : m < 256) (hu : u < 8) : Calls Tryd.prog 31 #[.int .u64 m, .int .i64 u] w fun e w' => e = .returned (.int .u64 ((m ||| 2 ^ u : Nat) : Int)) ∧ w' = w := by
  have h1 : (0 : Int) ≤ (u : Int) := by omega
  have h2 : (u : Int) ≤ 64 := by omega
  go_enter Tryd.func31, Tryd.ntmps31
  go_wp2
  go_ret
  refine ⟨ret_nt ?_, rfl⟩
  have hp : 2 ^ u < 2 ^ 8 := Nat.pow_lt_pow_right (by decide) hu
  have e : IntKind.u64.wrap ((2 : Int) ^ u) = ((2 ^ u : Nat) : Int) := by
    have e0 : (2 : Int) ^ u = ((2 ^ u : Nat) : Int) := (Int.natCast_pow 2 u).symm
    rw [e0, IntKind.wrap_u64]
    generalize 2 ^ u = p at hp
    omega
  rw [e, bits_or_u64_nat _ _ (by omega) (by omega)]
end Go.Proofs.YthmiocbihhbdpaaDoor

namespace Go.Proofs.YthmiocbihhbdpaaDoor
open Go.RowKit

/-- Does a lock stand against a step? -/
def agD (d s : Stp) : Bool := d.p != s.p && (d.m == s.m && (d.k == 2 || s.k == 2))
def agN (hl : List Stp) (s : Stp) (u : Nat) : Bool := hl.any fun d => d.p == (u : Int) && agD d s
theorem agN_succ {hl : List Stp} {k : Nat} (h : k < hl.length) (s : Stp) (u : Nat) : agN (hl.take (k + 1)) s u = (agN (hl.take k) s u || (hl[k].p == (u : Int) && agD hl[k] s)) := by
  unfold agN
  rw [List.take_add_one, List.getElem?_eq_getElem h, List.any_append]
  simp
theorem or_bit {m u v : Nat} : (m ||| 2 ^ v).testBit u = (m.testBit u || decide (v = u)) := by
  rw [Nat.testBit_or, Nat.testBit_two_pow]
theorem or_lt {m v : Nat} (hm : m < 256) (hv : v < 8) : m ||| 2 ^ v < 256 :=
  Nat.or_lt_two_pow (n := 8) hm (Nat.pow_lt_pow_right (by decide) hv)

/-- What against tells. -/
def AgTold (hl : List Stp) (s : Stp) (W : World) (e : Ending) (W' : World) : Prop := (∃ m : Nat, m < 256 ∧ e = .returned (.int .u64 (m : Int)) ∧ ∀ u, u < 8 → m.testBit u = agN hl s u) ∧ Below W.heap.size W W'

set_option maxRecDepth 100000 in
set_option maxHeartbeats 4000000 in
theorem against_any (hl : List Stp) (s : Stp) (B : Nat) (a : Option Addr) (cap : Nat) (W : World) (hlen : hl.length ≤ 1000) (hB : W.cell? ⟨B, 0, none⟩ = some (.slice a hl.length cap)) (hq : StpsQ W a hl) (hp : ∀ d ∈ hl, 0 ≤ d.p ∧ d.p ≤ 7) :
    Calls Tryd.prog 24 #[.pointer (some ⟨B, 0, none⟩), .agg #[.int .i64 s.p, .int .i64 s.k, .int .i64 s.m]] W fun e W' => AgTold hl s W e W' := by
  have HQ := hideIt hq
  have HP := hideIt hp
  have hlt := World.block_lt_of_cell? W _ hB
  have hx1 : ¬ B = W.heap.size := fun e => by simp [e] at hlt
  have hx2 : ¬ W.heap.size = B := fun e => hx1 e.symm
  have HB0 := hideIt (belA (Below.refl W.heap.size W) (.cells #[.int .i64 s.p, .int .i64 s.k, .int .i64 s.m] 46))
  have hnew := heap_alloc_new W (.cells #[.int .i64 s.p, .int .i64 s.k, .int .i64 s.m] 46)
  have HSb : Hid (StpAt (W.alloc (.cells #[.int .i64 s.p, .int .i64 s.k, .int .i64 s.m] 46)) W.heap.size 0 s) := ⟨cell_of_row _ _ _ _ 46 (0, 0) hnew, cell_of_row _ _ _ _ 46 (0, 0) hnew, cell_of_row _ _ _ _ 46 (0, 0) hnew⟩
  unfold AgTold
  clear hq hp hnew
  go_enter Tryd.func24, Tryd.ntmps24
  go_wp2
  generalize W.alloc (.cells #[.int .i64 s.p, .int .i64 s.k, .int .i64 s.m] 46) = W1 at *
  have HSz : Hid (W.heap.size < W1.heap.size) := World.block_lt_of_cell? W1 _ HSb.out.1
  clear hB hx1 hx2 hlt
  go_loopw [5, 13] (fun v i wr => ∃ (k m : Nat), k ≤ hl.length ∧ v = .int .u64 (m : Int) ∧ i = .int .i64 k ∧ m < 256 ∧ (∀ u, u < 8 → m.testBit u = agN (hl.take k) s u) ∧ Below W1.heap.size W1 wr) (fun _ i _ => hl.length - (intOf i).toNat)
  case atStart => exact ⟨0, 0, Nat.zero_le _, rfl, rfl, by decide, fun u _ => by simp [agN], Below.refl _ _⟩
  case round =>
    obtain ⟨k, m, hk, rfl, rfl, hm, hbits, hb⟩ := hrel
    have HBt := hideIt hbits
    have HB := hideIt hb
    clear hbits hb
    by_cases hin : k < hl.length
    · obtain ⟨gs, os, rfl, hgs, hst⟩ : ∃ g o, a = some ⟨g, o, none⟩ ∧ g < W.heap.size ∧ StpsAt W g o hl := by
        rcases HQ.out with e | e
        · rw [e] at hin; simp at hin
        · exact e
      obtain ⟨s0, s1, s2⟩ := ((hst k hin).below hgs HB0.out).below (Nat.lt_trans hgs HSz.out) HB.out
      obtain ⟨b0, b1, b2⟩ := HSb.out.below HSz.out HB.out
      have HSu := hideIt (fun u => agN_succ hin s u)
      obtain ⟨d0, d7⟩ := HP.out _ (List.getElem_mem hin)
      clear hst
      generalize hl[k] = d at s0 s1 s2 HSu d0 d7
      obtain ⟨dp, dk, dm⟩ := d
      obtain ⟨sp, sk, sm⟩ := s
      dsimp only at s0 s1 s2 b0 b1 b2 d0 d7
      obtain ⟨v, rfl⟩ : ∃ v : Nat, dp = (v : Int) := ⟨dp.toNat, by omega⟩
      have hv : v < 8 := by omega
      have HBd := hideIt (belA HB.out (.cells #[.int .i64 (v : Int), .int .i64 dk, .int .i64 dm] 46))
      have hgw : gs < wr.heap.size := Nat.lt_of_lt_of_le (Nat.lt_trans hgs HSz.out) HB.out.size
      have hgW : W.heap.size < wr.heap.size := Nat.lt_of_lt_of_le HSz.out HB.out.size
      have hx1 : ¬ gs = wr.heap.size := by omega
      have hx2 : ¬ wr.heap.size = gs := by omega
      have hx3 : ¬ W.heap.size = wr.heap.size := by omega
      have hx4 : ¬ wr.heap.size = W.heap.size := by omega
      have hkl : (k : Int) < (hl.length : Int) := by omega
      have HW := hideIt (with_any m v (wr.alloc (.cells #[.int .i64 (v : Int), .int .i64 dk, .int .i64 dm] 46)) hm hv)
      clear HB d0 d7
      have HNo : Hid (agD ⟨(v : Int), dk, dm⟩ ⟨sp, sk, sm⟩ = false → ∀ u, u < 8 → m.testBit u = agN (hl.take (k + 1)) ⟨sp, sk, sm⟩ u) := fun h u hu => by
        rw [HSu.out, h, HBt.out u hu]; simp
      have HYe : Hid (agD ⟨(v : Int), dk, dm⟩ ⟨sp, sk, sm⟩ = true → ∀ u, u < 8 → (m ||| 2 ^ v).testBit u = agN (hl.take (k + 1)) ⟨sp, sk, sm⟩ u) := fun h u hu => by
        rw [HSu.out, h, or_bit, HBt.out u hu]
        congr 1
        by_cases e : v = u
        · subst e; simp
        · have : ¬ (v : Int) = (u : Int) := by omega
          simp [e, this]
      clear HBt HSu
      by_cases c1 : (v : Int) = sp
      · have h1 : ((v : Int) != sp) = false := by simp [c1]
        have R1 := hideIt (HNo.out (by unfold agD; simp [c1]))
        clear c1 HNo HYe
        go_wp2
        go_roundw
        case rel => exact ⟨k + 1, m, by omega, rfl, by go_num, hm, R1.out, HBd.out⟩
        case measure => simp [intOf]; omega
      · have h1 : ((v : Int) != sp) = true := by simp [c1]
        by_cases c2 : dm = sm
        · have h2 : (dm == sm) = true := by simp [c2]
          by_cases c3 : dk = 2
          · have h3 : (dk == 2) = true := by simp [c3]
            have R1 := hideIt (HYe.out (by unfold agD; simp [c1, c2, c3]))
            clear c1 c2 c3 HNo HYe
            go_wp2_with fail
            refine HW.out.mono ?_
            rintro e w1 ⟨rfl, rfl⟩
            go_wp2
            go_roundw
            case rel => exact ⟨k + 1, _, by omega, rfl, by go_num, or_lt hm hv, R1.out, HBd.out⟩
            case measure => simp [intOf]; omega
          · have h3 : (dk == 2) = false := by simp [c3]
            by_cases c4 : sk = 2
            · have h4 : (sk == 2) = true := by simp [c4]
              have R1 := hideIt (HYe.out (by unfold agD; simp [c1, c2, c4]))
              clear c1 c2 c3 c4 HNo HYe
              go_wp2_with fail
              refine HW.out.mono ?_
              rintro e w1 ⟨rfl, rfl⟩
              go_wp2
              go_roundw
              case rel => exact ⟨k + 1, _, by omega, rfl, by go_num, or_lt hm hv, R1.out, HBd.out⟩
              case measure => simp [intOf]; omega
            · have h4 : (sk == 2) = false := by simp [c4]
              have R1 := hideIt (HNo.out (by unfold agD; simp [c3, c4]))
              clear c1 c2 c3 c4 HNo HYe
              go_wp2
              go_roundw
              case rel => exact ⟨k + 1, m, by omega, rfl, by go_num, hm, R1.out, HBd.out⟩
              case measure => simp [intOf]; omega
        · have h2 : (dm == sm) = false := by simp [c2]
          have R1 := hideIt (HNo.out (by unfold agD; simp [c2]))
          clear c1 c2 HNo HYe
          go_wp2
          go_roundw
          case rel => exact ⟨k + 1, m, by omega, rfl, by go_num, hm, R1.out, HBd.out⟩
          case measure => simp [intOf]; omega
    · obtain rfl : k = hl.length := by omega
      rw [List.take_length] at HBt
      have hkl : ¬ (hl.length : Int) < (hl.length : Int) := by omega
      go_wp2
      go_ret
      exact ⟨⟨m, hm, rfl, HBt.out⟩, HB0.out.trans (HB.out.mono (Nat.le_of_lt HSz.out))⟩

/-- What take leaves. -/
theorem take_step {w0 W : World} {n : Nat} {p : List (List Stp)} {k : RunB} {hl dn : List Stp} {ov : Nat → Bool} {pos : Nat → Nat} {q : Nat} {g : Nat → Nat} {cnt : Nat → Nat} {vic : List Nat} {vh vd vv : Value} (h : RunM w0 n p k W hl dn ov pos q g cnt vic vh vd vv) (hl0 : hl.length ≤ 500) (s : Stp) :
    ∃ va vc va' vc' W1, vh = .slice va hl.length vc ∧ (Builtin.append_ #[26, 26] 26 #[.slice va hl.length vc, .slice (some ⟨W.heap.size + 1, 0, none⟩) 1 1]).run Tryd.prog (((W.alloc (.cells #[.int .i64 s.p, .int .i64 s.k, .int .i64 s.m] 46)).alloc (.cells #[.int .i64 s.p, .int .i64 s.k, .int .i64 s.m] 46)).drew) = .ok (.slice va' (hl.length + 1) vc') W1 ∧
      RunM w0 n p k (W1.setCell ⟨k.B, 0, none⟩ (.slice va' (hl.length + 1) vc')) (hl ++ [s]) dn ov pos q g cnt vic (.slice va' (hl.length + 1) vc') vd vv ∧ W1.cell? ⟨k.B, 0, none⟩ = some (.slice va hl.length vc) ∧ W1.frozen? ⟨k.B, 0, none⟩ = false ∧
      ∀ b, b < W.heap.size → b ≠ k.B → vh.ownBlock ≠ some b → (W1.setCell ⟨k.B, 0, none⟩ (.slice va' (hl.length + 1) vc')).heap[b]? = W.heap[b]? := by
  have hh := h.below (belA (belA (Below.refl _ _) (.cells #[.int .i64 s.p, .int .i64 s.k, .int .i64 s.m] 46)) (.cells #[.int .i64 s.p, .int .i64 s.k, .int .i64 s.m] 46)).drew
  have hnew := heap_alloc_new (W.alloc (.cells #[.int .i64 s.p, .int .i64 s.k, .int .i64 s.m] 46)) (.cells #[.int .i64 s.p, .int .i64 s.k, .int .i64 s.m] 46)
  rw [show (W.alloc (.cells #[.int .i64 s.p, .int .i64 s.k, .int .i64 s.m] 46)).heap.size = W.heap.size + 1 by simp] at hnew
  generalize hZ : ((W.alloc (.cells #[.int .i64 s.p, .int .i64 s.k, .int .i64 s.m] 46)).alloc (.cells #[.int .i64 s.p, .int .i64 s.k, .int .i64 s.m] 46)) = Z at hh hnew ⊢
  have hsz : Z.drew.heap.size = W.heap.size + 2 := by rw [← hZ]; simp [World.drew]
  have hold : ∀ b, b < W.heap.size → Z.drew.heap[b]? = W.heap[b]? := fun b hb => by
    rw [← hZ]
    exact (Below.heap_alloc _ _ b (by simp; omega)).trans (Below.heap_alloc _ _ b hb)
  have hnew' : Z.drew.heap[W.heap.size + 1]? = some (.cells #[.int .i64 s.p, .int .i64 s.k, .int .i64 s.m] 46 (0, 0)) := hnew
  have hSA : StpAt Z.drew (W.heap.size + 1) 0 s := ⟨cell_of_row _ _ _ _ 46 (0, 0) hnew', cell_of_row _ _ _ _ 46 (0, 0) hnew', cell_of_row _ _ _ _ 46 (0, 0) hnew'⟩
  have hs0 := h.size
  obtain ⟨va, vc, rfl⟩ := ownsRow_slice h.held
  obtain ⟨v', W1, hr, ho, hg, hv⟩ := run_appH hh.held hSA (by omega) (by omega) 26
  obtain ⟨va', vc', rfl⟩ := ownsRow_slice ho
  obtain ⟨t1, _⟩ := hh.tags
  have hB : W1.heap[k.B]? = _ := (hg.block _ hh.lt fun e => ne_tag (own_tag hh.held e.symm) t1 (by decide) rfl).trans hh.blk
  unfold runO at hB
  refine ⟨va, vc, va', vc', W1, rfl, hr, hh.putH (hl' := hl ++ [s]) (by simpa using ho) hg (hv.imp id fun e => ⟨_, e, Nat.le_refl _⟩), ?_, frozen_of_row _ _ _ _ 66 hB, fun b hb h1 h2 => (grown_run hg rfl b (by omega) h1 (fun e => h2 e.symm)).trans (hold b hb)⟩
  rw [cell_of_row _ _ _ _ 66 _ hB]
  rfl

set_option maxRecDepth 100000 in
set_option maxHeartbeats 4000000 in
theorem take_any {w0 W : World} {n : Nat} {p : List (List Stp)} {k : RunB} {hl dn : List Stp} {ov : Nat → Bool} {pos : Nat → Nat} {q : Nat} {g : Nat → Nat} {cnt : Nat → Nat} {vic : List Nat} {vh vd vv : Value} (h : RunM w0 n p k W hl dn ov pos q g cnt vic vh vd vv) (hl0 : hl.length ≤ 500) (s : Stp) :
    Calls Tryd.prog 26 #[.pointer (some ⟨k.B, 0, none⟩), .agg #[.int .i64 s.p, .int .i64 s.k, .int .i64 s.m]] W fun e W' => e = .returned (.tuple #[]) ∧ (∃ vh', RunM w0 n p k W' (hl ++ [s]) dn ov pos q g cnt vic vh' vd vv) ∧ ∀ b, b < W.heap.size → b ≠ k.B → vh.ownBlock ≠ some b → W'.heap[b]? = W.heap[b]? := by
  obtain ⟨va, vc, va', vc', W1, rfl, hr, h1, d0, d1, hk⟩ := take_step h hl0 s
  have HK := hideIt hk
  have HR := hideIt hr
  have H1 := hideIt h1
  have c0 := h.cells.1
  have hlt := h.lt
  have hx1 : ¬ k.B = W.heap.size := by omega
  have hx2 : ¬ W.heap.size = k.B := by omega
  have hx3 : ¬ k.B = W.heap.size + 1 := by omega
  have hx4 : ¬ W.heap.size + 1 = k.B := by omega
  clear h hr h1 hk
  go_enter Tryd.func26, Tryd.ntmps26
  go_wp2
  go_region_law (refine step_append_run (by rfl) _ _ 26 (by rfl) _ _ _ W1 (by rfl) (by rfl) HR.out ?_)
  all_goals go_wp2
  all_goals go_end0
  all_goals exact ⟨rfl, ⟨_, H1.out⟩, HK.out⟩
end Go.Proofs.YthmiocbihhbdpaaDoor
