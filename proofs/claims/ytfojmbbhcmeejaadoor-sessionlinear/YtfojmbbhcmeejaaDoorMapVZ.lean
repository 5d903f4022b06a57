/-
  A map from ints in memory, whatever its elements: what it tells of each key; walking over it in whatever order.
  The statement EventJudges walked: whatever the ops, true.
  Packages zone's and queue's hasForm and Check, walked.
  Package queue's hasForm and Check, walked.
  A map from a key and a value (two numbers) to numbers, in memory: what it tells of each; look and store at the operation.
  Package causal's hasForm, writersOf and Check, walked.
  Rows of bools in memory: a matrix that is one's own.
  Package causal's lead (Warshall's passes), walked.
  Package causal's source and thin, walked.
-/
import Derived.Test.YtfojmbbhcmeejaaDoorZnPZ
import Derived.Maps.RangeWalk
import Derived.Test.YtfojmbbhcmeejaaDoorRefB
import Derived.Test.YtfojmbbhcmeejaaDoorAsZ
import Derived.Deep.RegionHeld3
import Derived.Maps.OwnOps
import Derived.DeepKeys4
import Derived.Test.YtfojmbbhcmeejaaDoorRowS
import Derived.Laws.MakeOwn
namespace Go.Proofs.YtfojmbbhcmeejaaDoor
open Go.RowKit
open Go.Maps (Keyed int_keyed IsMap)

/-- How an element reads: as itself. -/
def heldR (v : Value) : Option (DataW Value × List MemPlace) := some (.held v, [])

structure TellsV {β : Type} (mk : β → Value) (D : DataW Value) (f : Int → Option β) : Prop where
  has : ∀ q : Int, Maps.has D (.int .i64 q) = (f q).isSome
  at_ : ∀ q b, f q = some b → ∀ z, D.atKey (.int .i64 q) z = .held (mk b)

/-- Block M is a map that tells f. -/
def MapV (P : Program) {β : Type} (mk : β → Value) (w : World) (M n : Nat) (f : Int → Option β) : Prop :=
  ∃ D : DataW Value, w.ownsMap P 3 heldR M n D ∧ TellsV mk D f

/-- A walk over it under way: block r is the iterator; left: what is still to come. -/
def RangeV (P : Program) {β : Type} (mk : β → Value) (w : World) (M r n : Nat) (f : Int → Option β) (left : Int → Bool) : Prop :=
  ∃ (D : DataW Value) (lf : Lit → Bool) (cnt : Nat), w.ranges P 3 heldR M r n D lf cnt ∧ TellsV mk D f ∧ (∀ q : Int, lf (.int .i64 q) = left q) ∧ ∀ q, left q = true → (f q).isSome = true

theorem isKeyV (p : Int) : WideAt.IsKeyLit (.int .i64 p) := by simp [WideAt.IsKeyLit]
theorem keyNe {p q : Int} (h : q ≠ p) : (Lit.int .i64 q) ≠ .int .i64 p := fun k => h (by simpa using k)
theorem sameV (q x : Int) : (Lit.int .i64 q).sameKey (.int .i64 x) = decide (q = x) := by
  by_cases h : q = x
  · subst h
    simp [Lit.sameKey]
  · rw [Maps.sameKey_ne (keyNe h)]
    simp [h]

section
variable {P : Program} {β : Type} {mk : β → Value} {w : World} {M n : Nat} {f : Int → Option β}

theorem MapV.kept {w' : World} {row : Option Nat} (h : MapV P mk w M n f) (hg : w.grownBy w' row) (hne : some M ≠ row) : MapV P mk w' M n f := by
  obtain ⟨D, h1, h2⟩ := h
  exact ⟨D, h1.kept hg hne, h2⟩
theorem MapV.mono {n' : Nat} (h : MapV P mk w M n f) (hn : n ≤ n') : MapV P mk w M n' f := by
  obtain ⟨D, h1, h2⟩ := h
  exact ⟨D, h1.mono hn, h2⟩
theorem MapV.alloc (h : MapV P mk w M n f) (o : Obj) : MapV P mk (w.alloc o) M n f := h.kept (World.grownBy_alloc w o none) (by simp)
theorem MapV.drew (h : MapV P mk w M n f) : MapV P mk w.drew M n f := by
  obtain ⟨D, h1, h2⟩ := h
  exact ⟨D, h1.drew, h2⟩
theorem MapV.lt (h : MapV P mk w M n f) : M < w.heap.size := by
  obtain ⟨D, h1, _⟩ := h
  exact h1.lt
theorem MapV.below {B : Nat} {w' : World} (h : MapV P mk w M n f) (hb : Below B w w') (hM : M < B) : MapV P mk w' M n f := by
  obtain ⟨D, ⟨es, clock, hb1, F, hs, hD⟩, h2⟩ := h
  exact ⟨D, ⟨es, clock, (hb.block M hM).trans hb1, F, hs, hD⟩, h2⟩
theorem mapV_made (w : World) (P : Program) (mk : β → Value) : MapV P mk (w.alloc (.map #[] 0)) w.heap.size 0 (fun _ => none) :=
  ⟨_, World.ownsMap_made w P 3 heldR, fun _ => rfl, fun _ _ h => by cases h⟩

variable (h3 : P.underlying 3 = some (.int .i64))
include h3

theorem MapV.look {t e : TypeId} (h : MapV P mk w M n f) (ht : P.underlying t = some (.map 3 e)) {z : Value} (hz : (zeroValue e).run P w = .ok z w) {q : Int} (hq : (Lit.int .i64 q).wf = true) :
    ∃ v, (Instr.lookup t (.map (some M)) (.int .i64 q) true).run P w = .ok (.tuple #[v, .bool (f q).isSome]) w ∧ ∀ b, f q = some b → v = mk b := by
  obtain ⟨D, h1, h2⟩ := h
  obtain ⟨v, ps, hrun, hv⟩ := h1.look_ok (int_keyed h3) ht hz (zd := .held z) (zp := []) rfl (Go.Maps.keyOf_int_mk h3 hq)
  refine ⟨v, by rw [← h2.has q]; exact hrun, fun b hb => ?_⟩
  rw [h2.at_ q b hb] at hv
  have := congrArg Prod.fst (Option.some.inj hv)
  exact DataW.held.inj this

theorem MapV.look_none {t e : TypeId} (h : MapV P mk w M n f) (ht : P.underlying t = some (.map 3 e)) {z : Value} (hz : (zeroValue e).run P w = .ok z w) {q : Int} (hq : (Lit.int .i64 q).wf = true) (hf : f q = none) :
    (Instr.lookup t (.map (some M)) (.int .i64 q) true).run P w = .ok (.tuple #[z, .bool false]) w := by
  obtain ⟨D, h1, h2⟩ := h
  obtain ⟨v, ps, hrun, hv⟩ := h1.look_ok (int_keyed h3) ht hz (zd := .held z) (zp := []) rfl (Go.Maps.keyOf_int_mk h3 hq)
  have hno : Maps.has D (.int .i64 q) = false := by rw [h2.has q, hf]; rfl
  rw [Maps.atKey_of_not_has hno] at hv
  have := DataW.held.inj (congrArg Prod.fst (Option.some.inj hv))
  subst this
  rw [hno] at hrun
  exact hrun

theorem MapV.store {t e : TypeId} (h : MapV P mk w M n f) (ht : P.underlying t = some (.map 3 e)) (hn : n < 1000) {q : Int} (hq : (Lit.int .i64 q).wf = true) (b : β) :
    ∃ w', (Instr.mapUpdate t (.map (some M)) (.int .i64 q) (mk b)).run P w = .ok () w' ∧ MapV P mk w' M (n + 1) (putK f q (some b)) ∧ w.grownBy w' (some M) := by
  obtain ⟨D, h1, h2⟩ := h
  obtain ⟨w', hrun, ho, ht'⟩ := h1.store (val := mk b) (int_keyed h3) ht (by unfold maxLen; omega) (Go.Maps.keyOf_int_mk h3 hq) (d := .held (mk b)) (ps := []) rfl
  refine ⟨w', hrun, ⟨_, ho, fun p => ?_, fun p c hc z => ?_⟩, ht'.grown⟩
  · by_cases e : p = q
    · subst e; rw [putK_same, Maps.has_put_same h1.isMap (isKeyV p)]; rfl
    · rw [putK_other _ _ _ _ e, Maps.has_put_other (keyNe e)]; exact h2.has p
  · by_cases e : p = q
    · subst e; rw [putK_same] at hc; obtain rfl := Option.some.inj hc; exact Maps.atKey_put_same h1.isMap (isKeyV p) _ z
    · rw [putK_other _ _ _ _ e] at hc; rw [Maps.atKey_put_other (keyNe e)]; exact h2.at_ p c hc z

omit h3 in
theorem RangeV.map {r : Nat} {left : Int → Bool} (h : RangeV P mk w M r n f left) : MapV P mk w M n f := by
  obtain ⟨D, lf, cnt, h1, h2, _⟩ := h
  exact ⟨D, h1.owns, h2⟩
omit h3 in
theorem RangeV.kept {r : Nat} {left : Int → Bool} {w' : World} {row : Option Nat} (h : RangeV P mk w M r n f left) (hg : w.grownBy w' row) (hb : some M ≠ row) (hr : some r ≠ row) : RangeV P mk w' M r n f left := by
  obtain ⟨D, lf, cnt, h1, h2⟩ := h
  exact ⟨D, lf, cnt, h1.kept hg hb hr, h2⟩
omit h3 in
theorem RangeV.ltr {r : Nat} {left : Int → Bool} (h : RangeV P mk w M r n f left) : r < w.heap.size := by
  obtain ⟨D, lf, cnt, h1, _⟩ := h
  exact h1.lt
omit h3 in
theorem RangeV.ne {r : Nat} {left : Int → Bool} (h : RangeV P mk w M r n f left) : r ≠ M := by
  obtain ⟨D, lf, cnt, h1, _⟩ := h
  exact h1.ne
omit h3 in
theorem RangeV.count {r : Nat} {left : Int → Bool} {w' : World} {row : Option Nat} (h : RangeV P mk w M r n f left) (hg : w.grownBy w' row) (hb : some M ≠ row) (hr : some r ≠ row) : w'.rangeLeft M r = w.rangeLeft M r := by
  obtain ⟨D, lf, cnt, h1, h2⟩ := h
  rw [h1.left_eq, (h1.kept hg hb hr).left_eq]

theorem MapV.range {t e : TypeId} (h : MapV P mk w M n f) (ht : P.underlying t = some (.map 3 e)) :
    ∃ w', (Instr.range t (.map (some M))).run P w = .ok (.pointer (some ⟨w.heap.size, 0, none⟩)) w' ∧ RangeV P mk w' M w.heap.size n f (fun q => (f q).isSome) ∧ w.grownBy w' none ∧ w'.heap.size = w.heap.size + 1 ∧ w'.rangeLeft M w.heap.size ≤ n := by
  obtain ⟨D, h1, h2⟩ := h
  obtain ⟨w', hrun, hr, hg, hs⟩ := h1.range (int_keyed h3) ht
  exact ⟨w', hrun, ⟨D, _, _, hr, h2, h2.has, fun q hq => hq⟩, hg, hs, by rw [hr.left_eq]; exact h1.size_le⟩

theorem RangeV.next {r : Nat} {left : Int → Bool} (h : RangeV P mk w M r n f left) (ty : TypeId) :
    ((∀ q, left q = false) ∧ (Instr.next (.pointer (some ⟨r, 0, none⟩)) false ty).run P w = .ok (.tuple #[.bool false]) w) ∨
    ∃ (q : Int) (b : β) (w' : World), (Lit.int .i64 q).wf = true ∧ f q = some b ∧ left q = true ∧ (Instr.next (.pointer (some ⟨r, 0, none⟩)) false ty).run P w = .ok (.tuple #[.bool true, .int .i64 q, mk b]) w' ∧
      RangeV P mk w' M r n f (fun x => left x && !decide (x = q)) ∧ w'.rangeLeft M r < w.rangeLeft M r ∧ w.grownBy w' (some r) ∧ w'.heap.size = w.heap.size ∧ (Instr.entry (.pointer (some ⟨r, 0, none⟩))).run P w' = .ok (.tuple #[.int .i64 q, mk b]) w' := by
  obtain ⟨D, lf, cnt, h1, h2, h4, h5⟩ := h
  rcases h1.next (int_keyed h3) ty with ⟨_, hl, hrun⟩ | ⟨key, v, kl, y, w', cnt', hkey, hlk, hv, hat, hrun, hrg, hlt, hgr, hsz, hen⟩
  · exact .inl ⟨fun q => by rw [← h4 q]; exact hl _, hrun⟩
  · obtain ⟨x, rfl, rfl, hwf⟩ := Maps.keyOf_int_inv h3 hkey
    have hx : left x = true := by rw [← h4 x]; exact hlk
    obtain ⟨b, hb⟩ := Option.isSome_iff_exists.1 (h5 x hx)
    have e1 := (hat (.held v)).symm.trans (h2.at_ x b hb _)
    have e2 : y.1 = .held v := (congrArg Prod.fst (Option.some.inj hv)).symm
    have e3 : v = mk b := DataW.held.inj (e2.symm.trans e1)
    subst e3
    refine .inr ⟨x, b, w', hwf, hb, hx, hrun, ⟨D, _, cnt', hrg, h2, fun q => ?_, fun q hq => ?_⟩, ?_, hgr, hsz, hen⟩
    · show (lf (.int .i64 q) && !(Lit.int .i64 q).sameKey (.int .i64 x)) = _
      rw [h4 q, sameV]
    · simp at hq; exact h5 q hq.1
    · rw [h1.left_eq, hrg.left_eq]; exact hlt

end

/-! ### at the operation, for the walk -/
section
variable {P : Program} {β : Type} {mk : β → Value} (w : World) {ops : Array Oper} {rest : List Oper} {o : Oper} {a : Act} {Q : Exit → Act → World → Prop}

theorem wpList_range_v (h3 : P.underlying 3 = some (.int .i64)) (hg : o.guard = none) (m : Operand) (t : TypeId) (hop : o.op = Op.range t m) (e : TypeId) (ht : P.underlying t = some (.map 3 e)) (M n : Nat) (f : Int → Option β)
    (hm : a.eval m = .map (some M)) (h : MapV P mk w M n f)
    (hK : ∀ w', RangeV P mk w' M w.heap.size n f (fun q => (f q).isSome) → w.grownBy w' none → w'.heap.size = w.heap.size + 1 → w'.rangeLeft M w.heap.size ≤ n → wpList P ops Q rest (a.put o.dst (.pointer (some ⟨w.heap.size, 0, none⟩))) w') :
    wpList P ops Q (o :: rest) a w := by
  refine wpList_plain hg fun K' hK' => ?_
  obtain ⟨w', hrun, r1, r2, r3, r4⟩ := h.range h3 ht
  unfold Oper.wp
  simp [execOp, hop, hm, hrun, Result.andThen]
  exact hK' _ _ (hK w' r1 r2 r3 r4)

theorem wpList_next_v (h3 : P.underlying 3 = some (.int .i64)) (hg : o.guard = none) (it : Operand) (hop : o.op = Op.next it false) (M r n : Nat) (f : Int → Option β) (left : Int → Bool)
    (hit : a.eval it = .pointer (some ⟨r, 0, none⟩)) (h : RangeV P mk w M r n f left)
    (hDone : (∀ q, left q = false) → wpList P ops Q rest (a.put o.dst (.tuple #[.bool false])) w)
    (hMore : ∀ (q : Int) (b : β) (w' : World), (Lit.int .i64 q).wf = true → f q = some b → left q = true → RangeV P mk w' M r n f (fun x => left x && !decide (x = q)) → w'.rangeLeft M r < w.rangeLeft M r →
      w.grownBy w' (some r) → w'.heap.size = w.heap.size → (Instr.entry (.pointer (some ⟨r, 0, none⟩))).run P w' = .ok (.tuple #[.int .i64 q, mk b]) w' → wpList P ops Q rest (a.put o.dst (.tuple #[.bool true, .int .i64 q, mk b])) w') :
    wpList P ops Q (o :: rest) a w := by
  refine wpList_plain hg fun K' hK' => ?_
  unfold Oper.wp
  rcases h.next h3 o.type with ⟨hl, hrun⟩ | ⟨q, b, w', hwf, hb, hx, hrun, hrg, hlt, hgr, hsz, hen⟩
  · simp [execOp, hop, hit, hrun, Result.andThen]
    exact hK' _ _ (hDone hl)
  · simp [execOp, hop, hit, hrun, Result.andThen]
    exact hK' _ _ (hMore q b w' hwf hb hx hrg hlt hgr hsz hen)

theorem wpList_store_v (h3 : P.underlying 3 = some (.int .i64)) (hg : o.guard = none) (m x v : Operand) (t : TypeId) (hop : o.op = Op.mapUpdate t m x v) (e : TypeId) (ht : P.underlying t = some (.map 3 e)) (M n : Nat) (f : Int → Option β)
    (hm : a.eval m = .map (some M)) (h : MapV P mk w M n f) (hn : n < 1000) (q : Int) (hx : a.eval x = .int .i64 q) (hq : (Lit.int .i64 q).wf = true) (b : β) (hv : a.eval v = mk b)
    (hK : ∀ w', MapV P mk w' M (n + 1) (putK f q (some b)) → w.grownBy w' (some M) → wpList P ops Q rest (a.put o.dst undef) w') :
    wpList P ops Q (o :: rest) a w := by
  refine wpList_plain hg fun K' hK' => ?_
  obtain ⟨w', hrun, r1, r2⟩ := h.store h3 ht hn hq b
  unfold Oper.wp
  simp [execOp, hop, hm, hx, hv, hrun, Result.andThen]
  exact hK' _ _ (hK w' r1 r2)

theorem wpList_insert_v (h3 : P.underlying 3 = some (.int .i64)) (hg : o.guard = none) (m x v : Operand) (t : TypeId) (hop : o.op = Op.insert t m x v) (e : TypeId) (ht : P.underlying t = some (.map 3 e)) (M n : Nat) (f : Int → Option β)
    (hm : a.eval m = .map (some M)) (h : MapV P mk w M n f) (hn : n < 1000) (q : Int) (hx : a.eval x = .int .i64 q) (hq : (Lit.int .i64 q).wf = true) (b : β) (hv : a.eval v = mk b)
    (hK : ∀ w', MapV P mk w' M (n + 1) (putK f q (some b)) → w.grownBy w' (some M) → wpList P ops Q rest (a.put o.dst undef) w') :
    wpList P ops Q (o :: rest) a w := by
  refine wpList_plain hg fun K' hK' => ?_
  obtain ⟨w', hrun, r1, r2⟩ := h.store h3 ht hn hq b
  unfold Oper.wp
  simp [execOp, hop, hm, hx, hv, hrun, Result.andThen]
  exact hK' _ _ (hK w' r1 r2)

theorem wpList_look_some {t e : TypeId} (h3 : P.underlying 3 = some (.int .i64)) (hg : o.guard = none) (m x : Operand) (hop : o.op = Op.lookup t m x true) (ht : P.underlying t = some (.map 3 e)) (M n : Nat) (f : Int → Option β)
    {z : Value} (hz : (zeroValue e).run P w = .ok z w) (hm : a.eval m = .map (some M)) (h : MapV P mk w M n f) (q : Int) (hx : a.eval x = .int .i64 q) (hq : (Lit.int .i64 q).wf = true) (b : β) (hf : f q = some b)
    (hK : wpList P ops Q rest (a.put o.dst (.tuple #[mk b, .bool true])) w) :
    wpList P ops Q (o :: rest) a w := by
  refine wpList_plain hg fun K' hK' => ?_
  obtain ⟨v, hrun, hv⟩ := h.look h3 ht hz hq
  obtain rfl := hv b hf
  rw [hf] at hrun
  unfold Oper.wp
  simp [execOp, hop, hm, hx, hrun, Result.andThen]
  exact hK' _ _ hK

theorem wpList_look_none {t e : TypeId} (h3 : P.underlying 3 = some (.int .i64)) (hg : o.guard = none) (m x : Operand) (hop : o.op = Op.lookup t m x true) (ht : P.underlying t = some (.map 3 e)) (M n : Nat) (f : Int → Option β)
    {z : Value} (hz : (zeroValue e).run P w = .ok z w) (hm : a.eval m = .map (some M)) (h : MapV P mk w M n f) (q : Int) (hx : a.eval x = .int .i64 q) (hq : (Lit.int .i64 q).wf = true) (hf : f q = none)
    (hK : wpList P ops Q rest (a.put o.dst (.tuple #[z, .bool false])) w) :
    wpList P ops Q (o :: rest) a w := by
  refine wpList_plain hg fun K' hK' => ?_
  have hrun := h.look_none h3 ht hz hq hf
  unfold Oper.wp
  simp [execOp, hop, hm, hx, hrun, Result.andThen]
  exact hK' _ _ hK

end

end Go.Proofs.YtfojmbbhcmeejaaDoor

namespace Go.Proofs.YtfojmbbhcmeejaaDoor
open Go.RowKit

theorem globB {W w1 : World} {x : Value} (hb : Below W.heap.size W w1) (h : W.cell? ⟨1, 0, none⟩ = some x) : w1.cell? ⟨1, 0, none⟩ = some x :=
  (hb.cell (p := ⟨1, 0, none⟩) (World.block_lt_of_cell? W ⟨1, 0, none⟩ h)).trans h

set_option maxHeartbeats 400000 in
theorem checkOps_none (a : Option Addr) (cap : Nat) (w : World) : Calls Tryd.prog 48 #[.slice a 0 cap] w fun e w' => e = .returned (toldV 0) ∧ w' = w := by
  rw [toldV_zero]
  go_enter Tryd.func48, Tryd.ntmps48
  go_wp2
  refine wp_loop_rounds 1 ?_
  rw [rounds_succ]
  go_wp2
  go_ret
  exact ⟨rfl, rfl⟩

set_option maxRecDepth 100000 in
set_option maxHeartbeats 400000 in
theorem opsCheck_none (a : Option Addr) (cap : Nat) (w : World) : Calls Tryd.prog 25 #[.slice a 0 cap] w fun e w' => e = .returned (.int .i64 0) ∧ w' = w := by
  go_enter Tryd.func25, Tryd.ntmps25
  go_wp2
  refine wp_loop_rounds 1 ?_
  rw [rounds_succ]
  go_wp2
  go_ret
  exact ⟨rfl, rfl⟩

end Go.Proofs.YtfojmbbhcmeejaaDoor

namespace Go.Proofs.YtfojmbbhcmeejaaDoor
open Go.RowKit

/-- Who brought which value so far. -/
def wrs (d0 : Int) (l : List Opn) : Nat → Int → Option Int
  | 0 => fun _ => none
  | k + 1 => if (opZ l k).d = d0 then putK (wrs d0 l k) (opZ l k).a (some (k : Int)) else wrs d0 l k
theorem wrs_any (d0 : Int) (l : List Opn) : ∀ k, k ≤ l.length → ∀ v, (wrs d0 l k v).isSome = (l.take k).any (fun y => y.d == d0 && y.a == v)
  | 0, _, v => by simp [wrs]
  | k + 1, hk, v => by
    have ih := wrs_any d0 l k (by omega) v
    rw [List.take_succ_eq_append_getElem (by omega : k < l.length), List.any_append, ← ih, ← opZ_at (by omega : k < l.length)]
    have hw : wrs d0 l (k + 1) = if (opZ l k).d = d0 then putK (wrs d0 l k) (opZ l k).a (some (k : Int)) else wrs d0 l k := rfl
    rw [hw]
    by_cases hd : (opZ l k).d = d0
    · rw [if_pos hd]
      by_cases hv : v = (opZ l k).a
      · rw [← hv, putK_same]; simp [hd, hv]
      · rw [putK_other _ _ _ _ hv]; simp [hd, Ne.symm hv]
    · rw [if_neg hd]; simp [hd]

theorem told_num {l : List Opn} (h : Told l 0) (j : Nat) (hj : j < l.length) :
    ((-1000000 ≤ (opZ l j).a ∧ (opZ l j).a ≤ 1000000) ∧ (-1000000 ≤ (opZ l j).r ∧ (opZ l j).r ≤ 1000000)) ∧ (-1000000 ≤ (opZ l j).c ∧ (opZ l j).c ≤ 1000000) ∧ (-1000000 ≤ (opZ l j).e ∧ (opZ l j).e ≤ 1000000) := by
  have h1 := (opFault0 ((toldNil h).2 j hj)).1
  simp [rangeB, inB, numB] at h1
  omega

theorem cFault_form {form : Opn → Bool} {d0 : Int} {l : List Opn} {k : Nat} (h : ¬ ((opZ l k).k = (opZ l 0).k ∧ form (opZ l k) = true)) : cFaultAt form d0 l k = 3 := by
  unfold cFaultAt cFaultN
  rw [if_neg (by simpa using h)]
theorem cFault_other {form : Opn → Bool} {d0 : Int} {l : List Opn} {k : Nat} (h1 : (opZ l k).k = (opZ l 0).k) (h2 : form (opZ l k) = true) (h3 : (opZ l k).d ≠ d0) : cFaultAt form d0 l k = 0 := by
  unfold cFaultAt cFaultN
  rw [if_pos (by simp [h1, h2]), if_neg (by simp [h3])]
theorem cFault_twice {form : Opn → Bool} {d0 : Int} {l : List Opn} {k : Nat} (hk : k ≤ l.length) (h1 : (opZ l k).k = (opZ l 0).k) (h2 : form (opZ l k) = true) (h3 : (opZ l k).d = d0) (h4 : (wrs d0 l k (opZ l k).a).isSome = true) : cFaultAt form d0 l k = 9 := by
  rw [wrs_any d0 l k hk] at h4
  unfold cFaultAt cFaultN
  rw [if_pos (by simp [h1, h2]), if_pos (by rw [h4]; simp [h3])]
theorem cFault_first {form : Opn → Bool} {d0 : Int} {l : List Opn} {k : Nat} (hk : k ≤ l.length) (h1 : (opZ l k).k = (opZ l 0).k) (h2 : form (opZ l k) = true) (h4 : (wrs d0 l k (opZ l k).a).isSome = false) : cFaultAt form d0 l k = 0 := by
  rw [wrs_any d0 l k hk] at h4
  unfold cFaultAt cFaultN
  rw [if_pos (by simp [h1, h2]), if_neg (by rw [h4]; simp)]
theorem cTold_err {form : Opn → Bool} {d0 : Int} {l : List Opn} {m : Int} (h : Told l m) (hm : m ≠ 0) : CTold form d0 l m := ⟨m, h, .inl ⟨hm, rfl⟩⟩
theorem cTold_at {form : Opn → Bool} {d0 : Int} {l : List Opn} (h : Told l 0) {k : Nat} (hk : k < l.length) (ha : ∀ j, j < k → cFaultAt form d0 l j = 0) {n : Int} (hn : cFaultAt form d0 l k = n) (h0 : n ≠ 0) : CTold form d0 l n :=
  ⟨0, h, .inr ⟨rfl, .inr ⟨k, hk, ha, by rw [hn]; exact h0, hn.symm⟩⟩⟩
theorem cTold_all {form : Opn → Bool} {d0 : Int} {l : List Opn} (h : Told l 0) (ha : ∀ j, j < l.length → cFaultAt form d0 l j = 0) : CTold form d0 l 0 := ⟨0, h, .inr ⟨rfl, .inl ⟨ha, rfl⟩⟩⟩
theorem fine_succ {f : Nat → Int} {k : Nat} (ha : ∀ j, j < k → f j = 0) (h : f k = 0) : ∀ j, j < k + 1 → f j = 0 := fun j hj => by
  by_cases e : j = k
  · subst e; exact h
  · exact ha j (by omega)

theorem ret_boolZ {a b : Bool} (h : a = b) : Ending.returned (.bool a) = .returned (.bool b) := by rw [h]

theorem zeroInt (w : World) : (zeroValue 3).run Tryd.prog w = .ok (.int .i64 0) w := by kernel_rfl

end Go.Proofs.YtfojmbbhcmeejaaDoor

namespace Go.Proofs.YtfojmbbhcmeejaaDoor
open Go.RowKit

/-- Ops that came in, or none. -/
def OpsQ (w : World) (a : Option Addr) (l : List Opn) : Prop := l = [] ∨ ∃ b off, a = some ⟨b, off, none⟩ ∧ b < w.heap.size ∧ OpsAt w b off l
theorem OpsQ.below {w w' : World} {a : Option Addr} {l : List Opn} (h : OpsQ w a l) (hb : Below w.heap.size w w') : OpsQ w' a l := by
  rcases h with h | ⟨b, off, rfl, hlt, h⟩
  · exact .inl h
  · exact .inr ⟨b, off, rfl, Nat.lt_of_lt_of_le hlt hb.size, h.below hlt hb⟩
theorem told_nilQ : Told [] 0 := .inr (.inl ⟨by simp, fun j h => absurd h (by simp), rfl⟩)

end Go.Proofs.YtfojmbbhcmeejaaDoor

namespace Go.Proofs.YtfojmbbhcmeejaaDoor
open Go.RowKit Go.WideMaps
open Go.Maps (Keyed IsMap)

/-- A key and a value, as a spot. -/
def spotV (q v : Int) : Value := .agg #[.int .i64 q, .int .i64 v]

theorem rowSpot : (86 : TypeId) < Tryd.prog.types.size := of_decide_eq_true (by kernel_rfl)
theorem cellsSpot : Tryd.prog.cellsOf 86 = 2 := by kernel_rfl
theorem cellsInt : Tryd.prog.cellsOf 3 = 1 := by kernel_rfl
theorem deepSpot : Tryd.prog.keyType 86 = true := by kernel_rfl
theorem wideSpot : (match Tryd.prog.underlying 86 with | some (.array _ _) | some (.struct _) => true | _ => false) = true := by kernel_rfl
theorem laidOutS : laidOutB Tryd.prog = true := by kernel_rfl
set_option maxRecDepth 100000 in
theorem keyedSpot : Keyed Tryd.prog 86 := Keyed.of_law (deep_law_laid laidOutS (m := 3) (by omega) rowSpot (by kernel_rfl) wideSpot)

theorem spot_some (q v : Int) (hq : (Lit.int .i64 q).wf = true) (hv : (Lit.int .i64 v).wf = true) : (keyOf Tryd.prog 86 (spotV q v)).isSome = true := by
  have hs : ∃ n, Tryd.prog.types.size = n := ⟨_, rfl⟩
  obtain ⟨n, hn⟩ := hs
  have hpos : (86 : Nat) < n := by rw [← hn]; exact rowSpot
  obtain ⟨m, rfl⟩ : ∃ m, n = m + 1 := ⟨n - 1, by omega⟩
  have e3 : ∀ m x, (Lit.int .i64 x).wf = true → Tryd.prog.keyLits (m + 1) 3 [.int .i64 x] = some [.int .i64 x] := fun m x hx => by
    unfold Program.keyLits
    rw [Tryd.underlying3]
    simp [hx]
  have e : Tryd.prog.keyLits (m + 1 + 1) 86 [.int .i64 q, .int .i64 v] = some [.int .i64 q, .int .i64 v] := by
    unfold Program.keyLits
    rw [Tryd.underlying86]
    simp [cellsSpot, cellsInt, e3 m q hq, e3 m v hv]
  have hf : (spotV q v).formed Tryd.prog 86 = true := by
    unfold spotV
    simp [Value.formed, Tryd.underlying86, cellsSpot]
  unfold keyOf
  rw [Tryd.underlying86]
  simp only [deepSpot, hf, hn, Bool.and_self, if_true]
  rw [show (spotV q v).cells.toList = [.int .i64 q, .int .i64 v] from rfl, e]
  rfl
noncomputable def spotL (q v : Int) : Lit := (keyOf Tryd.prog 86 (spotV q v)).getD (.bool true)
theorem spot_key {q v : Int} (hq : (Lit.int .i64 q).wf = true) (hv : (Lit.int .i64 v).wf = true) : keyOf Tryd.prog 86 (spotV q v) = some (spotL q v) := by
  have := spot_some q v hq hv
  unfold spotL
  cases h : keyOf Tryd.prog 86 (spotV q v)
  · rw [h] at this; cases this
  · rfl
theorem spotV_ne {q v p u : Int} (h : ¬ (p = q ∧ u = v)) : spotV p u ≠ spotV q v := fun e => h (by
  unfold spotV at e
  simp at e
  exact e)
theorem spotL_ne {q v p u : Int} (hq : (Lit.int .i64 q).wf = true) (hv : (Lit.int .i64 v).wf = true) (hp : (Lit.int .i64 p).wf = true) (hu : (Lit.int .i64 u).wf = true) (h : ¬ (p = q ∧ u = v)) : spotL p u ≠ spotL q v := fun e =>
  spotV_ne h (keyedSpot.inj (spot_key hp hu) (by rw [e]; exact spot_key hq hv))
set_option maxRecDepth 100000 in
theorem isKeySp {q v : Int} (hq : (Lit.int .i64 q).wf = true) (hv : (Lit.int .i64 v).wf = true) : WideAt.IsKeyLit (spotL q v) := keyedSpot.key (spot_key hq hv)

structure TellsS (D : DataW Value) (f : Int → Int → Option Int) : Prop where
  has : ∀ q v : Int, (Lit.int .i64 q).wf = true → (Lit.int .i64 v).wf = true → Maps.has D (spotL q v) = (f q v).isSome
  at_ : ∀ q v b, (Lit.int .i64 q).wf = true → (Lit.int .i64 v).wf = true → f q v = some b → ∀ z, D.atKey (spotL q v) z = .held (.int .i64 b)

/-- Block M is a map that tells f. -/
def MapSp (w : World) (M n : Nat) (f : Int → Int → Option Int) : Prop :=
  ∃ D : DataW Value, w.ownsMap Tryd.prog 86 heldR M n D ∧ TellsS D f

section
variable {w : World} {M n : Nat} {f : Int → Int → Option Int}

theorem MapSp.kept {w' : World} {row : Option Nat} (h : MapSp w M n f) (hg : w.grownBy w' row) (hne : some M ≠ row) : MapSp w' M n f := by
  obtain ⟨D, h1, h2⟩ := h
  exact ⟨D, h1.kept hg hne, h2⟩
theorem MapSp.mono {n' : Nat} (h : MapSp w M n f) (hn : n ≤ n') : MapSp w M n' f := by
  obtain ⟨D, h1, h2⟩ := h
  exact ⟨D, h1.mono hn, h2⟩
theorem MapSp.alloc (h : MapSp w M n f) (o : Obj) : MapSp (w.alloc o) M n f := h.kept (World.grownBy_alloc w o none) (by simp)
theorem MapSp.drew (h : MapSp w M n f) : MapSp w.drew M n f := by
  obtain ⟨D, h1, h2⟩ := h
  exact ⟨D, h1.drew, h2⟩
theorem MapSp.lt (h : MapSp w M n f) : M < w.heap.size := by
  obtain ⟨D, h1, _⟩ := h
  exact h1.lt
theorem MapSp.below {B : Nat} {w' : World} (h : MapSp w M n f) (hb : Below B w w') (hM : M < B) : MapSp w' M n f := by
  obtain ⟨D, ⟨es, clock, hb1, F, hs, hD⟩, h2⟩ := h
  exact ⟨D, ⟨es, clock, (hb.block M hM).trans hb1, F, hs, hD⟩, h2⟩
theorem mapSpot_made (w : World) : MapSp (w.alloc (.map #[] 0)) w.heap.size 0 (fun _ _ => none) :=
  ⟨_, World.ownsMap_made w Tryd.prog 86 heldR, fun _ _ _ _ => rfl, fun _ _ _ _ _ h => by cases h⟩

theorem MapSp.look {q v : Int} (h : MapSp w M n f) (hq : (Lit.int .i64 q).wf = true) (hv : (Lit.int .i64 v).wf = true) :
    (Instr.lookup 63 (.map (some M)) (spotV q v) true).run Tryd.prog w = .ok (.tuple #[.int .i64 ((f q v).getD 0), .bool (f q v).isSome]) w := by
  obtain ⟨D, h1, h2⟩ := h
  obtain ⟨x, ps, hrun, hx⟩ := h1.look_ok keyedSpot Tryd.underlying63 (zeroInt w) (zd := .held (.int .i64 0)) (zp := []) rfl (spot_key hq hv)
  rw [hrun, h2.has q v hq hv]
  cases hf : f q v with
  | none =>
    have hno : Maps.has D (spotL q v) = false := by rw [h2.has q v hq hv, hf]; rfl
    rw [Maps.atKey_of_not_has hno] at hx
    have := DataW.held.inj (congrArg Prod.fst (Option.some.inj hx))
    subst this; rfl
  | some b =>
    rw [h2.at_ q v b hq hv hf] at hx
    have := DataW.held.inj (congrArg Prod.fst (Option.some.inj hx))
    subst this; rfl

set_option maxRecDepth 100000 in
theorem MapSp.store {q v : Int} (h : MapSp w M n f) (hn : n < 1000) (hq : (Lit.int .i64 q).wf = true) (hv : (Lit.int .i64 v).wf = true) (b : Int) :
    ∃ w', (Instr.mapUpdate 63 (.map (some M)) (spotV q v) (.int .i64 b)).run Tryd.prog w = .ok () w' ∧ MapSp w' M (n + 1) (putS f q v (some b)) ∧ w.grownBy w' (some M) := by
  obtain ⟨D, h1, h2⟩ := h
  obtain ⟨w', hrun, ho, ht'⟩ := h1.store (val := .int .i64 b) keyedSpot Tryd.underlying63 (by unfold maxLen; omega) (spot_key hq hv) (d := .held (.int .i64 b)) (ps := []) rfl
  refine ⟨w', hrun, ⟨_, ho, fun p u hp hu => ?_, fun p u c hp hu hc z => ?_⟩, ht'.grown⟩
  · by_cases e : p = q ∧ u = v
    · obtain ⟨rfl, rfl⟩ := e; rw [putS_same, Maps.has_put_same h1.isMap (isKeySp hq hv)]; rfl
    · rw [putS_other _ _ _ _ _ _ e, Maps.has_put_other (spotL_ne hq hv hp hu e)]; exact h2.has p u hp hu
  · by_cases e : p = q ∧ u = v
    · obtain ⟨rfl, rfl⟩ := e; rw [putS_same] at hc; obtain rfl := Option.some.inj hc; exact Maps.atKey_put_same h1.isMap (isKeySp hq hv) _ z
    · rw [putS_other _ _ _ _ _ _ e] at hc; rw [Maps.atKey_put_other (spotL_ne hq hv hp hu e)]; exact h2.at_ p u c hp hu hc z
end

/-! ### at the operation, for the walk -/
section
variable (w : World) {ops : Array Oper} {rest : List Oper} {o : Oper} {a : Act} {Q : Exit → Act → World → Prop}

theorem wpList_look_s (hg : o.guard = none) (m x : Operand) (hop : o.op = Op.lookup 63 m x true) (M n : Nat) (f : Int → Int → Option Int)
    (hm : a.eval m = .map (some M)) (h : MapSp w M n f) (q v : Int) (hx : a.eval x = spotV q v) (hq : (Lit.int .i64 q).wf = true) (hv : (Lit.int .i64 v).wf = true)
    (hK : wpList Tryd.prog ops Q rest (a.put o.dst (.tuple #[.int .i64 ((f q v).getD 0), .bool (f q v).isSome])) w) :
    wpList Tryd.prog ops Q (o :: rest) a w := by
  refine wpList_plain hg fun K' hK' => ?_
  have hrun := h.look hq hv
  unfold Oper.wp
  simp [execOp, hop, hm, hx, hrun, Result.andThen]
  exact hK' _ _ hK

theorem wpList_store_s (hg : o.guard = none) (m x y : Operand) (hop : o.op = Op.mapUpdate 63 m x y) (M n : Nat) (f : Int → Int → Option Int)
    (hm : a.eval m = .map (some M)) (h : MapSp w M n f) (hn : n < 1000) (q v : Int) (hx : a.eval x = spotV q v) (hq : (Lit.int .i64 q).wf = true) (hv : (Lit.int .i64 v).wf = true) (b : Int) (hy : a.eval y = .int .i64 b)
    (hK : ∀ w', MapSp w' M (n + 1) (putS f q v (some b)) → w.grownBy w' (some M) → wpList Tryd.prog ops Q rest (a.put o.dst undef) w') :
    wpList Tryd.prog ops Q (o :: rest) a w := by
  refine wpList_plain hg fun K' hK' => ?_
  obtain ⟨w', hrun, r1, r2⟩ := h.store hn hq hv b
  unfold Oper.wp
  simp [execOp, hop, hm, hx, hy, hrun, Result.andThen]
  exact hK' _ _ (hK w' r1 r2)
end

end Go.Proofs.YtfojmbbhcmeejaaDoor

namespace Go.Proofs.YtfojmbbhcmeejaaDoor
open Go.RowKit

set_option maxHeartbeats 400000 in
theorem kForm_any (x : Opn) (w : World) : Calls Tryd.prog 49 #[x.agg] w fun e w' => e = .returned (.bool (zFormB x)) ∧ Below w.heap.size w w' := by
  unfold Opn.agg
  go_enter Tryd.func49, Tryd.ntmps49
  go_wp2
  all_goals (go_ret; exact ⟨ret_boolZ (by simp_all [zFormB] <;> omega), belA (Below.refl _ _) _⟩)

theorem told_key {l : List Opn} (h : Told l 0) (j : Nat) (hj : j < l.length) : 0 ≤ (opZ l j).k ∧ (opZ l j).k ≤ 7 := by
  have h1 := (opFault0 ((toldNil h).2 j hj)).1
  simp [rangeB, inB, numB, eightB] at h1
  omega

/-- What writersOf tells. -/
def WTold (l : List Opn) (w : World) (e : Ending) (w' : World) : Prop :=
  Below w.heap.size w w' ∧ ((∃ n, n ≠ 0 ∧ KTold l n ∧ e = .returned (.tuple #[.map none, toldV n])) ∨
    (KTold l 0 ∧ ∃ M, w.heap.size ≤ M ∧ MapSp w' M l.length (wrK l l.length) ∧ e = .returned (.tuple #[.map (some M), .nilIface])))

set_option maxHeartbeats 2000000 in
theorem writersOf_some (l : List Opn) (b off cap : Nat) (w : World) (hlen : l.length ≤ 60) (h0 : 0 < l.length) (hcap : l.length ≤ cap) (hl : OpsAt w b off l) (hb : b < w.heap.size) :
    Calls Tryd.prog 27 #[.slice (some ⟨b, off, none⟩) l.length cap] w fun e w' => WTold l w e w' := by
  have HL : Hid (OpsAt w b off l) := hl
  have HC : Hid (∀ W, Below w.heap.size w W → Calls Tryd.prog 48 #[.slice (some ⟨b, off, none⟩) l.length cap] W fun e w' => ∃ n, e = .returned (toldV n) ∧ Told l n ∧ Below W.heap.size W w') := fun W hW => checkOps_any l b off cap W hlen hcap (HL.out.below hb hW) (Nat.lt_of_lt_of_le hb hW.size)
  clear hl
  go_enter Tryd.func27, Tryd.ntmps27
  go_wp2_with fail
  refine (HC.out _ (Below.refl _ _)).mono ?_
  rintro e w1 ⟨n, rfl, ht, hb1⟩
  by_cases hn : n = 0
  · subst hn
    have HT : Hid (Told l 0) := ht
    have HB1 := hideIt hb1
    clear ht hb1 HC
    rw [show toldV 0 = .nilIface from by simp [toldV]]
    have hmm := @run_makeMap Tryd.prog
    go_wp2
    clear hmm
    go_loopw [19] (fun i wr => ∃ k : Nat, k ≤ l.length ∧ i = .int .i64 k ∧ (∀ j, j < k → kFaultAt l j = 0) ∧ MapSp wr w1.heap.size k (wrK l k) ∧ Below w1.heap.size w1 wr) (fun i _ => l.length - (intOf i).toNat)
    case atStart => exact ⟨0, Nat.zero_le _, rfl, fun j hj => absurd hj (by omega), mapSpot_made _, belA (Below.refl _ _) _⟩
    case round =>
      obtain ⟨k, hk, rfl, ha, hm, hnx⟩ := hrel
      have HA : Hid (∀ j, j < k → kFaultAt l j = 0) := ha
      have HM := hideIt hm
      have HNX := hideIt hnx
      have hbw : b < w1.heap.size := Nat.lt_of_lt_of_le hb HB1.out.size
      have HMlt : Hid (w1.heap.size < wr.heap.size) := hm.lt
      clear ha hm
      by_cases hkl : k < l.length
      · obtain ⟨c0, c1, c2, c3, c4, c5, c6, c7⟩ := ((HL.out.below hb HB1.out) k hkl).below hbw hnx
        have HX : Hid (opZ l k = l[k]) := opZ_at hkl
        have HNum := hideIt (And.intro (told_num HT.out k hkl) (told_key HT.out k hkl))
        rw [HX.out] at HNum
        generalize l[k] = x at c0 c1 c2 c3 c4 c5 c6 c7 HX HNum
        have HF : Hid (∀ W, Calls Tryd.prog 49 #[x.agg] W fun e w' => e = .returned (.bool (zFormB x)) ∧ Below W.heap.size W w') := fun W => kForm_any x W
        have HKeep : Hid (∀ W, Below wr.heap.size wr W → MapSp W w1.heap.size k (wrK l k) ∧ Below w1.heap.size w1 W) := fun W hW => ⟨HM.out.below hW HMlt.out, HNX.out.trans (hW.mono HNX.out.size)⟩
        obtain ⟨fb, HFB⟩ : ∃ fb, Hid (zFormB x = fb) := ⟨_, hideIt rfl⟩
        rw [HFB.out] at HF
        go_wp2_with fail
        refine (HF.out _).mono ?_
        rintro e w2 ⟨rfl, hb2⟩
        have HB2 := hideIt (show Below wr.heap.size wr w2 from belJ (by repeat (first | exact Below.refl _ _ | refine Below.drew ?_ | refine belA ?_ _)) hb2)
        have e1 : w2.cell? ⟨wr.heap.size, 1, none⟩ = some (.int .i64 x.k) := by rw [hb2.cell (p := ⟨wr.heap.size, 1, none⟩) (by simp)]; simp
        have e3 : w2.cell? ⟨wr.heap.size, 3, none⟩ = some (.int .i64 x.a) := by rw [hb2.cell (p := ⟨wr.heap.size, 3, none⟩) (by simp)]; simp
        have e2 : w2.cell? ⟨wr.heap.size, 2, none⟩ = some (.int .i64 x.d) := by rw [hb2.cell (p := ⟨wr.heap.size, 2, none⟩) (by simp)]; simp
        have HM2 := hideIt (HKeep.out w2 HB2.out)
        clear hb2 c0 c1 c2 c3 c4 c5 c6 c7
        cases fb
        · have R1 : Hid (KTold l 3) := kTold_at HT.out hkl HA.out (kFault_form (by rw [HX.out, HFB.out])) (by decide)
          go_wp2
          go_ret2
          exact ⟨belJ HB1.out HM2.out.2, .inl ⟨3, by decide, R1.out, by simp [toldV]⟩⟩
        · by_cases hd : x.d = 2
          · have hd' : (x.d != 2) = false := by simp [hd]
            have HD := hideIt hd
            clear hd
            have hwfa : (Lit.int .i64 x.a).wf = true := WalkArith.wf_i64 (by have := HNum.out; omega)
            have hwfk : (Lit.int .i64 x.k).wf = true := WalkArith.wf_i64 (by have := HNum.out; omega)
            cases hs : wrK l k x.k x.a with
            | none =>
              have R1 : Hid (∀ j, j < k + 1 → kFaultAt l j = 0) := fine_succ HA.out (kFault_first hk (by rw [HX.out]; exact HFB.out) (by rw [HX.out, hs]; rfl))
              have R3 : Hid (wrK l (k + 1) = putS (wrK l k) x.k x.a (some (k : Int))) := by
                show (if (opZ l k).d = 2 then _ else _) = _
                rw [HX.out, if_pos HD.out]
              have HS := hideIt hs
              clear hs
              go_wp2_with (first | (at_lookup; refine wpList_look_s _ rfl _ _ rfl _ _ _ rfl (HM2.out.1.alloc _) _ _ rfl hwfk hwfa ?_; rw [HS.out]) | (at_mapUpdate; refine wpList_store_s _ rfl _ _ _ rfl _ _ _ rfl (HM2.out.1.alloc _) (by omega) _ _ rfl hwfk hwfa _ rfl ?_; intro w3 hm3 hg3))
              go_roundw
              case rel => exact ⟨k + 1, by omega, by go_num, R1.out, by rw [R3.out]; exact hm3, (belA HM2.out.2 _).grown hg3 (by simp; have := HM2.out.2.size; omega) (fun j hj => by cases hj; exact Nat.le_refl _)⟩
              case measure => simp [intOf]; omega
            | some n =>
              have R1 : Hid (KTold l 9) := kTold_at HT.out hkl HA.out (kFault_twice hk (by rw [HX.out]; exact HFB.out) (by rw [HX.out]; exact HD.out) (by rw [HX.out, hs]; rfl)) (by decide)
              have HS := hideIt hs
              clear hs
              go_wp2_with (at_lookup; refine wpList_look_s _ rfl _ _ rfl _ _ _ rfl (HM2.out.1.alloc _) _ _ rfl hwfk hwfa ?_; rw [HS.out])
              go_ret2
              exact ⟨belJ HB1.out (belA HM2.out.2 _), .inl ⟨9, by decide, R1.out, by simp [toldV]⟩⟩
          · have hd' : (x.d != 2) = true := by simp [hd]
            have R1 : Hid (∀ j, j < k + 1 → kFaultAt l j = 0) := fine_succ HA.out (kFault_other (by rw [HX.out]; exact HFB.out) (by rw [HX.out]; exact hd))
            have R3 : Hid (wrK l (k + 1) = wrK l k) := by
              show (if (opZ l k).d = 2 then _ else _) = _
              rw [HX.out, if_neg hd]
            clear hd
            go_wp2
            go_roundw
            case rel => exact ⟨k + 1, by omega, by go_num, R1.out, by rw [R3.out]; exact HM2.out.1.mono (by omega), HM2.out.2⟩
            case measure => simp [intOf]; omega
      · have R1 : Hid (KTold l 0) := kTold_all HT.out fun j hj => HA.out j (by omega)
        have R2 := hideIt (belJ HB1.out HNX.out)
        obtain rfl : k = l.length := by omega
        go_wp2
        go_ret2
        exact ⟨R2.out, .inr ⟨R1.out, _, HB1.out.size, HM.out, rfl⟩⟩
  · have HT := hideIt (kTold_err ht hn)
    have HV := hideIt (show toldV n = .iface 23 (.int .i64 n) from by simp [toldV, hn])
    rw [HV.out]
    go_wp2
    go_ret2
    exact ⟨hb1, .inl ⟨n, hn, HT.out, by rw [HV.out]; rfl⟩⟩
end Go.Proofs.YtfojmbbhcmeejaaDoor

namespace Go.Proofs.YtfojmbbhcmeejaaDoor
open Go.RowKit

theorem offNe {g a b : Nat} (h : a ≠ b) : (⟨g, a, none⟩ : Addr) ≠ ⟨g, b, none⟩ := fun e => h (by injection e)
theorem blkNe {g g' a b : Nat} (h : g ≠ g') : (⟨g, a, none⟩ : Addr) ≠ ⟨g', b, none⟩ := fun e => h (by injection e)

/-- A row of bools in a block of its own. -/
structure BitsAt (w : World) (g n : Nat) (f : Nat → Bool) : Prop where
  blk : ∃ cur, w.heap[g]? = some (.cells cur 4 (0, 0))
  bit : ∀ k, k < n → w.cell? ⟨g, k, none⟩ = some (.bool (f k))
theorem BitsAt.lt {w : World} {g n : Nat} {f : Nat → Bool} (h : BitsAt w g n f) : g < w.heap.size := by
  obtain ⟨cur, hc⟩ := h.blk
  exact lt_of_heap hc
theorem BitsAt.fz {w : World} {g n : Nat} {f : Nat → Bool} (h : BitsAt w g n f) (i : Nat) : w.frozen? ⟨g, i, none⟩ = false := by
  obtain ⟨cur, hc⟩ := h.blk
  exact frozen_of_row w g i cur 4 hc
theorem BitsAt.block {w w' : World} {g n : Nat} {f : Nat → Bool} (h : BitsAt w g n f) (hb : w'.heap[g]? = w.heap[g]?) : BitsAt w' g n f := by
  obtain ⟨cur, hc⟩ := h.blk
  exact ⟨⟨cur, hb.trans hc⟩, fun k hk => (World.cell?_of_block (a := ⟨g, k, none⟩) hb).trans (h.bit k hk)⟩
theorem BitsAt.below {B : Nat} {w w' : World} {g n : Nat} {f : Nat → Bool} (h : BitsAt w g n f) (hb : Below B w w') (hg : g < B) : BitsAt w' g n f := h.block (hb.block g hg)
theorem BitsAt.same {w : World} {g n : Nat} {f f' : Nat → Bool} (h : BitsAt w g n f) (e : ∀ k, k < n → f k = f' k) : BitsAt w g n f' := ⟨h.blk, fun k hk => by rw [← e k hk]; exact h.bit k hk⟩
theorem BitsAt.put {w : World} {g n : Nat} {f : Nat → Bool} (h : BitsAt w g n f) {m : Nat} (hm : m < n) (x : Bool) : BitsAt (w.setCell ⟨g, m, none⟩ (.bool x)) g n (fun k => if k = m then x else f k) := by
  obtain ⟨cur, hc⟩ := h.blk
  obtain ⟨cur', hc', _⟩ := heap_setCell hc m (.bool x)
  refine ⟨⟨cur', hc'⟩, fun k hk => ?_⟩
  by_cases e : k = m
  · subst e
    rw [if_pos rfl]
    exact World.cell?_setCell_same _ _ _ (h.bit k hk)
  · rw [if_neg e, World.cell?_setCell_other _ _ _ _ (offNe (Ne.symm e))]
    exact h.bit k hk
theorem BitsAt.other {w : World} {g n : Nat} {f : Nat → Bool} (h : BitsAt w g n f) {p : Addr} (hp : g ≠ p.block) (u : Value) : BitsAt (w.setCell p u) g n f := h.block (Below.heap_setCell w p u g hp)

theorem info4 : (Tryd.prog.info? 4).map (fun i => (i.zero, i.size, i.bytes)) = some (some (.bool false), 1, 1) := by kernel_rfl
theorem info46 : (Tryd.prog.info? 46).map (fun i => (i.zero, i.size, i.bytes)) = some (some (.slice none 0 0), 1, 24) := by kernel_rfl
theorem made_bits (w : World) (n : Nat) (hn : n ≤ 60) : (Instr.makeSlice 46 (.int .i64 (n : Int)) (.int .i64 (n : Int))).run Tryd.prog w = .ok (.slice (some ⟨w.heap.size, 0, none⟩) n n) (w.alloc (.cells (madeCells #[.bool false] n) 4)) := by
  obtain ⟨i, hi, hz, hs, hb⟩ := info_parts info4
  have := run_make (P := Tryd.prog) w 46 4 i (.bool false) Tryd.underlying46 hi hz .i64 .i64 (n : Int) (n : Int) (by omega) (Int.le_refl _) (by rw [hb]; omega) (by omega)
  have e : (Value.bool false).cells = #[.bool false] := rfl
  rw [e] at this
  simpa [hs] using this
theorem made_rows (w : World) (n : Nat) (hn : n ≤ 60) : (Instr.makeSlice 30 (.int .i64 (n : Int)) (.int .i64 (n : Int))).run Tryd.prog w = .ok (.slice (some ⟨w.heap.size, 0, none⟩) n n) (w.alloc (.cells (madeCells #[.slice none 0 0] n) 46)) := by
  obtain ⟨i, hi, hz, hs, hb⟩ := info_parts info46
  have := run_make (P := Tryd.prog) w 30 46 i (.slice none 0 0) Tryd.underlying30 hi hz .i64 .i64 (n : Int) (n : Int) (by omega) (Int.le_refl _) (by rw [hb]; omega) (by omega)
  have e : (Value.slice none 0 0).cells = #[.slice none 0 0] := rfl
  rw [e] at this
  simpa [hs] using this
theorem made_one (v : Value) (n i : Nat) (h : i < n) : (madeCells #[v] n)[i]? = some v := by simp [madeCells, h, Nat.mod_one]
theorem cell_made (w : World) (v : Value) (n t i : Nat) (h : i < n) : (w.alloc (.cells (madeCells #[v] n) t)).cell? ⟨w.heap.size, i, none⟩ = some v := by
  rw [cell_of_row _ w.heap.size i _ t _ (heap_alloc_new w _)]
  exact made_one v n i h
theorem bits_made (w : World) (n : Nat) : BitsAt (w.alloc (.cells (madeCells #[.bool false] n) 4)) w.heap.size n (fun _ => false) :=
  ⟨⟨_, heap_alloc_new w _⟩, fun k hk => cell_made w (.bool false) n 4 k hk⟩

/-- A matrix of bools: its first m rows are laid; all its blocks lie from base on. -/
structure MatAt (w : World) (base B n m : Nat) (rb : Nat → Nat) (M : Nat → Nat → Bool) : Prop where
  blk : ∃ cur, w.heap[B]? = some (.cells cur 46 (0, 0))
  lo : base ≤ B
  room : ∀ i, i < n → ∃ v, w.cell? ⟨B, i, none⟩ = some v
  few : m ≤ n
  head : ∀ i, i < m → w.cell? ⟨B, i, none⟩ = some (.slice (some ⟨rb i, 0, none⟩) n n)
  row : ∀ i, i < m → BitsAt w (rb i) n (M i)
  from_ : ∀ i, i < m → base ≤ rb i ∧ rb i ≠ B
  inj : ∀ i j, i < m → j < m → rb i = rb j → i = j

section
variable {w : World} {base B n m : Nat} {rb : Nat → Nat} {M : Nat → Nat → Bool}
theorem MatAt.lt (h : MatAt w base B n m rb M) : B < w.heap.size := by
  obtain ⟨cur, hc⟩ := h.blk
  exact lt_of_heap hc
theorem MatAt.fz (h : MatAt w base B n m rb M) (i : Nat) : w.frozen? ⟨B, i, none⟩ = false := by
  obtain ⟨cur, hc⟩ := h.blk
  exact frozen_of_row w B i cur 46 hc
theorem MatAt.below {w' : World} (h : MatAt w base B n m rb M) (hb : Below w.heap.size w w') : MatAt w' base B n m rb M := by
  obtain ⟨cur, hc⟩ := h.blk
  have hB := h.lt
  have hcell : ∀ i, w'.cell? ⟨B, i, none⟩ = w.cell? ⟨B, i, none⟩ := fun i => hb.cell (p := ⟨B, i, none⟩) hB
  exact ⟨⟨cur, (hb.block B hB).trans hc⟩, h.lo, fun i hi => by rw [hcell]; exact h.room i hi, h.few, fun i hi => by rw [hcell]; exact h.head i hi, fun i hi => (h.row i hi).below hb (h.row i hi).lt, h.from_, h.inj⟩
theorem MatAt.alloc (h : MatAt w base B n m rb M) (o : Obj) : MatAt (w.alloc o) base B n m rb M := h.below ((Below.refl _ _).alloc (Nat.le_refl _) o)
theorem MatAt.drew (h : MatAt w base B n m rb M) : MatAt w.drew base B n m rb M := h.below (Below.refl _ _).drew
theorem MatAt.same {M' : Nat → Nat → Bool} (h : MatAt w base B n m rb M) (e : ∀ i k, i < m → k < n → M i k = M' i k) : MatAt w base B n m rb M' :=
  ⟨h.blk, h.lo, h.room, h.few, h.head, fun i hi => (h.row i hi).same fun k hk => e i k hi hk, h.from_, h.inj⟩
theorem MatAt.mono {base' : Nat} (h : MatAt w base B n m rb M) (hb : base' ≤ base) : MatAt w base' B n m rb M :=
  ⟨h.blk, Nat.le_trans hb h.lo, h.room, h.few, h.head, h.row, fun i hi => ⟨Nat.le_trans hb (h.from_ i hi).1, (h.from_ i hi).2⟩, h.inj⟩
theorem MatAt.put (h : MatAt w base B n m rb M) {i k : Nat} (hi : i < m) (hk : k < n) (x : Bool) :
    MatAt (w.setCell ⟨rb i, k, none⟩ (.bool x)) base B n m rb (fun a b => if a = i ∧ b = k then x else M a b) := by
  obtain ⟨cur, hc⟩ := h.blk
  have hne := (h.from_ i hi).2
  have hcell : ∀ j, (w.setCell ⟨rb i, k, none⟩ (.bool x)).cell? ⟨B, j, none⟩ = w.cell? ⟨B, j, none⟩ := fun j => World.cell?_setCell_other _ _ _ _ (blkNe hne)
  refine ⟨⟨cur, (Below.heap_setCell w _ _ B (Ne.symm hne)).trans hc⟩, h.lo, fun j hj => by rw [hcell]; exact h.room j hj, h.few, fun j hj => by rw [hcell]; exact h.head j hj, fun j hj => ?_, h.from_, h.inj⟩
  by_cases e : j = i
  · subst e
    exact ((h.row j hj).put hk x).same fun b hb => by simp
  · exact ((h.row j hj).other (p := ⟨rb i, k, none⟩) (fun e' => e (h.inj j i hj hi e')) _).same fun b hb => by simp [e]
/-- One row more: a new block, its head stored. -/
theorem MatAt.add (h : MatAt w base B n m rb M) {g : Nat} {f : Nat → Bool} (hm : m < n) (hg : BitsAt w g n f) (hb : base ≤ g) (hne : g ≠ B) (hnew : ∀ i, i < m → rb i ≠ g) :
    MatAt (w.setCell ⟨B, m, none⟩ (.slice (some ⟨g, 0, none⟩) n n)) base B n (m + 1) (fun i => if i = m then g else rb i) (fun i => if i = m then f else M i) := by
  obtain ⟨cur, hc⟩ := h.blk
  obtain ⟨cur', hc', _⟩ := heap_setCell hc m (.slice (some ⟨g, 0, none⟩) n n)
  have hs : (w.setCell ⟨B, m, none⟩ (.slice (some ⟨g, 0, none⟩) n n)).cell? ⟨B, m, none⟩ = some (.slice (some ⟨g, 0, none⟩) n n) := by
    obtain ⟨v, hv⟩ := h.room m hm
    exact World.cell?_setCell_same _ _ _ hv
  have ho : ∀ i, i ≠ m → (w.setCell ⟨B, m, none⟩ (.slice (some ⟨g, 0, none⟩) n n)).cell? ⟨B, i, none⟩ = w.cell? ⟨B, i, none⟩ := fun i hi => World.cell?_setCell_other _ _ _ _ (offNe (Ne.symm hi))
  refine ⟨⟨cur', hc'⟩, h.lo, fun i hi => ?_, hm, fun i hi => ?_, fun i hi => ?_, fun i hi => ?_, fun i j hi hj => ?_⟩
  · by_cases e : i = m
    · subst e; exact ⟨_, hs⟩
    · rw [ho i e]; exact h.room i hi
  · by_cases e : i = m
    · subst e; rw [hs, if_pos rfl]
    · rw [ho i e, if_neg e]; exact h.head i (by omega)
  · by_cases e : i = m
    · subst e; simp only [if_pos]; exact hg.other (p := ⟨B, i, none⟩) hne _
    · simp only [if_neg e]; exact (h.row i (by omega)).other (p := ⟨B, m, none⟩) (h.from_ i (by omega)).2 _
  · by_cases e : i = m
    · simp only [e, if_true]; exact ⟨hb, hne⟩
    · simp only [if_neg e]; exact h.from_ i (by omega)
  · by_cases e : i = m
    · by_cases e' : j = m
      · intro _; omega
      · simp only [e, if_true, if_neg e']; exact fun k => absurd k.symm (hnew j (by omega))
    · by_cases e' : j = m
      · simp only [e', if_true, if_neg e]; exact fun k => absurd k (hnew i (by omega))
      · simp only [if_neg e, if_neg e']; exact h.inj i j (by omega) (by omega)
end
theorem mat_made (w : World) (n : Nat) : MatAt (w.alloc (.cells (madeCells #[.slice none 0 0] n) 46)) w.heap.size w.heap.size n 0 (fun _ => 0) (fun _ _ => false) :=
  ⟨⟨_, heap_alloc_new w _⟩, Nat.le_refl _, fun i hi => ⟨_, cell_made w _ n 46 i hi⟩, Nat.zero_le _, fun i hi => absurd hi (by omega), fun i hi => absurd hi (by omega), fun i hi => absurd hi (by omega), fun i j hi => absurd hi (by omega)⟩

/-! ### the stages of a pass -/
def stg (M : Nat → Nat → Bool) (t i b : Nat) : Nat → Nat → Bool := fun a k => if a < i ∨ (a = i ∧ k < b) then warS M t a k else M a k
theorem stg_next (M : Nat → Nat → Bool) (t i b : Nat) : stg M t i b t b = M t b := by
  unfold stg
  split
  · exact warS_row M t b
  · rfl
theorem stg_own (M : Nat → Nat → Bool) (t i b : Nat) : stg M t i b i b = M i b := by
  unfold stg
  rw [if_neg (by omega)]
theorem stg_put {M : Nat → Nat → Bool} {t i b : Nat} (h : M i t = true) (a k : Nat) : (if a = i ∧ k = b then (M i b || M t b) else stg M t i b a k) = stg M t i (b + 1) a k := by
  unfold stg
  by_cases e : a = i ∧ k = b
  · obtain ⟨rfl, rfl⟩ := e
    rw [if_pos ⟨rfl, rfl⟩, if_pos (.inr ⟨rfl, by omega⟩)]
    unfold warS
    rw [h]; rfl
  · rw [if_neg e]
    by_cases e' : a < i ∨ (a = i ∧ k < b)
    · rw [if_pos e', if_pos (by omega)]
    · rw [if_neg e', if_neg (by omega)]
theorem stg_skip {M : Nat → Nat → Bool} {t i : Nat} (h : M i t = false) (a k : Nat) : stg M t i 0 a k = stg M t (i + 1) 0 a k := by
  unfold stg
  by_cases e : a = i
  · subst e
    rw [if_neg (by omega), if_pos (by omega)]
    unfold warS
    rw [h]; simp
  · by_cases e' : a < i
    · rw [if_pos (.inl e'), if_pos (by omega)]
    · rw [if_neg (by omega), if_neg (by omega)]
theorem stg_end {M : Nat → Nat → Bool} {t i n : Nat} (a k : Nat) (hk : k < n) : stg M t i n a k = stg M t (i + 1) 0 a k := by
  unfold stg
  by_cases e : a < i + 1
  · rw [if_pos (by omega), if_pos (.inl e)]
  · rw [if_neg (by omega), if_neg (by omega)]
theorem stg_all {M : Nat → Nat → Bool} {t n : Nat} (a k : Nat) (ha : a < n) : stg M t n 0 a k = warS M t a k := by
  unfold stg
  rw [if_pos (.inl ha)]

end Go.Proofs.YtfojmbbhcmeejaaDoor

namespace Go.Proofs.YtfojmbbhcmeejaaDoor
open Go.RowKit

set_option maxRecDepth 100000 in
set_option maxHeartbeats 4000000 in
theorem lead_any (base B n : Nat) (rb : Nat → Nat) (M : Nat → Nat → Bool) (w : World) (hn : n ≤ 60) (h : MatAt w base B n n rb M) :
    Calls Tryd.prog 51 #[.slice (some ⟨B, 0, none⟩) n n] w fun e w' => e = .returned (.tuple #[]) ∧ MatAt w' base B n n rb (war M n) ∧ Below base w w' := by
  have H := hideIt h
  clear h
  go_enter Tryd.func51, Tryd.ntmps51
  go_wp2
  go_loopw [9] (fun i wr => ∃ t : Nat, t ≤ n ∧ i = .int .i64 t ∧ MatAt wr base B n n rb (war M t) ∧ Below base w wr) (fun i _ => n - (intOf i).toNat)
  case atStart => exact ⟨0, Nat.zero_le _, rfl, H.out, Below.refl _ _⟩
  case round =>
    obtain ⟨t, ht, rfl, hm, hb⟩ := hrel
    have HM := hideIt hm
    have HB := hideIt hb
    clear hm hb H
    by_cases htn : t < n
    · have c1 := HM.out.head t htn
      go_wp2
      go_loopw [16] (fun i wr => ∃ q : Nat, q ≤ n ∧ i = .int .i64 q ∧ MatAt wr base B n n rb (stg (war M t) t q 0) ∧ Below base w wr) (fun i _ => n - (intOf i).toNat)
      case atStart => exact ⟨0, Nat.zero_le _, rfl, HM.out.same (fun a k _ _ => by unfold stg; rw [if_neg (by omega)]), HB.out⟩
      case round =>
        obtain ⟨q, hq, rfl, hm2, hb2⟩ := hrel
        have HM2 := hideIt hm2
        have HB2 := hideIt hb2
        clear hm2 hb2 HM HB
        by_cases hqn : q < n
        · have c2 := HM2.out.head q hqn
          have c3 := (HM2.out.row q hqn).bit t htn
          have e3 : stg (war M t) t q 0 q t = war M t q t := by unfold stg; rw [if_neg (by omega)]
          rw [e3] at c3
          cases hx : war M t q t
          · rw [hx] at c3
            have R1 := hideIt (HM2.out.same fun a k _ _ => stg_skip hx a k)
            go_wp2
            go_roundw
            case rel => exact ⟨q + 1, by omega, by go_num, R1.out, HB2.out⟩
            case measure => simp [intOf]; omega
          · rw [hx] at c3
            go_wp2
            go_loopw [27] (fun i wr => ∃ k : Nat, k ≤ n ∧ i = .int .i64 k ∧ MatAt wr base B n n rb (stg (war M t) t q k) ∧ Below base w wr) (fun i _ => n - (intOf i).toNat)
            case atStart => exact ⟨0, Nat.zero_le _, rfl, HM2.out, HB2.out⟩
            case round =>
              obtain ⟨k, hk, rfl, hm3, hb3⟩ := hrel
              have HM3 := hideIt hm3
              have HB3 := hideIt hb3
              clear hm3 hb3 HM2 HB2 c1 c2 c3
              by_cases hkn : k < n
              · have d1 := (HM3.out.row q hqn).bit k hkn
                have d2 := (HM3.out.row t htn).bit k hkn
                have d3 := (HM3.out.row q hqn).fz k
                rw [stg_own] at d1
                rw [stg_next] at d2
                have R0 := hideIt ((HM3.out.put hqn hkn (war M t q k || war M t t k)).same fun a b _ _ => stg_put hx a b)
                have R2 := hideIt (HB3.out.setCell (p := ⟨rb q, k, none⟩) (HM3.out.from_ q hqn).1 (.bool (war M t q k || war M t t k)))
                cases hy : war M t q k
                · rw [hy] at d1 R0 R2
                  simp only [Bool.false_or] at R0 R2
                  go_wp2
                  go_roundw
                  case rel => exact ⟨k + 1, by omega, by go_num, R0.out, R2.out⟩
                  case measure => simp [intOf]; omega
                · rw [hy] at d1 R0 R2
                  simp only [Bool.true_or] at R0 R2
                  go_wp2
                  go_roundw
                  case rel => exact ⟨k + 1, by omega, by go_num, R0.out, R2.out⟩
                  case measure => simp [intOf]; omega
              · obtain rfl : k = n := by omega
                have R1 := hideIt (HM3.out.same fun a b _ hb => stg_end a b hb)
                go_wp2
                go_roundw
                case rel => exact ⟨q + 1, by omega, by go_num, R1.out, HB3.out⟩
                case measure => simp [intOf]; omega
        · obtain rfl : q = n := by omega
          have R1 := hideIt (HM2.out.same (M' := war M (t + 1)) fun a b ha _ => stg_all a b ha)
          go_wp2
          go_roundw
          case rel => exact ⟨t + 1, by omega, by go_num, R1.out, HB2.out⟩
          case measure => simp [intOf]; omega
    · obtain rfl : t = n := by omega
      go_wp2
      go_end0
      exact ⟨rfl, HM.out, HB.out⟩
end Go.Proofs.YtfojmbbhcmeejaaDoor

namespace Go.Proofs.YtfojmbbhcmeejaaDoor
open Go.RowKit

theorem ret_intK {a b : Int} (h : a = b) : Ending.returned (.int .i64 a) = .returned (.int .i64 b) := by rw [h]

set_option maxHeartbeats 400000 in
theorem source_any (l : List Opn) (x : Opn) (M : Nat) (w : World) (hm : MapSp w M l.length (wrK l l.length)) (hk : (Lit.int .i64 x.k).wf = true) (hr : (Lit.int .i64 x.r).wf = true) :
    Calls Tryd.prog 50 #[.map (some M), x.agg] w fun e w' => e = .returned (.int .i64 (srcK l x)) ∧ Below w.heap.size w w' := by
  have HM := hideIt hm
  clear hm
  unfold Opn.agg
  cases hs : wrK l l.length x.k x.r with
  | none =>
    have HS := hideIt hs
    have HR : Hid (srcK l x = -1) := by show srcK l x = -1; unfold srcK; rw [hs]; rfl
    clear hs
    go_enter Tryd.func50, Tryd.ntmps50
    go_wp2_with (at_lookup; refine wpList_look_s _ rfl _ _ rfl _ _ _ rfl (HM.out.alloc _) _ _ rfl hk hr ?_; rw [HS.out])
    go_ret
    exact ⟨ret_intK HR.out.symm, belA (Below.refl _ _) _⟩
  | some n =>
    have HS := hideIt hs
    have HR : Hid (srcK l x = n) := by show srcK l x = n; unfold srcK; rw [hs]; rfl
    clear hs
    go_enter Tryd.func50, Tryd.ntmps50
    go_wp2_with (at_lookup; refine wpList_look_s _ rfl _ _ rfl _ _ _ rfl (HM.out.alloc _) _ _ rfl hk hr ?_; rw [HS.out])
    go_ret
    exact ⟨ret_intK HR.out.symm, belA (Below.refl _ _) _⟩

/-- A number, or -1. -/
def orNone (o : Option Nat) : Int := (o.map fun n : Nat => (n : Int)).getD (-1)

theorem wf_of {x : Int} (h : -1000000 ≤ x ∧ x ≤ 1000000) : (Lit.int .i64 x).wf = true := WalkArith.wf_i64 (by omega)

set_option maxHeartbeats 1000000 in
theorem thin_any (l : List Opn) (ok : KOk l) (a : Option Addr) (cap M : Nat) (w : World) (hl : OpsQ w a l) (hm : MapSp w M l.length (wrK l l.length)) (hM : M < w.heap.size) :
    Calls Tryd.prog 30 #[.map (some M), .slice a l.length cap] w fun e w' => e = .returned (.int .i64 (orNone (firstN (thinB l) l.length))) ∧ Below w.heap.size w w' := by
  have hlen := ok.few
  have HL := hideIt hl
  have HM := hideIt hm
  clear hl hm
  go_enter Tryd.func30, Tryd.ntmps30
  go_wp2
  go_loopw [9] (fun i wr => ∃ k : Nat, k ≤ l.length ∧ i = .int .i64 k ∧ (∀ j, j < k → thinB l j = false) ∧ Below w.heap.size w wr) (fun i _ => l.length - (intOf i).toNat)
  case atStart => exact ⟨0, Nat.zero_le _, rfl, fun j hj => absurd hj (by omega), Below.refl _ _⟩
  case round =>
    obtain ⟨k, hk, rfl, ha, hb⟩ := hrel
    have HA := hideIt ha
    have HB := hideIt hb
    clear ha hb
    by_cases hkl : k < l.length
    · obtain ⟨b, off, ha, hlt, hops⟩ : ∃ b off, a = some ⟨b, off, none⟩ ∧ b < w.heap.size ∧ OpsAt w b off l := by
        rcases HL.out with h | h
        · subst h; simp at hkl
        · exact h
      subst ha
      obtain ⟨c0, c1, c2, c3, c4, c5, c6, c7⟩ := (hops k hkl).below hlt HB.out
      have HX : Hid (opZ l k = l[k]) := opZ_at hkl
      have HN := hideIt (ok.num k hkl)
      rw [HX.out] at HN
      generalize l[k] = x at c0 c1 c2 c3 c4 c5 c6 c7 HX HN
      clear hops HL
      by_cases hr : x.r = 0
      · have hr' : (x.r != 0) = false := by simp [hr]
        have R1 : Hid (∀ j, j < k + 1 → thinB l j = false) := fun j hj => by
          by_cases e : j = k
          · subst e; unfold thinB; rw [HX.out, hr']; rfl
          · exact HA.out j (by omega)
        clear hr
        go_wp2
        go_roundw
        case rel => exact ⟨k + 1, by omega, by go_num, R1.out, belA HB.out _⟩
        case measure => simp [intOf]; omega
      · have hr' : (x.r != 0) = true := by simp [hr]
        have HF : Hid (∀ W, Below w.heap.size w W → Calls Tryd.prog 50 #[.map (some M), x.agg] W fun e w' => e = .returned (.int .i64 (srcK l x)) ∧ Below W.heap.size W w') := fun W hW =>
          source_any l x M W (HM.out.below hW hM) (wf_of (by have := HN.out; omega)) (wf_of (by have := HN.out; omega))
        have R2 : Hid (thinB l k = (srcK l x == -1)) := by show thinB l k = _; unfold thinB; rw [HX.out, hr']; rfl
        clear hr
        generalize srcK l x = s at HF R2
        by_cases hs : s = -1
        · subst hs
          have R1 : Hid (firstN (thinB l) l.length = some k) := firstN_at hkl HA.out (by rw [R2.out]; rfl)
          go_wp2_with (go_at_call 50; refine (HF.out _ (belA HB.out _)).mono ?_; rintro e w2 ⟨rfl, hb2⟩)
          go_ret
          exact ⟨ret_intK (by rw [R1.out]; rfl), belJ (belA HB.out _) hb2⟩
        · have hs' : (s == -1) = false := by simp [hs]
          have R1 : Hid (∀ j, j < k + 1 → thinB l j = false) := fun j hj => by
            by_cases e : j = k
            · subst e; rw [R2.out]; exact hs'
            · exact HA.out j (by omega)
          clear hs
          go_wp2_with (go_at_call 50; refine (HF.out _ (belA HB.out _)).mono ?_; rintro e w2 ⟨rfl, hb2⟩)
          go_roundw
          case rel => exact ⟨k + 1, by omega, by go_num, R1.out, belJ (belA HB.out _) hb2⟩
          case measure => simp [intOf]; omega
    · have R1 : Hid (firstN (thinB l) l.length = none) := firstN_none fun j hj => HA.out j (by omega)
      go_wp2
      go_ret
      exact ⟨ret_intK (by rw [R1.out]; rfl), HB.out⟩
end Go.Proofs.YtfojmbbhcmeejaaDoor
