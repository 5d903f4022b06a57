/-
  A map from ints in memory, whatever its elements: what it tells of each key; walking over it in whatever order.
-/
import Derived.Test.YtmonbkoelehdlaaDoorZnP
import Derived.Maps.RangeWalk
namespace Go.Proofs.YtmonbkoelehdlaaDoor
open Go.RowKit
open Go.Maps (Keyed int_keyed IsMap)

/-- How an element reads: as itself. -/
def heldR (v : Value) : Option (DataW Value × List MemPlace) := some (.held v, [])

structure TellsV {β : Type} (mk : β → Value) (D : DataW Value) (f : Int → Option β) : Prop where
  has : ∀ q : Int, Maps.has D (.int .i64 q) = (f q).isSome
  at_ : ∀ q b, f q = some b → ∀ z, D.atKey (.int .i64 q) z = .held (mk b)

/-- Block M is a map that tells f. -/
def MapV (P : Program) {β : Type} (mk : β → Value) (w : World) (M n : Nat) (f : Int → Option β) : Prop :=
  ∃ D : DataW Value, w.ownsMap P 3 heldR M n D ∧ TellsV mk D f

/-- A walk over it under way: block r is the iterator; left: what is still to come. -/
def RangeV (P : Program) {β : Type} (mk : β → Value) (w : World) (M r n : Nat) (f : Int → Option β) (left : Int → Bool) : Prop :=
  ∃ (D : DataW Value) (lf : Lit → Bool) (cnt : Nat), w.ranges P 3 heldR M r n D lf cnt ∧ TellsV mk D f ∧ (∀ q : Int, lf (.int .i64 q) = left q) ∧ ∀ q, left q = true → (f q).isSome = true

theorem isKeyV (p : Int) : WideAt.IsKeyLit (.int .i64 p) := by simp [WideAt.IsKeyLit]
theorem keyNe {p q : Int} (h : q ≠ p) : (Lit.int .i64 q) ≠ .int .i64 p := fun k => h (by simpa using k)
theorem sameV (q x : Int) : (Lit.int .i64 q).sameKey (.int .i64 x) = decide (q = x) := by
  by_cases h : q = x
  · subst h
    simp [Lit.sameKey]
  · rw [Maps.sameKey_ne (keyNe h)]
    simp [h]

section
variable {P : Program} {β : Type} {mk : β → Value} {w : World} {M n : Nat} {f : Int → Option β}

theorem MapV.kept {w' : World} {row : Option Nat} (h : MapV P mk w M n f) (hg : w.grownBy w' row) (hne : some M ≠ row) : MapV P mk w' M n f := by
  obtain ⟨D, h1, h2⟩ := h
  exact ⟨D, h1.kept hg hne, h2⟩
theorem MapV.mono {n' : Nat} (h : MapV P mk w M n f) (hn : n ≤ n') : MapV P mk w M n' f := by
  obtain ⟨D, h1, h2⟩ := h
  exact ⟨D, h1.mono hn, h2⟩
theorem MapV.alloc (h : MapV P mk w M n f) (o : Obj) : MapV P mk (w.alloc o) M n f := h.kept (World.grownBy_alloc w o none) (by simp)
theorem MapV.drew (h : MapV P mk w M n f) : MapV P mk w.drew M n f := by
  obtain ⟨D, h1, h2⟩ := h
  exact ⟨D, h1.drew, h2⟩
theorem MapV.lt (h : MapV P mk w M n f) : M < w.heap.size := by
  obtain ⟨D, h1, _⟩ := h
  exact h1.lt
theorem MapV.below {B : Nat} {w' : World} (h : MapV P mk w M n f) (hb : Below B w w') (hM : M < B) : MapV P mk w' M n f := by
  obtain ⟨D, ⟨es, clock, hb1, F, hs, hD⟩, h2⟩ := h
  exact ⟨D, ⟨es, clock, (hb.block M hM).trans hb1, F, hs, hD⟩, h2⟩
theorem mapV_made (w : World) (P : Program) (mk : β → Value) : MapV P mk (w.alloc (.map #[] 0)) w.heap.size 0 (fun _ => none) :=
  ⟨_, World.ownsMap_made w P 3 heldR, fun _ => rfl, fun _ _ h => by cases h⟩

variable (h3 : P.underlying 3 = some (.int .i64))
include h3

theorem MapV.look {t e : TypeId} (h : MapV P mk w M n f) (ht : P.underlying t = some (.map 3 e)) {z : Value} (hz : (zeroValue e).run P w = .ok z w) {q : Int} (hq : (Lit.int .i64 q).wf = true) :
    ∃ v, (Instr.lookup t (.map (some M)) (.int .i64 q) true).run P w = .ok (.tuple #[v, .bool (f q).isSome]) w ∧ ∀ b, f q = some b → v = mk b := by
  obtain ⟨D, h1, h2⟩ := h
  obtain ⟨v, ps, hrun, hv⟩ := h1.look_ok (int_keyed h3) ht hz (zd := .held z) (zp := []) rfl (Go.Maps.keyOf_int_mk h3 hq)
  refine ⟨v, by rw [← h2.has q]; exact hrun, fun b hb => ?_⟩
  rw [h2.at_ q b hb] at hv
  have := congrArg Prod.fst (Option.some.inj hv)
  exact DataW.held.inj this

theorem MapV.look_none {t e : TypeId} (h : MapV P mk w M n f) (ht : P.underlying t = some (.map 3 e)) {z : Value} (hz : (zeroValue e).run P w = .ok z w) {q : Int} (hq : (Lit.int .i64 q).wf = true) (hf : f q = none) :
    (Instr.lookup t (.map (some M)) (.int .i64 q) true).run P w = .ok (.tuple #[z, .bool false]) w := by
  obtain ⟨D, h1, h2⟩ := h
  obtain ⟨v, ps, hrun, hv⟩ := h1.look_ok (int_keyed h3) ht hz (zd := .held z) (zp := []) rfl (Go.Maps.keyOf_int_mk h3 hq)
  have hno : Maps.has D (.int .i64 q) = false := by rw [h2.has q, hf]; rfl
  rw [Maps.atKey_of_not_has hno] at hv
  have := DataW.held.inj (congrArg Prod.fst (Option.some.inj hv))
  subst this
  rw [hno] at hrun
  exact hrun

theorem MapV.store {t e : TypeId} (h : MapV P mk w M n f) (ht : P.underlying t = some (.map 3 e)) (hn : n < 1000) {q : Int} (hq : (Lit.int .i64 q).wf = true) (b : β) :
    ∃ w', (Instr.mapUpdate t (.map (some M)) (.int .i64 q) (mk b)).run P w = .ok () w' ∧ MapV P mk w' M (n + 1) (putK f q (some b)) ∧ w.grownBy w' (some M) := by
  obtain ⟨D, h1, h2⟩ := h
  obtain ⟨w', hrun, ho, ht'⟩ := h1.store (val := mk b) (int_keyed h3) ht (by unfold maxLen; omega) (Go.Maps.keyOf_int_mk h3 hq) (d := .held (mk b)) (ps := []) rfl
  refine ⟨w', hrun, ⟨_, ho, fun p => ?_, fun p c hc z => ?_⟩, ht'.grown⟩
  · by_cases e : p = q
    · subst e; rw [putK_same, Maps.has_put_same h1.isMap (isKeyV p)]; rfl
    · rw [putK_other _ _ _ _ e, Maps.has_put_other (keyNe e)]; exact h2.has p
  · by_cases e : p = q
    · subst e; rw [putK_same] at hc; obtain rfl := Option.some.inj hc; exact Maps.atKey_put_same h1.isMap (isKeyV p) _ z
    · rw [putK_other _ _ _ _ e] at hc; rw [Maps.atKey_put_other (keyNe e)]; exact h2.at_ p c hc z

omit h3 in
theorem RangeV.map {r : Nat} {left : Int → Bool} (h : RangeV P mk w M r n f left) : MapV P mk w M n f := by
  obtain ⟨D, lf, cnt, h1, h2, _⟩ := h
  exact ⟨D, h1.owns, h2⟩
omit h3 in
theorem RangeV.kept {r : Nat} {left : Int → Bool} {w' : World} {row : Option Nat} (h : RangeV P mk w M r n f left) (hg : w.grownBy w' row) (hb : some M ≠ row) (hr : some r ≠ row) : RangeV P mk w' M r n f left := by
  obtain ⟨D, lf, cnt, h1, h2⟩ := h
  exact ⟨D, lf, cnt, h1.kept hg hb hr, h2⟩
omit h3 in
theorem RangeV.ltr {r : Nat} {left : Int → Bool} (h : RangeV P mk w M r n f left) : r < w.heap.size := by
  obtain ⟨D, lf, cnt, h1, _⟩ := h
  exact h1.lt
omit h3 in
theorem RangeV.ne {r : Nat} {left : Int → Bool} (h : RangeV P mk w M r n f left) : r ≠ M := by
  obtain ⟨D, lf, cnt, h1, _⟩ := h
  exact h1.ne
omit h3 in
theorem RangeV.count {r : Nat} {left : Int → Bool} {w' : World} {row : Option Nat} (h : RangeV P mk w M r n f left) (hg : w.grownBy w' row) (hb : some M ≠ row) (hr : some r ≠ row) : w'.rangeLeft M r = w.rangeLeft M r := by
  obtain ⟨D, lf, cnt, h1, h2⟩ := h
  rw [h1.left_eq, (h1.kept hg hb hr).left_eq]

theorem MapV.range {t e : TypeId} (h : MapV P mk w M n f) (ht : P.underlying t = some (.map 3 e)) :
    ∃ w', (Instr.range t (.map (some M))).run P w = .ok (.pointer (some ⟨w.heap.size, 0, none⟩)) w' ∧ RangeV P mk w' M w.heap.size n f (fun q => (f q).isSome) ∧ w.grownBy w' none ∧ w'.heap.size = w.heap.size + 1 ∧ w'.rangeLeft M w.heap.size ≤ n := by
  obtain ⟨D, h1, h2⟩ := h
  obtain ⟨w', hrun, hr, hg, hs⟩ := h1.range (int_keyed h3) ht
  exact ⟨w', hrun, ⟨D, _, _, hr, h2, h2.has, fun q hq => hq⟩, hg, hs, by rw [hr.left_eq]; exact h1.size_le⟩

theorem RangeV.next {r : Nat} {left : Int → Bool} (h : RangeV P mk w M r n f left) (ty : TypeId) :
    ((∀ q, left q = false) ∧ (Instr.next (.pointer (some ⟨r, 0, none⟩)) false ty).run P w = .ok (.tuple #[.bool false]) w) ∨
    ∃ (q : Int) (b : β) (w' : World), (Lit.int .i64 q).wf = true ∧ f q = some b ∧ left q = true ∧ (Instr.next (.pointer (some ⟨r, 0, none⟩)) false ty).run P w = .ok (.tuple #[.bool true, .int .i64 q, mk b]) w' ∧
      RangeV P mk w' M r n f (fun x => left x && !decide (x = q)) ∧ w'.rangeLeft M r < w.rangeLeft M r ∧ w.grownBy w' (some r) ∧ w'.heap.size = w.heap.size ∧ (Instr.entry (.pointer (some ⟨r, 0, none⟩))).run P w' = .ok (.tuple #[.int .i64 q, mk b]) w' := by
  obtain ⟨D, lf, cnt, h1, h2, h4, h5⟩ := h
  rcases h1.next (int_keyed h3) ty with ⟨_, hl, hrun⟩ | ⟨key, v, kl, y, w', cnt', hkey, hlk, hv, hat, hrun, hrg, hlt, hgr, hsz, hen⟩
  · exact .inl ⟨fun q => by rw [← h4 q]; exact hl _, hrun⟩
  · obtain ⟨x, rfl, rfl, hwf⟩ := Maps.keyOf_int_inv h3 hkey
    have hx : left x = true := by rw [← h4 x]; exact hlk
    obtain ⟨b, hb⟩ := Option.isSome_iff_exists.1 (h5 x hx)
    have e1 := (hat (.held v)).symm.trans (h2.at_ x b hb _)
    have e2 : y.1 = .held v := (congrArg Prod.fst (Option.some.inj hv)).symm
    have e3 : v = mk b := DataW.held.inj (e2.symm.trans e1)
    subst e3
    refine .inr ⟨x, b, w', hwf, hb, hx, hrun, ⟨D, _, cnt', hrg, h2, fun q => ?_, fun q hq => ?_⟩, ?_, hgr, hsz, hen⟩
    · show (lf (.int .i64 q) && !(Lit.int .i64 q).sameKey (.int .i64 x)) = _
      rw [h4 q, sameV]
    · simp at hq; exact h5 q hq.1
    · rw [h1.left_eq, hrg.left_eq]; exact hlt

end

/-! ### at the operation, for the walk -/
section
variable {P : Program} {β : Type} {mk : β → Value} (w : World) {ops : Array Oper} {rest : List Oper} {o : Oper} {a : Act} {Q : Exit → Act → World → Prop}

theorem wpList_range_v (h3 : P.underlying 3 = some (.int .i64)) (hg : o.guard = none) (m : Operand) (t : TypeId) (hop : o.op = Op.range t m) (e : TypeId) (ht : P.underlying t = some (.map 3 e)) (M n : Nat) (f : Int → Option β)
    (hm : a.eval m = .map (some M)) (h : MapV P mk w M n f)
    (hK : ∀ w', RangeV P mk w' M w.heap.size n f (fun q => (f q).isSome) → w.grownBy w' none → w'.heap.size = w.heap.size + 1 → w'.rangeLeft M w.heap.size ≤ n → wpList P ops Q rest (a.put o.dst (.pointer (some ⟨w.heap.size, 0, none⟩))) w') :
    wpList P ops Q (o :: rest) a w := by
  refine wpList_plain hg fun K' hK' => ?_
  obtain ⟨w', hrun, r1, r2, r3, r4⟩ := h.range h3 ht
  unfold Oper.wp
  simp [execOp, hop, hm, hrun, Result.andThen]
  exact hK' _ _ (hK w' r1 r2 r3 r4)

theorem wpList_next_v (h3 : P.underlying 3 = some (.int .i64)) (hg : o.guard = none) (it : Operand) (hop : o.op = Op.next it false) (M r n : Nat) (f : Int → Option β) (left : Int → Bool)
    (hit : a.eval it = .pointer (some ⟨r, 0, none⟩)) (h : RangeV P mk w M r n f left)
    (hDone : (∀ q, left q = false) → wpList P ops Q rest (a.put o.dst (.tuple #[.bool false])) w)
    (hMore : ∀ (q : Int) (b : β) (w' : World), (Lit.int .i64 q).wf = true → f q = some b → left q = true → RangeV P mk w' M r n f (fun x => left x && !decide (x = q)) → w'.rangeLeft M r < w.rangeLeft M r →
      w.grownBy w' (some r) → w'.heap.size = w.heap.size → (Instr.entry (.pointer (some ⟨r, 0, none⟩))).run P w' = .ok (.tuple #[.int .i64 q, mk b]) w' → wpList P ops Q rest (a.put o.dst (.tuple #[.bool true, .int .i64 q, mk b])) w') :
    wpList P ops Q (o :: rest) a w := by
  refine wpList_plain hg fun K' hK' => ?_
  unfold Oper.wp
  rcases h.next h3 o.type with ⟨hl, hrun⟩ | ⟨q, b, w', hwf, hb, hx, hrun, hrg, hlt, hgr, hsz, hen⟩
  · simp [execOp, hop, hit, hrun, Result.andThen]
    exact hK' _ _ (hDone hl)
  · simp [execOp, hop, hit, hrun, Result.andThen]
    exact hK' _ _ (hMore q b w' hwf hb hx hrg hlt hgr hsz hen)

theorem wpList_store_v (h3 : P.underlying 3 = some (.int .i64)) (hg : o.guard = none) (m x v : Operand) (t : TypeId) (hop : o.op = Op.mapUpdate t m x v) (e : TypeId) (ht : P.underlying t = some (.map 3 e)) (M n : Nat) (f : Int → Option β)
    (hm : a.eval m = .map (some M)) (h : MapV P mk w M n f) (hn : n < 1000) (q : Int) (hx : a.eval x = .int .i64 q) (hq : (Lit.int .i64 q).wf = true) (b : β) (hv : a.eval v = mk b)
    (hK : ∀ w', MapV P mk w' M (n + 1) (putK f q (some b)) → w.grownBy w' (some M) → wpList P ops Q rest (a.put o.dst undef) w') :
    wpList P ops Q (o :: rest) a w := by
  refine wpList_plain hg fun K' hK' => ?_
  obtain ⟨w', hrun, r1, r2⟩ := h.store h3 ht hn hq b
  unfold Oper.wp
  simp [execOp, hop, hm, hx, hv, hrun, Result.andThen]
  exact hK' _ _ (hK w' r1 r2)

theorem wpList_insert_v (h3 : P.underlying 3 = some (.int .i64)) (hg : o.guard = none) (m x v : Operand) (t : TypeId) (hop : o.op = Op.insert t m x v) (e : TypeId) (ht : P.underlying t = some (.map 3 e)) (M n : Nat) (f : Int → Option β)
    (hm : a.eval m = .map (some M)) (h : MapV P mk w M n f) (hn : n < 1000) (q : Int) (hx : a.eval x = .int .i64 q) (hq : (Lit.int .i64 q).wf = true) (b : β) (hv : a.eval v = mk b)
    (hK : ∀ w', MapV P mk w' M (n + 1) (putK f q (some b)) → w.grownBy w' (some M) → wpList P ops Q rest (a.put o.dst undef) w') :
    wpList P ops Q (o :: rest) a w := by
  refine wpList_plain hg fun K' hK' => ?_
  obtain ⟨w', hrun, r1, r2⟩ := h.store h3 ht hn hq b
  unfold Oper.wp
  simp [execOp, hop, hm, hx, hv, hrun, Result.andThen]
  exact hK' _ _ (hK w' r1 r2)

theorem wpList_look_some {t e : TypeId} (h3 : P.underlying 3 = some (.int .i64)) (hg : o.guard = none) (m x : Operand) (hop : o.op = Op.lookup t m x true) (ht : P.underlying t = some (.map 3 e)) (M n : Nat) (f : Int → Option β)
    {z : Value} (hz : (zeroValue e).run P w = .ok z w) (hm : a.eval m = .map (some M)) (h : MapV P mk w M n f) (q : Int) (hx : a.eval x = .int .i64 q) (hq : (Lit.int .i64 q).wf = true) (b : β) (hf : f q = some b)
    (hK : wpList P ops Q rest (a.put o.dst (.tuple #[mk b, .bool true])) w) :
    wpList P ops Q (o :: rest) a w := by
  refine wpList_plain hg fun K' hK' => ?_
  obtain ⟨v, hrun, hv⟩ := h.look h3 ht hz hq
  obtain rfl := hv b hf
  rw [hf] at hrun
  unfold Oper.wp
  simp [execOp, hop, hm, hx, hrun, Result.andThen]
  exact hK' _ _ hK

theorem wpList_look_none {t e : TypeId} (h3 : P.underlying 3 = some (.int .i64)) (hg : o.guard = none) (m x : Operand) (hop : o.op = Op.lookup t m x true) (ht : P.underlying t = some (.map 3 e)) (M n : Nat) (f : Int → Option β)
    {z : Value} (hz : (zeroValue e).run P w = .ok z w) (hm : a.eval m = .map (some M)) (h : MapV P mk w M n f) (q : Int) (hx : a.eval x = .int .i64 q) (hq : (Lit.int .i64 q).wf = true) (hf : f q = none)
    (hK : wpList P ops Q rest (a.put o.dst (.tuple #[z, .bool false])) w) :
    wpList P ops Q (o :: rest) a w := by
  refine wpList_plain hg fun K' hK' => ?_
  have hrun := h.look_none h3 ht hz hq hf
  unfold Oper.wp
  simp [execOp, hop, hm, hx, hrun, Result.andThen]
  exact hK' _ _ hK

end

end Go.Proofs.YtmonbkoelehdlaaDoor
