/-
  Walks over maps whose keys are pairs, nil or not; the laws at the operation.
-/
import Derived.Test.YthphoiadhddggaaDoorMpK
namespace Go.Proofs.YthphoiadhddggaaDoor
open Go.RowKit Go.WideMaps
open Go.Maps (Keyed IsMap)

/-- A map, nil or not, that tells f. -/
def MapO (P : Program) (kt : TypeId) {β : Type} (mk : β → Value) (w : World) (p : Option Nat) (f : Int → Int → Option β) : Prop :=
  (p = none ∧ f = fun _ _ => none) ∨ ∃ M, p = some M ∧ MapK P kt mk w M f
/-- A walk over it under way: block r is the iterator; left: what is still to come. -/
def RangeK (P : Program) (kt : TypeId) {β : Type} (mk : β → Value) (w : World) (M r : Nat) (f : Int → Int → Option β) (left : Int → Int → Bool) : Prop :=
  ∃ (n : Nat) (D : DataW Value) (lf : Lit → Bool) (cnt : Nat), w.ranges P kt heldK M r n D lf cnt ∧ TellsK P kt mk D f ∧ (∀ a b, Wf2 a b → lf (pairL P kt a b) = left a b) ∧ (∀ kl, lf kl = true → Maps.has D kl = true) ∧ (∀ a b, left a b = true → (f a b).isSome = true)
def RangeO (P : Program) (kt : TypeId) {β : Type} (mk : β → Value) (w : World) (p : Option Nat) (r : Nat) (f : Int → Int → Option β) (left : Int → Int → Bool) : Prop :=
  (p = none ∧ f = (fun _ _ => none) ∧ (∀ a b, left a b = false) ∧ w.heap[r]? = some (.mapIter none 0 #[] 0)) ∨ ∃ M, p = some M ∧ RangeK P kt mk w M r f left
def leftO (w : World) (p : Option Nat) (r : Nat) : Nat := match p with | none => 0 | some M => w.rangeLeft M r

section
variable {P : Program} {kt : TypeId} {β : Type} {mk : β → Value} {w : World} {M r : Nat} {p : Option Nat} {f : Int → Int → Option β} {left : Int → Int → Bool}
theorem MapO.below {B : Nat} {w' : World} (h : MapO P kt mk w p f) (hb : Below B w w') (hM : ∀ M, p = some M → M < B) : MapO P kt mk w' p f := by
  rcases h with h | ⟨M, rfl, h⟩
  · exact .inl h
  · exact .inr ⟨M, rfl, h.below hb (hM M rfl)⟩
theorem MapO.lt (h : MapO P kt mk w p f) : ∀ M, p = some M → M < w.heap.size := by
  rcases h with ⟨rfl, _⟩ | ⟨M, rfl, h⟩
  · intro M h; cases h
  · intro M' e; obtain rfl := Option.some.inj e; exact h.lt
theorem MapO.bel {w' : World} (h : MapO P kt mk w p f) (hb : Below w.heap.size w w') : MapO P kt mk w' p f := h.below hb h.lt
theorem MapO.kept {w' : World} {row : Option Nat} (h : MapO P kt mk w p f) (hg : w.grownBy w' row) (hne : ∀ M, p = some M → some M ≠ row) : MapO P kt mk w' p f := by
  rcases h with h | ⟨M, rfl, h⟩
  · exact .inl h
  · exact .inr ⟨M, rfl, h.kept hg (hne M rfl)⟩
theorem MapO.wf (h : MapO P kt mk w p f) {a b : Int} {x : β} (hx : f a b = some x) : Wf2 a b := by
  rcases h with ⟨_, rfl⟩ | ⟨M, rfl, h⟩
  · cases hx
  · exact h.wf hx
theorem MapO.look {t e : TypeId} (K : PairK P kt) (h : MapO P kt mk w p f) (ht : P.underlying t = some (.map kt e)) {z : Value} (hz : (zeroValue e).run P w = .ok z w) {a b : Int} (hk : Wf2 a b) :
    (Instr.lookup t (.map p) (pairV a b) false).run P w = .ok (match f a b with | some x => mk x | none => z) w := by
  rcases h with ⟨rfl, rfl⟩ | ⟨M, rfl, h⟩
  · simpa using Maps.look_nil (w := w) false K.keyed ht hz (pair_key K hk)
  · exact h.look K ht hz hk
theorem MapO.look_ok {t e : TypeId} (K : PairK P kt) (h : MapO P kt mk w p f) (ht : P.underlying t = some (.map kt e)) {z : Value} (hz : (zeroValue e).run P w = .ok z w) {a b : Int} (hk : Wf2 a b) :
    (Instr.lookup t (.map p) (pairV a b) true).run P w = .ok (.tuple #[match f a b with | some x => mk x | none => z, .bool (f a b).isSome]) w := by
  rcases h with ⟨rfl, rfl⟩ | ⟨M, rfl, h⟩
  · simpa using Maps.look_nil (w := w) true K.keyed ht hz (pair_key K hk)
  · exact h.look_ok K ht hz hk
/-- The keys, each once; their number is its length. -/
theorem MapO.keys {t e : TypeId} (K : PairK P kt) (h : MapO P kt mk w p f) (ht : P.underlying t = some (.map kt e)) (ty : TypeId) :
    ∃ ks : List (Int × Int), ks.Nodup ∧ (∀ a b, (a, b) ∈ ks ↔ (f a b).isSome = true) ∧ (Builtin.len_ #[t] ty #[.map p]).run P w = .ok (.int .i64 ((ks.length : Nat) : Int)) w := by
  rcases h with ⟨rfl, rfl⟩ | ⟨M, rfl, h⟩
  · exact ⟨[], List.nodup_nil, fun a b => by simp, by simpa using Maps.len_nil (w := w) ht ty⟩
  · obtain ⟨ks, h1, h2, D, h3, _, h5⟩ := h.keys K
    exact ⟨ks, h1, h2, by rw [← h5]; exact h3.len ht ty⟩

theorem RangeK.map (h : RangeK P kt mk w M r f left) : MapK P kt mk w M f := by
  obtain ⟨n, D, lf, cnt, h1, h2, _⟩ := h
  exact ⟨n, D, h1.owns, h2⟩
theorem RangeK.kept {w' : World} {row : Option Nat} (h : RangeK P kt mk w M r f left) (hg : w.grownBy w' row) (hb : some M ≠ row) (hr : some r ≠ row) : RangeK P kt mk w' M r f left ∧ w'.rangeLeft M r = w.rangeLeft M r := by
  obtain ⟨n, D, lf, cnt, h1, h2⟩ := h
  exact ⟨⟨n, D, lf, cnt, h1.kept hg hb hr, h2⟩, by rw [h1.left_eq, (h1.kept hg hb hr).left_eq]⟩
theorem RangeK.ltr (h : RangeK P kt mk w M r f left) : r < w.heap.size := by
  obtain ⟨n, D, lf, cnt, h1, _⟩ := h
  exact h1.lt
theorem RangeO.map (h : RangeO P kt mk w p r f left) : MapO P kt mk w p f := by
  rcases h with ⟨h1, h2, _⟩ | ⟨M, rfl, h⟩
  · exact .inl ⟨h1, h2⟩
  · exact .inr ⟨M, rfl, h.map⟩
theorem RangeO.ltr (h : RangeO P kt mk w p r f left) : r < w.heap.size := by
  rcases h with ⟨_, _, _, h⟩ | ⟨M, rfl, h⟩
  · exact (Array.getElem?_eq_some_iff.1 h).1
  · exact h.ltr
theorem RangeO.kept {w' : World} {row : Option Nat} (h : RangeO P kt mk w p r f left) (hg : w.grownBy w' row) (hb : ∀ M, p = some M → some M ≠ row) (hr : some r ≠ row) : RangeO P kt mk w' p r f left ∧ leftO w' p r = leftO w p r := by
  rcases h with ⟨rfl, h1, h2, h3⟩ | ⟨M, rfl, h⟩
  · exact ⟨.inl ⟨rfl, h1, h2, (hg.block r (Array.getElem?_eq_some_iff.1 h3).1 hr).trans h3⟩, rfl⟩
  · have := h.kept hg (hb M rfl) hr
    exact ⟨.inr ⟨M, rfl, this.1⟩, this.2⟩
theorem RangeO.within (h : RangeO P kt mk w p r f left) {a b : Int} (hl : left a b = true) : (f a b).isSome = true := by
  rcases h with ⟨_, _, h, _⟩ | ⟨M, rfl, n, D, lf, cnt, _, _, _, _, h⟩
  · rw [h a b] at hl; cases hl
  · exact h a b hl
theorem MapO.range {t e : TypeId} (K : PairK P kt) (h : MapO P kt mk w p f) (ht : P.underlying t = some (.map kt e)) :
    ∃ w', (Instr.range t (.map p)).run P w = .ok (.pointer (some ⟨w.heap.size, 0, none⟩)) w' ∧ RangeO P kt mk w' p w.heap.size f (fun a b => (f a b).isSome) ∧ w.grownBy w' none ∧ w'.heap.size = w.heap.size + 1 := by
  rcases h with ⟨rfl, rfl⟩ | ⟨M, rfl, n, D, h1, h2⟩
  · exact ⟨_, run_range_nilMap w t kt e ht, .inl ⟨rfl, rfl, fun _ _ => rfl, heap_alloc_new w _⟩, World.grownBy_alloc w _ none, by simp⟩
  · obtain ⟨w', hrun, hr, hg, hs⟩ := h1.range K.keyed ht
    exact ⟨w', hrun, .inr ⟨M, rfl, n, D, _, _, hr, h2, h2.has, fun kl hq => hq, fun a b h => h⟩, hg, hs⟩
theorem RangeO.next (K : PairK P kt) (h : RangeO P kt mk w p r f left) (ty : TypeId) :
    ((∀ a b, left a b = false) ∧ (Instr.next (.pointer (some ⟨r, 0, none⟩)) false ty).run P w = .ok (.tuple #[.bool false]) w) ∨
    ∃ (a b : Int) (x : β) (w' : World), Wf2 a b ∧ f a b = some x ∧ left a b = true ∧ (Instr.next (.pointer (some ⟨r, 0, none⟩)) false ty).run P w = .ok (.tuple #[.bool true, pairV a b, mk x]) w' ∧
      RangeO P kt mk w' p r f (fun p q => left p q && !decide (p = a ∧ q = b)) ∧ leftO w' p r < leftO w p r ∧ w.grownBy w' (some r) ∧ w'.heap.size = w.heap.size ∧ (Instr.entry (.pointer (some ⟨r, 0, none⟩))).run P w' = .ok (.tuple #[pairV a b, mk x]) w' := by
  rcases h with ⟨rfl, rfl, h2, h3⟩ | ⟨M, rfl, n, D, lf, cnt, h1, h2, h4, h5, h6⟩
  · refine .inl ⟨h2, ?_⟩
    simp only [Instr.next, getObj, Sem.run_bind, Sem.run, h3, Result.andThen]
    rfl
  · rcases h1.next K.keyed ty with ⟨_, hl, hrun⟩ | ⟨key, v, kl, y, w', cnt', hkey, hlk, hv, hat, hrun, hrg, hlt, hgr, hsz, hen⟩
    · refine .inl ⟨fun a b => ?_, hrun⟩
      cases e : left a b with
      | false => rfl
      | true =>
        obtain ⟨x, hx⟩ := Option.isSome_iff_exists.1 (h6 a b e)
        rw [← h4 a b (h2.wf a b x hx)] at e
        rw [hl] at e; cases e
    · obtain ⟨a, b, hk, rfl⟩ := h2.key kl (h5 kl hlk)
      have ek : key = pairV a b := K.keyed.inj hkey (pair_key K hk)
      subst ek
      have hx : left a b = true := by rw [← h4 a b hk]; exact hlk
      obtain ⟨g, hg⟩ := Option.isSome_iff_exists.1 (h6 a b hx)
      have e1 := (hat (.held v)).symm.trans (h2.at_ a b g hg _)
      have e2 : y.1 = .held v := (congrArg Prod.fst (Option.some.inj hv)).symm
      have e3 : v = mk g := DataW.held.inj (e2.symm.trans e1)
      subst e3
      refine .inr ⟨a, b, g, w', hk, hg, hx, hrun, .inr ⟨M, rfl, n, D, _, cnt', hrg, h2, fun p q hp => ?_, fun kl' hq => ?_, fun p q hq => ?_⟩, ?_, hgr, hsz, hen⟩
      · show (lf (pairL P kt p q) && !(pairL P kt p q).sameKey (pairL P kt a b)) = _
        rw [h4 p q hp]
        congr 2
        by_cases e : p = a ∧ q = b
        · obtain ⟨rfl, rfl⟩ := e
          rw [WideAt.sameKey_self (isKeyK K hk)]; simp
        · rw [Maps.sameKey_ne (fun e' => e (pairL_inj K hp hk e')), decide_eq_false e]
      · simp only [Bool.and_eq_true] at hq
        exact h5 kl' hq.1
      · simp only [Bool.and_eq_true] at hq
        exact h6 p q hq.1
      · show w'.rangeLeft M r < w.rangeLeft M r
        rw [h1.left_eq, hrg.left_eq]; exact hlt
end

/-! ### at the operation, for the walk -/
section
variable {P : Program} {kt : TypeId} {β : Type} {mk : β → Value} (w : World) {ops : Array Oper} {rest : List Oper} {o : Oper} {a : Act} {Q : Exit → Act → World → Prop}
theorem wpList_range_k (K : PairK P kt) (hg : o.guard = none) (m : Operand) (t : TypeId) (hop : o.op = Op.range t m) (e : TypeId) (ht : P.underlying t = some (.map kt e)) (p : Option Nat) (f : Int → Int → Option β)
    (hm : a.eval m = .map p) (h : MapO P kt mk w p f)
    (hK : ∀ w', RangeO P kt mk w' p w.heap.size f (fun a b => (f a b).isSome) → w.grownBy w' none → w'.heap.size = w.heap.size + 1 → wpList P ops Q rest (a.put o.dst (.pointer (some ⟨w.heap.size, 0, none⟩))) w') :
    wpList P ops Q (o :: rest) a w := by
  refine wpList_plain hg fun K' hK' => ?_
  obtain ⟨w', hrun, r1, r2, r3⟩ := h.range K ht
  unfold Oper.wp
  simp [execOp, hop, hm, hrun, Result.andThen]
  exact hK' _ _ (hK w' r1 r2 r3)
theorem wpList_next_k (K : PairK P kt) (hg : o.guard = none) (it : Operand) (hop : o.op = Op.next it false) (p : Option Nat) (r : Nat) (f : Int → Int → Option β) (left : Int → Int → Bool)
    (hit : a.eval it = .pointer (some ⟨r, 0, none⟩)) (h : RangeO P kt mk w p r f left)
    (hDone : (∀ a b, left a b = false) → wpList P ops Q rest (a.put o.dst (.tuple #[.bool false])) w)
    (hMore : ∀ (x y : Int) (v : β) (w' : World), Wf2 x y → f x y = some v → left x y = true → RangeO P kt mk w' p r f (fun p q => left p q && !decide (p = x ∧ q = y)) → leftO w' p r < leftO w p r →
      w.grownBy w' (some r) → w'.heap.size = w.heap.size → (Instr.entry (.pointer (some ⟨r, 0, none⟩))).run P w' = .ok (.tuple #[pairV x y, mk v]) w' → wpList P ops Q rest (a.put o.dst (.tuple #[.bool true, pairV x y, mk v])) w') :
    wpList P ops Q (o :: rest) a w := by
  refine wpList_plain hg fun K' hK' => ?_
  unfold Oper.wp
  rcases h.next K o.type with ⟨hl, hrun⟩ | ⟨x, y, v, w', hk, hb, hx, hrun, hrg, hlt, hgr, hsz, hen⟩
  · simp [execOp, hop, hit, hrun, Result.andThen]
    exact hK' _ _ (hDone hl)
  · simp [execOp, hop, hit, hrun, Result.andThen]
    exact hK' _ _ (hMore x y v w' hk hb hx hrg hlt hgr hsz hen)
theorem wpList_look_k (K : PairK P kt) (hg : o.guard = none) (m k : Operand) (t : TypeId) (hop : o.op = Op.lookup t m k false) (e : TypeId) (ht : P.underlying t = some (.map kt e)) (p : Option Nat) (f : Int → Int → Option β)
    (hm : a.eval m = .map p) (h : MapO P kt mk w p f) {z : Value} (hz : (zeroValue e).run P w = .ok z w) (x y : Int) (hk : a.eval k = pairV x y) (wf : Wf2 x y) (val : Value) (hv : (match f x y with | some v => mk v | none => z) = val)
    (hK : wpList P ops Q rest (a.put o.dst val) w) : wpList P ops Q (o :: rest) a w := by
  refine wpList_plain hg fun K' hK' => ?_
  have hrun := h.look K ht hz wf
  rw [hv] at hrun
  unfold Oper.wp
  simp [execOp, hop, hm, hk, hrun, Result.andThen]
  exact hK' _ _ hK
theorem wpList_lookok_k (K : PairK P kt) (hg : o.guard = none) (m k : Operand) (t : TypeId) (hop : o.op = Op.lookup t m k true) (e : TypeId) (ht : P.underlying t = some (.map kt e)) (p : Option Nat) (f : Int → Int → Option β)
    (hm : a.eval m = .map p) (h : MapO P kt mk w p f) {z : Value} (hz : (zeroValue e).run P w = .ok z w) (x y : Int) (hk : a.eval k = pairV x y) (wf : Wf2 x y) (val : Value) (ok : Bool) (hv : (match f x y with | some v => mk v | none => z) = val) (ho : (f x y).isSome = ok)
    (hK : wpList P ops Q rest (a.put o.dst (.tuple #[val, .bool ok])) w) : wpList P ops Q (o :: rest) a w := by
  refine wpList_plain hg fun K' hK' => ?_
  have hrun := h.look_ok K ht hz wf
  rw [hv, ho] at hrun
  unfold Oper.wp
  simp [execOp, hop, hm, hk, hrun, Result.andThen]
  exact hK' _ _ hK
theorem wpList_store_k (K : PairK P kt) (hg : o.guard = none) (m x v : Operand) (t : TypeId) (hop : o.op = Op.mapUpdate t m x v) (e : TypeId) (ht : P.underlying t = some (.map kt e)) (M : Nat) (f : Int → Int → Option β)
    (hm : a.eval m = .map (some M)) (h : MapK P kt mk w M f) (hf : Few 100000 f) (p q : Int) (hx : a.eval x = pairV p q) (hq : Wf2 p q) (b : β) (hv : a.eval v = mk b)
    (hK : ∀ w', MapK P kt mk w' M (putK2 f p q b) → w.grownBy w' (some M) → w'.heap.size = w.heap.size → wpList P ops Q rest (a.put o.dst undef) w') :
    wpList P ops Q (o :: rest) a w := by
  refine wpList_plain hg fun K' hK' => ?_
  obtain ⟨w', hrun, r1, r2, r3⟩ := h.store K ht hf hq b
  unfold Oper.wp
  simp [execOp, hop, hm, hx, hv, hrun, Result.andThen]
  exact hK' _ _ (hK w' r1 r2 r3)
theorem wpList_again_k (K : PairK P kt) (hg : o.guard = none) (m x v : Operand) (t : TypeId) (hop : o.op = Op.mapUpdate t m x v) (e : TypeId) (ht : P.underlying t = some (.map kt e)) (M : Nat) (f : Int → Int → Option β)
    (hm : a.eval m = .map (some M)) (h : MapK P kt mk w M f) (p q : Int) (hx : a.eval x = pairV p q) (b : β) (hb : f p q = some b) (hv : a.eval v = mk b)
    (hK : wpList P ops Q rest (a.put o.dst undef) w) :
    wpList P ops Q (o :: rest) a w := by
  refine wpList_plain hg fun K' hK' => ?_
  have hrun := h.store_same K ht hb
  unfold Oper.wp
  simp [execOp, hop, hm, hx, hv, hrun, Result.andThen]
  exact hK' _ _ hK
end
end Go.Proofs.YthphoiadhddggaaDoor
