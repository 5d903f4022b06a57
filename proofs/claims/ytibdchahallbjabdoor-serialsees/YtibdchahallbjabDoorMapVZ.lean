/-
  A map from ints in memory, whatever its elements: what it tells of each key; walking over it in whatever order.
  Two maps from ints to ints held against each other: how many keys there are; maps.Equal, walked.
  maps.Equal at maps from ints to ints, walked.
-/
import Derived.Test.YtibdchahallbjabDoorZnP
import Derived.Maps.RangeWalk
import Derived.Test.YtibdchahallbjabDoorBsG
import Derived.Maps.OwnSet
namespace Go.Proofs.YtibdchahallbjabDoor
open Go.RowKit
open Go.Maps (Keyed int_keyed IsMap)

/-- How an element reads: as itself. -/
def heldR (v : Value) : Option (DataW Value × List MemPlace) := some (.held v, [])

structure TellsV {β : Type} (mk : β → Value) (D : DataW Value) (f : Int → Option β) : Prop where
  has : ∀ q : Int, Maps.has D (.int .i64 q) = (f q).isSome
  at_ : ∀ q b, f q = some b → ∀ z, D.atKey (.int .i64 q) z = .held (mk b)

/-- Block M is a map that tells f. -/
def MapV (P : Program) {β : Type} (mk : β → Value) (w : World) (M n : Nat) (f : Int → Option β) : Prop :=
  ∃ D : DataW Value, w.ownsMap P 3 heldR M n D ∧ TellsV mk D f

/-- A walk over it under way: block r is the iterator; left: what is still to come. -/
def RangeV (P : Program) {β : Type} (mk : β → Value) (w : World) (M r n : Nat) (f : Int → Option β) (left : Int → Bool) : Prop :=
  ∃ (D : DataW Value) (lf : Lit → Bool) (cnt : Nat), w.ranges P 3 heldR M r n D lf cnt ∧ TellsV mk D f ∧ (∀ q : Int, lf (.int .i64 q) = left q) ∧ ∀ q, left q = true → (f q).isSome = true

theorem isKeyV (p : Int) : WideAt.IsKeyLit (.int .i64 p) := by simp [WideAt.IsKeyLit]
theorem keyNe {p q : Int} (h : q ≠ p) : (Lit.int .i64 q) ≠ .int .i64 p := fun k => h (by simpa using k)
theorem sameV (q x : Int) : (Lit.int .i64 q).sameKey (.int .i64 x) = decide (q = x) := by
  by_cases h : q = x
  · subst h
    simp [Lit.sameKey]
  · rw [Maps.sameKey_ne (keyNe h)]
    simp [h]

section
variable {P : Program} {β : Type} {mk : β → Value} {w : World} {M n : Nat} {f : Int → Option β}

theorem MapV.kept {w' : World} {row : Option Nat} (h : MapV P mk w M n f) (hg : w.grownBy w' row) (hne : some M ≠ row) : MapV P mk w' M n f := by
  obtain ⟨D, h1, h2⟩ := h
  exact ⟨D, h1.kept hg hne, h2⟩
theorem MapV.mono {n' : Nat} (h : MapV P mk w M n f) (hn : n ≤ n') : MapV P mk w M n' f := by
  obtain ⟨D, h1, h2⟩ := h
  exact ⟨D, h1.mono hn, h2⟩
theorem MapV.alloc (h : MapV P mk w M n f) (o : Obj) : MapV P mk (w.alloc o) M n f := h.kept (World.grownBy_alloc w o none) (by simp)
theorem MapV.drew (h : MapV P mk w M n f) : MapV P mk w.drew M n f := by
  obtain ⟨D, h1, h2⟩ := h
  exact ⟨D, h1.drew, h2⟩
theorem MapV.lt (h : MapV P mk w M n f) : M < w.heap.size := by
  obtain ⟨D, h1, _⟩ := h
  exact h1.lt
theorem MapV.below {B : Nat} {w' : World} (h : MapV P mk w M n f) (hb : Below B w w') (hM : M < B) : MapV P mk w' M n f := by
  obtain ⟨D, ⟨es, clock, hb1, F, hs, hD⟩, h2⟩ := h
  exact ⟨D, ⟨es, clock, (hb.block M hM).trans hb1, F, hs, hD⟩, h2⟩
theorem mapV_made (w : World) (P : Program) (mk : β → Value) : MapV P mk (w.alloc (.map #[] 0)) w.heap.size 0 (fun _ => none) :=
  ⟨_, World.ownsMap_made w P 3 heldR, fun _ => rfl, fun _ _ h => by cases h⟩

variable (h3 : P.underlying 3 = some (.int .i64))
include h3

theorem MapV.look {t e : TypeId} (h : MapV P mk w M n f) (ht : P.underlying t = some (.map 3 e)) {z : Value} (hz : (zeroValue e).run P w = .ok z w) {q : Int} (hq : (Lit.int .i64 q).wf = true) :
    ∃ v, (Instr.lookup t (.map (some M)) (.int .i64 q) true).run P w = .ok (.tuple #[v, .bool (f q).isSome]) w ∧ ∀ b, f q = some b → v = mk b := by
  obtain ⟨D, h1, h2⟩ := h
  obtain ⟨v, ps, hrun, hv⟩ := h1.look_ok (int_keyed h3) ht hz (zd := .held z) (zp := []) rfl (Go.Maps.keyOf_int_mk h3 hq)
  refine ⟨v, by rw [← h2.has q]; exact hrun, fun b hb => ?_⟩
  rw [h2.at_ q b hb] at hv
  have := congrArg Prod.fst (Option.some.inj hv)
  exact DataW.held.inj this

theorem MapV.look_none {t e : TypeId} (h : MapV P mk w M n f) (ht : P.underlying t = some (.map 3 e)) {z : Value} (hz : (zeroValue e).run P w = .ok z w) {q : Int} (hq : (Lit.int .i64 q).wf = true) (hf : f q = none) :
    (Instr.lookup t (.map (some M)) (.int .i64 q) true).run P w = .ok (.tuple #[z, .bool false]) w := by
  obtain ⟨D, h1, h2⟩ := h
  obtain ⟨v, ps, hrun, hv⟩ := h1.look_ok (int_keyed h3) ht hz (zd := .held z) (zp := []) rfl (Go.Maps.keyOf_int_mk h3 hq)
  have hno : Maps.has D (.int .i64 q) = false := by rw [h2.has q, hf]; rfl
  rw [Maps.atKey_of_not_has hno] at hv
  have := DataW.held.inj (congrArg Prod.fst (Option.some.inj hv))
  subst this
  rw [hno] at hrun
  exact hrun

theorem MapV.store {t e : TypeId} (h : MapV P mk w M n f) (ht : P.underlying t = some (.map 3 e)) (hn : n < 1000) {q : Int} (hq : (Lit.int .i64 q).wf = true) (b : β) :
    ∃ w', (Instr.mapUpdate t (.map (some M)) (.int .i64 q) (mk b)).run P w = .ok () w' ∧ MapV P mk w' M (n + 1) (putK f q (some b)) ∧ w.grownBy w' (some M) := by
  obtain ⟨D, h1, h2⟩ := h
  obtain ⟨w', hrun, ho, ht'⟩ := h1.store (val := mk b) (int_keyed h3) ht (by unfold maxLen; omega) (Go.Maps.keyOf_int_mk h3 hq) (d := .held (mk b)) (ps := []) rfl
  refine ⟨w', hrun, ⟨_, ho, fun p => ?_, fun p c hc z => ?_⟩, ht'.grown⟩
  · by_cases e : p = q
    · subst e; rw [putK_same, Maps.has_put_same h1.isMap (isKeyV p)]; rfl
    · rw [putK_other _ _ _ _ e, Maps.has_put_other (keyNe e)]; exact h2.has p
  · by_cases e : p = q
    · subst e; rw [putK_same] at hc; obtain rfl := Option.some.inj hc; exact Maps.atKey_put_same h1.isMap (isKeyV p) _ z
    · rw [putK_other _ _ _ _ e] at hc; rw [Maps.atKey_put_other (keyNe e)]; exact h2.at_ p c hc z

omit h3 in
theorem RangeV.map {r : Nat} {left : Int → Bool} (h : RangeV P mk w M r n f left) : MapV P mk w M n f := by
  obtain ⟨D, lf, cnt, h1, h2, _⟩ := h
  exact ⟨D, h1.owns, h2⟩
omit h3 in
theorem RangeV.kept {r : Nat} {left : Int → Bool} {w' : World} {row : Option Nat} (h : RangeV P mk w M r n f left) (hg : w.grownBy w' row) (hb : some M ≠ row) (hr : some r ≠ row) : RangeV P mk w' M r n f left := by
  obtain ⟨D, lf, cnt, h1, h2⟩ := h
  exact ⟨D, lf, cnt, h1.kept hg hb hr, h2⟩
omit h3 in
theorem RangeV.ltr {r : Nat} {left : Int → Bool} (h : RangeV P mk w M r n f left) : r < w.heap.size := by
  obtain ⟨D, lf, cnt, h1, _⟩ := h
  exact h1.lt
omit h3 in
theorem RangeV.ne {r : Nat} {left : Int → Bool} (h : RangeV P mk w M r n f left) : r ≠ M := by
  obtain ⟨D, lf, cnt, h1, _⟩ := h
  exact h1.ne
omit h3 in
theorem RangeV.count {r : Nat} {left : Int → Bool} {w' : World} {row : Option Nat} (h : RangeV P mk w M r n f left) (hg : w.grownBy w' row) (hb : some M ≠ row) (hr : some r ≠ row) : w'.rangeLeft M r = w.rangeLeft M r := by
  obtain ⟨D, lf, cnt, h1, h2⟩ := h
  rw [h1.left_eq, (h1.kept hg hb hr).left_eq]

theorem MapV.range {t e : TypeId} (h : MapV P mk w M n f) (ht : P.underlying t = some (.map 3 e)) :
    ∃ w', (Instr.range t (.map (some M))).run P w = .ok (.pointer (some ⟨w.heap.size, 0, none⟩)) w' ∧ RangeV P mk w' M w.heap.size n f (fun q => (f q).isSome) ∧ w.grownBy w' none ∧ w'.heap.size = w.heap.size + 1 ∧ w'.rangeLeft M w.heap.size ≤ n := by
  obtain ⟨D, h1, h2⟩ := h
  obtain ⟨w', hrun, hr, hg, hs⟩ := h1.range (int_keyed h3) ht
  exact ⟨w', hrun, ⟨D, _, _, hr, h2, h2.has, fun q hq => hq⟩, hg, hs, by rw [hr.left_eq]; exact h1.size_le⟩

theorem RangeV.next {r : Nat} {left : Int → Bool} (h : RangeV P mk w M r n f left) (ty : TypeId) :
    ((∀ q, left q = false) ∧ (Instr.next (.pointer (some ⟨r, 0, none⟩)) false ty).run P w = .ok (.tuple #[.bool false]) w) ∨
    ∃ (q : Int) (b : β) (w' : World), (Lit.int .i64 q).wf = true ∧ f q = some b ∧ left q = true ∧ (Instr.next (.pointer (some ⟨r, 0, none⟩)) false ty).run P w = .ok (.tuple #[.bool true, .int .i64 q, mk b]) w' ∧
      RangeV P mk w' M r n f (fun x => left x && !decide (x = q)) ∧ w'.rangeLeft M r < w.rangeLeft M r ∧ w.grownBy w' (some r) ∧ w'.heap.size = w.heap.size ∧ (Instr.entry (.pointer (some ⟨r, 0, none⟩))).run P w' = .ok (.tuple #[.int .i64 q, mk b]) w' := by
  obtain ⟨D, lf, cnt, h1, h2, h4, h5⟩ := h
  rcases h1.next (int_keyed h3) ty with ⟨_, hl, hrun⟩ | ⟨key, v, kl, y, w', cnt', hkey, hlk, hv, hat, hrun, hrg, hlt, hgr, hsz, hen⟩
  · exact .inl ⟨fun q => by rw [← h4 q]; exact hl _, hrun⟩
  · obtain ⟨x, rfl, rfl, hwf⟩ := Maps.keyOf_int_inv h3 hkey
    have hx : left x = true := by rw [← h4 x]; exact hlk
    obtain ⟨b, hb⟩ := Option.isSome_iff_exists.1 (h5 x hx)
    have e1 := (hat (.held v)).symm.trans (h2.at_ x b hb _)
    have e2 : y.1 = .held v := (congrArg Prod.fst (Option.some.inj hv)).symm
    have e3 : v = mk b := DataW.held.inj (e2.symm.trans e1)
    subst e3
    refine .inr ⟨x, b, w', hwf, hb, hx, hrun, ⟨D, _, cnt', hrg, h2, fun q => ?_, fun q hq => ?_⟩, ?_, hgr, hsz, hen⟩
    · show (lf (.int .i64 q) && !(Lit.int .i64 q).sameKey (.int .i64 x)) = _
      rw [h4 q, sameV]
    · simp at hq; exact h5 q hq.1
    · rw [h1.left_eq, hrg.left_eq]; exact hlt

end

/-! ### at the operation, for the walk -/
section
variable {P : Program} {β : Type} {mk : β → Value} (w : World) {ops : Array Oper} {rest : List Oper} {o : Oper} {a : Act} {Q : Exit → Act → World → Prop}

theorem wpList_range_v (h3 : P.underlying 3 = some (.int .i64)) (hg : o.guard = none) (m : Operand) (t : TypeId) (hop : o.op = Op.range t m) (e : TypeId) (ht : P.underlying t = some (.map 3 e)) (M n : Nat) (f : Int → Option β)
    (hm : a.eval m = .map (some M)) (h : MapV P mk w M n f)
    (hK : ∀ w', RangeV P mk w' M w.heap.size n f (fun q => (f q).isSome) → w.grownBy w' none → w'.heap.size = w.heap.size + 1 → w'.rangeLeft M w.heap.size ≤ n → wpList P ops Q rest (a.put o.dst (.pointer (some ⟨w.heap.size, 0, none⟩))) w') :
    wpList P ops Q (o :: rest) a w := by
  refine wpList_plain hg fun K' hK' => ?_
  obtain ⟨w', hrun, r1, r2, r3, r4⟩ := h.range h3 ht
  unfold Oper.wp
  simp [execOp, hop, hm, hrun, Result.andThen]
  exact hK' _ _ (hK w' r1 r2 r3 r4)

theorem wpList_next_v (h3 : P.underlying 3 = some (.int .i64)) (hg : o.guard = none) (it : Operand) (hop : o.op = Op.next it false) (M r n : Nat) (f : Int → Option β) (left : Int → Bool)
    (hit : a.eval it = .pointer (some ⟨r, 0, none⟩)) (h : RangeV P mk w M r n f left)
    (hDone : (∀ q, left q = false) → wpList P ops Q rest (a.put o.dst (.tuple #[.bool false])) w)
    (hMore : ∀ (q : Int) (b : β) (w' : World), (Lit.int .i64 q).wf = true → f q = some b → left q = true → RangeV P mk w' M r n f (fun x => left x && !decide (x = q)) → w'.rangeLeft M r < w.rangeLeft M r →
      w.grownBy w' (some r) → w'.heap.size = w.heap.size → (Instr.entry (.pointer (some ⟨r, 0, none⟩))).run P w' = .ok (.tuple #[.int .i64 q, mk b]) w' → wpList P ops Q rest (a.put o.dst (.tuple #[.bool true, .int .i64 q, mk b])) w') :
    wpList P ops Q (o :: rest) a w := by
  refine wpList_plain hg fun K' hK' => ?_
  unfold Oper.wp
  rcases h.next h3 o.type with ⟨hl, hrun⟩ | ⟨q, b, w', hwf, hb, hx, hrun, hrg, hlt, hgr, hsz, hen⟩
  · simp [execOp, hop, hit, hrun, Result.andThen]
    exact hK' _ _ (hDone hl)
  · simp [execOp, hop, hit, hrun, Result.andThen]
    exact hK' _ _ (hMore q b w' hwf hb hx hrg hlt hgr hsz hen)

theorem wpList_store_v (h3 : P.underlying 3 = some (.int .i64)) (hg : o.guard = none) (m x v : Operand) (t : TypeId) (hop : o.op = Op.mapUpdate t m x v) (e : TypeId) (ht : P.underlying t = some (.map 3 e)) (M n : Nat) (f : Int → Option β)
    (hm : a.eval m = .map (some M)) (h : MapV P mk w M n f) (hn : n < 1000) (q : Int) (hx : a.eval x = .int .i64 q) (hq : (Lit.int .i64 q).wf = true) (b : β) (hv : a.eval v = mk b)
    (hK : ∀ w', MapV P mk w' M (n + 1) (putK f q (some b)) → w.grownBy w' (some M) → wpList P ops Q rest (a.put o.dst undef) w') :
    wpList P ops Q (o :: rest) a w := by
  refine wpList_plain hg fun K' hK' => ?_
  obtain ⟨w', hrun, r1, r2⟩ := h.store h3 ht hn hq b
  unfold Oper.wp
  simp [execOp, hop, hm, hx, hv, hrun, Result.andThen]
  exact hK' _ _ (hK w' r1 r2)

theorem wpList_insert_v (h3 : P.underlying 3 = some (.int .i64)) (hg : o.guard = none) (m x v : Operand) (t : TypeId) (hop : o.op = Op.insert t m x v) (e : TypeId) (ht : P.underlying t = some (.map 3 e)) (M n : Nat) (f : Int → Option β)
    (hm : a.eval m = .map (some M)) (h : MapV P mk w M n f) (hn : n < 1000) (q : Int) (hx : a.eval x = .int .i64 q) (hq : (Lit.int .i64 q).wf = true) (b : β) (hv : a.eval v = mk b)
    (hK : ∀ w', MapV P mk w' M (n + 1) (putK f q (some b)) → w.grownBy w' (some M) → wpList P ops Q rest (a.put o.dst undef) w') :
    wpList P ops Q (o :: rest) a w := by
  refine wpList_plain hg fun K' hK' => ?_
  obtain ⟨w', hrun, r1, r2⟩ := h.store h3 ht hn hq b
  unfold Oper.wp
  simp [execOp, hop, hm, hx, hv, hrun, Result.andThen]
  exact hK' _ _ (hK w' r1 r2)

theorem wpList_look_some {t e : TypeId} (h3 : P.underlying 3 = some (.int .i64)) (hg : o.guard = none) (m x : Operand) (hop : o.op = Op.lookup t m x true) (ht : P.underlying t = some (.map 3 e)) (M n : Nat) (f : Int → Option β)
    {z : Value} (hz : (zeroValue e).run P w = .ok z w) (hm : a.eval m = .map (some M)) (h : MapV P mk w M n f) (q : Int) (hx : a.eval x = .int .i64 q) (hq : (Lit.int .i64 q).wf = true) (b : β) (hf : f q = some b)
    (hK : wpList P ops Q rest (a.put o.dst (.tuple #[mk b, .bool true])) w) :
    wpList P ops Q (o :: rest) a w := by
  refine wpList_plain hg fun K' hK' => ?_
  obtain ⟨v, hrun, hv⟩ := h.look h3 ht hz hq
  obtain rfl := hv b hf
  rw [hf] at hrun
  unfold Oper.wp
  simp [execOp, hop, hm, hx, hrun, Result.andThen]
  exact hK' _ _ hK

theorem wpList_look_none {t e : TypeId} (h3 : P.underlying 3 = some (.int .i64)) (hg : o.guard = none) (m x : Operand) (hop : o.op = Op.lookup t m x true) (ht : P.underlying t = some (.map 3 e)) (M n : Nat) (f : Int → Option β)
    {z : Value} (hz : (zeroValue e).run P w = .ok z w) (hm : a.eval m = .map (some M)) (h : MapV P mk w M n f) (q : Int) (hx : a.eval x = .int .i64 q) (hq : (Lit.int .i64 q).wf = true) (hf : f q = none)
    (hK : wpList P ops Q rest (a.put o.dst (.tuple #[z, .bool false])) w) :
    wpList P ops Q (o :: rest) a w := by
  refine wpList_plain hg fun K' hK' => ?_
  have hrun := h.look_none h3 ht hz hq hf
  unfold Oper.wp
  simp [execOp, hop, hm, hx, hrun, Result.andThen]
  exact hK' _ _ hK

end

end Go.Proofs.YtibdchahallbjabDoor

namespace Go.Proofs.YtibdchahallbjabDoor
open Go.RowKit
open Go.Maps (Keyed int_keyed IsMap)

theorem nodup_sub {α : Type} [DecidableEq α] : ∀ {l m : List α}, l.Nodup → (∀ x ∈ l, x ∈ m) → l.length ≤ m.length
  | [], _, _, _ => Nat.zero_le _
  | a :: l, m, hn, hs => by
    rw [List.nodup_cons] at hn
    have h1 := nodup_sub (m := m.erase a) hn.2 fun x hx => (List.mem_erase_of_ne (fun (e : x = a) => hn.1 (by rw [← e]; exact hx))).2 (hs x (List.mem_cons_of_mem _ hx))
    have h2 := List.length_erase_of_mem (hs a List.mem_cons_self)
    have h3 : 0 < m.length := List.length_pos_of_mem (hs a List.mem_cons_self)
    simp only [List.length_cons]
    omega

section
variable {P : Program} {β : Type} {mk : β → Value} {w : World} {M n : Nat} {f : Int → Option β}
/-- The keys of a map, each once; their number is its length. -/
theorem MapV.keys (h3 : P.underlying 3 = some (.int .i64)) {t e : TypeId} (h : MapV P mk w M n f) (ht : P.underlying t = some (.map 3 e)) (ty : TypeId) :
    ∃ ks : List Int, ks.Nodup ∧ ks.length ≤ n ∧ (∀ q, q ∈ ks ↔ (f q).isSome = true) ∧ (Builtin.len_ #[t] ty #[.map (some M)]).run P w = .ok (.int .i64 ((ks.length : Nat) : Int)) w := by
  obtain ⟨D, h1, h2⟩ := h
  have hlen := h1.len ht ty
  have hle := h1.size_le
  obtain ⟨es, rfl, hpw, hkey⟩ := h1.entries (int_keyed h3)
  have hint : ∀ p ∈ es, ∃ q : Int, p.1 = .int .i64 q := by
    obtain ⟨xs, clock, _, F, _, hD⟩ := h1
    intro p hp
    rw [show es = (xs.toList.map (WideElems.rg P 3 heldR)).foldr DataW.insert [] from DataW.map.inj hD] at hp
    obtain ⟨x, hx, rfl⟩ := List.mem_map.1 (mem_sorted.1 hp)
    obtain ⟨y, hy⟩ := F.reads x hx
    rw [WideElems.rg_of hy]
    obtain ⟨q, _, e2, _⟩ := Maps.keyOf_int_inv h3 (WideElems.rd_key hy)
    exact ⟨q, e2⟩
  let un : Lit × DataW Value → Int := fun p => match p.1 with | .int _ q => q | _ => 0
  have hun : ∀ p ∈ es, p.1 = .int .i64 (un p) := fun p hp => by
    obtain ⟨q, hq⟩ := hint p hp
    show p.1 = .int .i64 (match p.1 with | .int _ q => q | _ => 0)
    rw [hq]
  refine ⟨es.map un, ?_, by simpa [Maps.size] using hle, fun q => ?_, by simpa [Maps.size] using hlen⟩
  · refine List.pairwise_map.2 (hpw.imp_of_mem fun {p r} hp hr hne e => hne ?_)
    rw [hun p hp, hun r hr, e]
  · rw [← h2.has q, List.mem_map]
    show _ ↔ es.any (fun p => p.1.sameKey (.int .i64 q)) = true
    rw [List.any_eq_true]
    constructor
    · rintro ⟨p, hp, rfl⟩
      exact ⟨p, hp, by rw [hun p hp, sameV]; simp⟩
    · rintro ⟨p, hp, hs⟩
      rw [hun p hp, sameV] at hs
      exact ⟨p, hp, of_decide_eq_true hs⟩
end
end Go.Proofs.YtibdchahallbjabDoor

namespace Go.Proofs.YtibdchahallbjabDoor
open Go.RowKit

abbrev mkI (b : Int) : Value := .int .i64 b
theorem zero3 (w : World) : (zeroValue 3).run Tryd.prog w = .ok (.int .i64 0) w := by kernel_rfl
/-- What it tells: whether both are the same. -/
def EqTold (f g : Int → Option Int) (w : World) (e : Ending) (w' : World) : Prop := ∃ b : Bool, e = .returned (.bool b) ∧ (b = true ↔ ∀ q, f q = g q) ∧ Below w.heap.size w w'

set_option maxRecDepth 100000 in
set_option maxHeartbeats 4000000 in
theorem mapsEqual_any (f g : Int → Option Int) (M N n m : Nat) (w : World) (hf : MapV Tryd.prog mkI w M n f) (hg : MapV Tryd.prog mkI w N m g) :
    Calls Tryd.prog 62 #[.map (some M), .map (some N)] w fun e w' => EqTold f g w e w' := by
  have HF := hideIt hf
  have HG := hideIt hg
  obtain ⟨ks, hk1, hk2, hk3, hk4⟩ := hf.keys Tryd.underlying3 Tryd.underlying77 3
  obtain ⟨js, hj1, hj2, hj3, hj4⟩ := hg.keys Tryd.underlying3 Tryd.underlying77 3
  have HSame : Hid ((∀ q, f q = g q) → ks.length = js.length) := fun h => Nat.le_antisymm (nodup_sub hk1 fun x hx => (hj3 x).2 (by rw [← h x]; exact (hk3 x).1 hx)) (nodup_sub hj1 fun x hx => (hk3 x).2 (by rw [h x]; exact (hj3 x).1 hx))
  have HSub : Hid (ks.length = js.length → (∀ q b, f q = some b → g q = some b) → ∀ q, f q = g q) := fun hl hs q => by
    cases hq : f q with
    | some b => exact (hs q b hq).symm
    | none =>
      cases hgq : g q with
      | none => rfl
      | some b =>
        have h1 : q ∉ ks := fun h => by have := (hk3 q).1 h; rw [hq] at this; cases this
        have h2 := nodup_sub (l := q :: ks) (m := js) (List.nodup_cons.2 ⟨h1, hk1⟩) fun x hx => by
          rcases List.mem_cons.1 hx with rfl | hx
          · exact (hj3 x).2 (by rw [hgq]; rfl)
          · obtain ⟨b', hb'⟩ := Option.isSome_iff_exists.1 ((hk3 x).1 hx)
            exact (hj3 x).2 (by rw [hs x b' hb']; rfl)
        simp only [List.length_cons] at h2
        omega
  generalize ks.length = kn at hk4 HSame HSub
  generalize js.length = jn at hj4 HSame HSub
  clear hk1 hk2 hk3 hj1 hj2 hj3 hf hg
  unfold EqTold
  by_cases hne : kn = jn
  · have h1 := hideIt (HSub.out hne)
    subst hne
    clear HSub HSame
    go_enter Tryd.func62, Tryd.ntmps62
    go_wp2_with (at_range; refine wpList_range_v _ Tryd.underlying3 rfl _ _ rfl _ Tryd.underlying77 M n f rfl HF.out ?_; intro w1 hr1 hg1 hs1 hl1)
    have HR1 := hideIt hr1
    have HB1 : Hid (Below w.heap.size w w1) := (Below.refl _ _).grown hg1 (Nat.le_refl _) (fun k hk => by cases hk)
    clear hr1 hg1 hs1 hl1 hk4 hj4
    go_frame
    go_loopw [] (fun wr => ∃ left : Int → Bool, RangeV Tryd.prog mkI wr M w.heap.size n f left ∧ (∀ q b, f q = some b → left q = true ∨ g q = some b) ∧ Below w.heap.size w wr) (fun wr => wr.rangeLeft M w.heap.size)
    case atStart => exact ⟨_, HR1.out, fun q b h => .inl (by rw [h]; rfl), HB1.out⟩
    case round =>
      clear HR1 HB1
      obtain ⟨left, hrg, hin, hb⟩ := hrel
      have HIn := hideIt hin
      have HB := hideIt hb
      clear hin hb
      go_wp2_with (at_next; refine wpList_next_v _ Tryd.underlying3 rfl _ rfl M w.heap.size n f left rfl hrg ?_ ?_)
      · intro hleft
        have R : Hid (∀ q, f q = g q) := h1.out fun q b hq => (HIn.out q b hq).elim (fun h => by rw [hleft q] at h; cases h) id
        clear hleft hrg
        go_wp2
        go_ret
        exact ⟨true, rfl, ⟨fun _ => R.out, fun _ => rfl⟩, HB.out⟩
      · intro q b w3 hwf hfq hlq hrg3 hlt3 hg3 hs3 hen
        have HB3 : Hid (Below w.heap.size w w3) := HB.out.grown hg3 (by have := HB.out.size; omega) (fun k hk => by obtain rfl := Option.some.inj hk; exact Nat.le_refl _)
        have HFq := hideIt hfq
        have HG3 := hideIt ((HG.out.below HB3.out HG.out.lt))
        clear hrg hg3 hs3 hfq
        cases hgq : g q with
        | none =>
          have HN : Hid (¬ ∀ x, f x = g x) := fun h => by have := h q; rw [HFq.out, hgq] at this; cases this
          have HGq := hideIt hgq
          clear hgq
          go_wp2_with (at_lookup; refine wpList_look_none _ Tryd.underlying3 rfl _ _ rfl Tryd.underlying77 N m g (zero3 _) rfl HG3.out q rfl hwf HGq.out ?_)
          go_ret
          exact ⟨false, rfl, ⟨fun h => (by cases h), fun h => absurd h HN.out⟩, HB3.out⟩
        | some c =>
          have HGq := hideIt hgq
          clear hgq
          by_cases hbc : b = c
          · subst hbc
            have hbb : (b != b) = false := by simp
            have R : Hid (∀ x y, f x = some y → (left x && !decide (x = q)) = true ∨ g x = some y) := fun x y hx => by
              by_cases e : x = q
              · subst e
                rw [HFq.out] at hx
                obtain rfl := Option.some.inj hx
                exact .inr HGq.out
              · rcases HIn.out x y hx with h | h
                · exact .inl (by rw [h]; simp [e])
                · exact .inr h
            go_wp2_with (at_lookup; refine wpList_look_some _ Tryd.underlying3 rfl _ _ rfl Tryd.underlying77 N m g (zero3 _) rfl HG3.out q rfl hwf b HGq.out ?_)
            go_roundw
            case rel => exact ⟨_, hrg3, R.out, HB3.out⟩
            case measure => exact hlt3
          · have HN : Hid (¬ ∀ x, f x = g x) := fun h => by have := h q; rw [HFq.out, HGq.out] at this; exact hbc (Option.some.inj this)
            have hbc' : (b != c) = true := by simp [hbc]
            go_wp2_with (at_lookup; refine wpList_look_some _ Tryd.underlying3 rfl _ _ rfl Tryd.underlying77 N m g (zero3 _) rfl HG3.out q rfl hwf c HGq.out ?_)
            go_ret
            exact ⟨false, rfl, ⟨fun h => (by cases h), fun h => absurd h HN.out⟩, HB3.out⟩
  · have HN : Hid (¬ ∀ x, f x = g x) := fun h => hne (HSame.out h)
    have hne' : ((kn : Int) != (jn : Int)) = true := by simp; omega
    clear HSub HSame
    go_enter Tryd.func62, Tryd.ntmps62
    go_wp2
    go_ret
    exact ⟨false, rfl, ⟨fun h => (by cases h), fun h => absurd h HN.out⟩, Below.refl _ _⟩
end Go.Proofs.YtibdchahallbjabDoor
