/-
  A map whose keys are pairs of numbers, whatever its elements, in memory, nil or not: what it tells of each key; look, store, walks over it, how many there are.
  Rows of one's own and blocks: small facts that each walk uses.
  Who can talk to whom, in memory: rows of bools.
-/
import Derived.Maps.RangeWalk
import Derived.Maps.OwnSet
import Derived.Maps.Keyed
import Derived.DeepKeys4
import Derived.Laws.IdiomRangeMap
import Derived.Test.YtncnojgemmcplaaGreatDoorBsGZ
import Derived.Maps.AppendAt
import Derived.Deep.RegionLaw
import Derived.WalkSmall
namespace Go.Proofs.YtncnojgemmcplaaGreatDoor.St.Dc
open Go.RowKit Go.WideMaps Go.ChangeMaps Go.WideShapes
open Go.Maps (Keyed IsMap)

/-- How an element reads: as itself. -/
def heldK (v : Value) : Option (DataW Value × List MemPlace) := some (.held v, [])
def pairV (a b : Int) : Value := .agg #[.int .i64 a, .int .i64 b]
/-- Numbers that may be a key. -/
def Wf2 (a b : Int) : Prop := (Lit.int .i64 a).wf = true ∧ (Lit.int .i64 b).wf = true
/-- Type kt is a pair of numbers that may be a key. -/
structure PairK (P : Program) (kt : TypeId) : Prop where
  keyed : Keyed P kt
  some_ : ∀ a b, Wf2 a b → (keyOf P kt (pairV a b)).isSome = true
noncomputable def pairL (P : Program) (kt : TypeId) (a b : Int) : Lit := (keyOf P kt (pairV a b)).getD (.bool true)
theorem pair_key {P : Program} {kt : TypeId} (K : PairK P kt) {a b : Int} (h : Wf2 a b) : keyOf P kt (pairV a b) = some (pairL P kt a b) := by
  have := K.some_ a b h
  unfold pairL
  cases h : keyOf P kt (pairV a b)
  · rw [h] at this; cases this
  · rfl
theorem pairV_inj {a b p q : Int} (h : pairV a b = pairV p q) : a = p ∧ b = q := by
  unfold pairV at h
  simp at h
  exact h
theorem pairL_inj {P : Program} {kt : TypeId} (K : PairK P kt) {a b p q : Int} (h : Wf2 a b) (h' : Wf2 p q) (e : pairL P kt a b = pairL P kt p q) : a = p ∧ b = q :=
  pairV_inj (K.keyed.inj (pair_key K h) (by rw [e]; exact pair_key K h'))
theorem isKeyK {P : Program} {kt : TypeId} (K : PairK P kt) {a b : Int} (h : Wf2 a b) : WideAt.IsKeyLit (pairL P kt a b) := K.keyed.key (pair_key K h)

structure TellsK (P : Program) (kt : TypeId) {β : Type} (mk : β → Value) (D : DataW Value) (f : Int → Int → Option β) : Prop where
  has : ∀ a b, Wf2 a b → Maps.has D (pairL P kt a b) = (f a b).isSome
  at_ : ∀ a b x, f a b = some x → ∀ z, D.atKey (pairL P kt a b) z = .held (mk x)
  key : ∀ kl, Maps.has D kl = true → ∃ a b, Wf2 a b ∧ kl = pairL P kt a b
  wf : ∀ a b x, f a b = some x → Wf2 a b
/-- Block M is a map that tells f. -/
def MapK (P : Program) (kt : TypeId) {β : Type} (mk : β → Value) (w : World) (M : Nat) (f : Int → Int → Option β) : Prop :=
  ∃ (n : Nat) (D : DataW Value), w.ownsMap P kt heldK M n D ∧ TellsK P kt mk D f
/-- It has at most N keys. -/
def Few {β : Type} (N : Nat) (f : Int → Int → Option β) : Prop := ∃ L : List (Int × Int), L.length ≤ N ∧ ∀ a b, (f a b).isSome = true → (a, b) ∈ L
def putK2 {β : Type} (f : Int → Int → Option β) (a b : Int) (x : β) : Int → Int → Option β := fun p q => if p = a ∧ q = b then some x else f p q
theorem putK2_same {β : Type} (f : Int → Int → Option β) (a b : Int) (x : β) : putK2 f a b x a b = some x := by simp [putK2]
theorem putK2_other {β : Type} (f : Int → Int → Option β) (a b : Int) (x : β) (p q : Int) (h : ¬ (p = a ∧ q = b)) : putK2 f a b x p q = f p q := by simp [putK2, h]

theorem nodup_le2 {α : Type} [DecidableEq α] : ∀ {l m : List α}, l.Nodup → (∀ x ∈ l, x ∈ m) → l.length ≤ m.length
  | [], _, _, _ => Nat.zero_le _
  | a :: l, m, hn, hs => by
    rw [List.nodup_cons] at hn
    have h1 := nodup_le2 (m := m.erase a) hn.2 fun x hx => (List.mem_erase_of_ne (fun (e : x = a) => hn.1 (by rw [← e]; exact hx))).2 (hs x (List.mem_cons_of_mem _ hx))
    have h2 := List.length_erase_of_mem (hs a List.mem_cons_self)
    have h3 : 0 < m.length := List.length_pos_of_mem (hs a List.mem_cons_self)
    simp only [List.length_cons]
    omega

section
variable {P : Program} {kt : TypeId} {β : Type} {mk : β → Value} {w : World} {M : Nat} {f : Int → Int → Option β}
theorem MapK.kept {w' : World} {row : Option Nat} (h : MapK P kt mk w M f) (hg : w.grownBy w' row) (hne : some M ≠ row) : MapK P kt mk w' M f := by
  obtain ⟨n, D, h1, h2⟩ := h
  exact ⟨n, D, h1.kept hg hne, h2⟩
theorem MapK.alloc (h : MapK P kt mk w M f) (o : Obj) : MapK P kt mk (w.alloc o) M f := h.kept (World.grownBy_alloc w o none) (by simp)
theorem MapK.drew (h : MapK P kt mk w M f) : MapK P kt mk w.drew M f := by
  obtain ⟨n, D, h1, h2⟩ := h
  exact ⟨n, D, h1.drew, h2⟩
theorem MapK.lt (h : MapK P kt mk w M f) : M < w.heap.size := by
  obtain ⟨n, D, h1, _⟩ := h
  exact h1.lt
theorem MapK.block {w' : World} (h : MapK P kt mk w M f) (hb : w'.heap[M]? = w.heap[M]?) : MapK P kt mk w' M f := by
  obtain ⟨n, D, ⟨es, clock, hb1, F, hs, hD⟩, h2⟩ := h
  exact ⟨n, D, ⟨es, clock, hb.trans hb1, F, hs, hD⟩, h2⟩
theorem mapK_made (w : World) (P : Program) (kt : TypeId) (mk : β → Value) : MapK P kt mk (w.alloc (.map #[] 0)) w.heap.size (fun _ _ => none) :=
  ⟨0, _, World.ownsMap_made w P kt heldK, fun _ _ _ => rfl, fun _ _ _ h => (by cases h), fun kl h => (by simp [Maps.has] at h), fun _ _ _ h => (by cases h)⟩

/-- The keys of a map, each once; their number is its length. -/
theorem MapK.keys (K : PairK P kt) (h : MapK P kt mk w M f) :
    ∃ ks : List (Int × Int), ks.Nodup ∧ (∀ a b, (a, b) ∈ ks ↔ (f a b).isSome = true) ∧ (∃ D, w.ownsMap P kt heldK M ks.length D ∧ TellsK P kt mk D f ∧ Maps.size D = ks.length) := by
  obtain ⟨n, D, h1, h2⟩ := h
  obtain ⟨es, hes, hpw, hkey⟩ := h1.entries K.keyed
  have hsz : w.ownsMap P kt heldK M es.length D := by
    obtain ⟨xs, clock, hb, F, hs, hD⟩ := h1
    refine ⟨xs, clock, hb, F, ?_, hD⟩
    rw [show es = (xs.toList.map (WideElems.rg P kt heldK)).foldr DataW.insert [] from DataW.map.inj (hes.symm.trans hD), length_sorted]
    simp
  subst hes
  have hpair : ∀ p ∈ es, ∃ ab : Int × Int, Wf2 ab.1 ab.2 ∧ p.1 = pairL P kt ab.1 ab.2 := by
    intro p hp
    obtain ⟨a, b, h3, h4⟩ := h2.key p.1 (List.any_eq_true.2 ⟨p, hp, WideAt.sameKey_self (hkey p hp)⟩)
    exact ⟨(a, b), h3, h4⟩
  classical
  let un : Lit × DataW Value → Int × Int := fun p => if hp : p ∈ es then (hpair p hp).choose else (0, 0)
  have hun : ∀ p ∈ es, Wf2 (un p).1 (un p).2 ∧ p.1 = pairL P kt (un p).1 (un p).2 := fun p hp => by
    have : un p = (hpair p hp).choose := by simp [un, hp]
    rw [this]
    exact (hpair p hp).choose_spec
  refine ⟨es.map un, ?_, fun a b => ?_, ⟨_, by simpa using hsz, h2, by simp [Maps.size]⟩⟩
  · refine List.pairwise_map.2 (hpw.imp_of_mem fun {p r} hp hr hne e => hne ?_)
    rw [(hun p hp).2, (hun r hr).2, e]
  · rw [List.mem_map]
    constructor
    · rintro ⟨p, hp, e⟩
      have h3 := hun p hp
      rw [e] at h3
      rw [← h2.has a b h3.1]
      exact List.any_eq_true.2 ⟨p, hp, by rw [h3.2]; exact WideAt.sameKey_self (isKeyK K h3.1)⟩
    · intro hs
      obtain ⟨x, hx⟩ := Option.isSome_iff_exists.1 hs
      have hw := h2.wf a b x hx
      have h3 := h2.has a b hw
      rw [hs] at h3
      obtain ⟨p, hp, hq⟩ := List.any_eq_true.1 h3
      have h4 := WideAt.sameKey_eq hq
      refine ⟨p, hp, ?_⟩
      rw [(hun p hp).2] at h4
      have := pairL_inj K (hun p hp).1 hw h4
      exact Prod.ext this.1 this.2
theorem MapK.few (K : PairK P kt) (h : MapK P kt mk w M f) {N : Nat} (hf : Few N f) : ∃ D, w.ownsMap P kt heldK M N D ∧ TellsK P kt mk D f := by
  obtain ⟨ks, h1, h2, D, h3, h4, _⟩ := h.keys K
  obtain ⟨L, h5, h6⟩ := hf
  refine ⟨D, h3.mono (Nat.le_trans (nodup_le2 h1 fun x hx => ?_) h5), h4⟩
  obtain ⟨a, b⟩ := x
  exact h6 a b ((h2 a b).1 hx)

theorem MapK.look {t e : TypeId} (K : PairK P kt) (h : MapK P kt mk w M f) (ht : P.underlying t = some (.map kt e)) {z : Value} (hz : (zeroValue e).run P w = .ok z w) {a b : Int} (hk : Wf2 a b) :
    (Instr.lookup t (.map (some M)) (pairV a b) false).run P w = .ok (match f a b with | some x => mk x | none => z) w := by
  obtain ⟨n, D, h1, h2⟩ := h
  obtain ⟨x, ps, hrun, hx⟩ := h1.lookup K.keyed ht hz (zd := .held z) (zp := []) rfl (pair_key K hk)
  rw [hrun]
  cases hf : f a b with
  | none =>
    have hno : Maps.has D (pairL P kt a b) = false := by rw [h2.has a b hk, hf]; rfl
    rw [Maps.atKey_of_not_has hno] at hx
    have := DataW.held.inj (congrArg Prod.fst (Option.some.inj hx))
    subst this; rfl
  | some g =>
    rw [h2.at_ a b g hf] at hx
    have := DataW.held.inj (congrArg Prod.fst (Option.some.inj hx))
    subst this; rfl
theorem MapK.look_ok {t e : TypeId} (K : PairK P kt) (h : MapK P kt mk w M f) (ht : P.underlying t = some (.map kt e)) {z : Value} (hz : (zeroValue e).run P w = .ok z w) {a b : Int} (hk : Wf2 a b) :
    (Instr.lookup t (.map (some M)) (pairV a b) true).run P w = .ok (.tuple #[match f a b with | some x => mk x | none => z, .bool (f a b).isSome]) w := by
  obtain ⟨n, D, h1, h2⟩ := h
  obtain ⟨x, ps, hrun, hx⟩ := h1.look_ok K.keyed ht hz (zd := .held z) (zp := []) rfl (pair_key K hk)
  rw [hrun, h2.has a b hk]
  cases hf : f a b with
  | none =>
    have hno : Maps.has D (pairL P kt a b) = false := by rw [h2.has a b hk, hf]; rfl
    rw [Maps.atKey_of_not_has hno] at hx
    have := DataW.held.inj (congrArg Prod.fst (Option.some.inj hx))
    subst this; rfl
  | some g =>
    rw [h2.at_ a b g hf] at hx
    have := DataW.held.inj (congrArg Prod.fst (Option.some.inj hx))
    subst this; rfl
theorem TellsK.put (K : PairK P kt) {D : DataW Value} (h2 : TellsK P kt mk D f) (hm : IsMap D) {a b : Int} (hk : Wf2 a b) (x : β) : TellsK P kt mk (D.put (pairL P kt a b) (.held (mk x))) (putK2 f a b x) := by
  refine ⟨fun p q hp => ?_, fun p q g' hg z => ?_, fun kl hkl => ?_, fun p q y hy => ?_⟩
  · by_cases e : p = a ∧ q = b
    · obtain ⟨rfl, rfl⟩ := e
      rw [putK2_same, Maps.has_put_same hm (isKeyK K hk)]; rfl
    · rw [putK2_other _ _ _ _ _ _ e, Maps.has_put_other (fun e' => e (pairL_inj K hp hk e'))]; exact h2.has p q hp
  · by_cases e : p = a ∧ q = b
    · obtain ⟨rfl, rfl⟩ := e
      rw [putK2_same] at hg
      obtain rfl := Option.some.inj hg
      exact Maps.atKey_put_same hm (isKeyK K hk) _ z
    · rw [putK2_other _ _ _ _ _ _ e] at hg
      rw [Maps.atKey_put_other (fun e' => e (pairL_inj K (h2.wf p q g' hg) hk e'))]; exact h2.at_ p q g' hg z
  · by_cases e : kl = pairL P kt a b
    · exact ⟨a, b, hk, e⟩
    · rw [Maps.has_put_other e] at hkl
      exact h2.key kl hkl
  · by_cases e : p = a ∧ q = b
    · obtain ⟨rfl, rfl⟩ := e; exact hk
    · rw [putK2_other _ _ _ _ _ _ e] at hy; exact h2.wf p q y hy
theorem MapK.store {t e : TypeId} (K : PairK P kt) (h : MapK P kt mk w M f) (ht : P.underlying t = some (.map kt e)) (hf : Few 100000 f) {a b : Int} (hk : Wf2 a b) (x : β) :
    ∃ w', (Instr.mapUpdate t (.map (some M)) (pairV a b) (mk x)).run P w = .ok () w' ∧ MapK P kt mk w' M (putK2 f a b x) ∧ w.grownBy w' (some M) ∧ w'.heap.size = w.heap.size := by
  obtain ⟨D, h1, h2⟩ := h.few K hf
  obtain ⟨w', hrun, ho, ht'⟩ := h1.store (val := mk x) K.keyed ht (by unfold maxLen; omega) (pair_key K hk) (d := .held (mk x)) (ps := []) rfl
  refine ⟨w', hrun, ⟨_, _, ho, h2.put K h1.isMap hk x⟩, ht'.grown, ?_⟩
  obtain ⟨es, clock, es', clock', _, rfl⟩ := ht'
  simp [setBlock]
end
end Go.Proofs.YtncnojgemmcplaaGreatDoor.St.Dc

namespace Go.Proofs.YtncnojgemmcplaaGreatDoor.St
open Go.RowKit

theorem lt_of_heap {w : World} {g : Nat} {o : Obj} (h : w.heap[g]? = some o) : g < w.heap.size := by
  rcases Nat.lt_or_ge g w.heap.size with hlt | hge
  · exact hlt
  · rw [Array.getElem?_eq_none hge] at h; cases h

theorem heap_setCell {w : World} {g : Nat} {cur : Array Value} {t : TypeId} {fr : Nat × Nat} (h : w.heap[g]? = some (.cells cur t fr)) (o : Nat) (u : Value) : ∃ cur', (w.setCell ⟨g, o, none⟩ u).heap[g]? = some (.cells cur' t fr) ∧ cur'.size = cur.size := by
  refine ⟨cur.setIfInBounds o u, ?_, by simp⟩
  simp [World.setCell, Array.getElem?_modify, h]
theorem info3 : (Tryz.prog.info? 3).map (fun i => (i.zero, i.size, i.bytes)) = some (some (Value.int .i64 0), 1, 8) := by kernel_rfl
theorem made_one (v : Value) (n i : Nat) (h : i < n) : (madeCells #[v] n)[i]? = some v := by simp [madeCells, h, Nat.mod_one]
theorem cell_made (w : World) (v : Value) (n t i : Nat) (h : i < n) : (w.alloc (.cells (madeCells #[v] n) t)).cell? ⟨w.heap.size, i, none⟩ = some v := by
  rw [cell_of_row _ w.heap.size i _ t _ (heap_alloc_new w _)]
  exact made_one v n i h
theorem offNe {g a b : Nat} (h : a ≠ b) : (⟨g, a, none⟩ : Addr) ≠ ⟨g, b, none⟩ := fun e => h (by injection e)
theorem blkNe {g g' a b : Nat} (h : g ≠ g') : (⟨g, a, none⟩ : Addr) ≠ ⟨g', b, none⟩ := fun e => h (by injection e)

theorem ownsRow_slice {w : World} {base : Nat} {e : TypeId} {size : Nat} {v : Value} {n : Nat} {xs : List Value} (h : w.ownsRow base e size v n xs) : ∃ a c, v = .slice a n c := by
  obtain ⟨_, ⟨rfl, rfl⟩ | ⟨g, cap, cur, rfl, _⟩⟩ := h
  · exact ⟨_, _, rfl⟩
  · exact ⟨_, _, rfl⟩
theorem ownsRow_same {w w' : World} {base : Nat} {e : TypeId} {size : Nat} {v : Value} {n : Nat} {xs : List Value} (h : w.ownsRow base e size v n xs) (hs : ∀ b, v.ownBlock = some b → w'.heap[b]? = w.heap[b]?) : w'.ownsRow base e size v n xs := by
  obtain ⟨hl, h | ⟨g, cap, cur, rfl, hb, hh, h1⟩⟩ := h
  · exact ⟨hl, .inl h⟩
  · exact ⟨hl, .inr ⟨g, cap, cur, rfl, hb, (hs g rfl).trans hh, h1⟩⟩
theorem ownsRow_block {w : World} {base : Nat} {e : TypeId} {size : Nat} {v : Value} {n : Nat} {xs : List Value} (h : w.ownsRow base e size v n xs) : ∀ b, v.ownBlock = some b → base ≤ b ∧ b < w.heap.size ∧ ∃ cur, w.heap[b]? = some (.cells cur e (0, 0)) := by
  intro b hb
  have hl := h.lt b hb
  obtain ⟨_, ⟨rfl, _⟩ | ⟨g, cap, cur, rfl, _, hh, _⟩⟩ := h
  · cases hb
  · obtain rfl : g = b := by simpa [Value.ownBlock] using hb
    exact ⟨hl.1, hl.2, cur, hh⟩
theorem wpList_append_run {P : Program} (w : World) {ops : Array Oper} {rest : List Oper} {o : Oper} {a : Act} {Q : Exit → Act → World → Prop} (hgd : o.guard = none) (s x : Operand) (t : TypeId)
    (ho : o.op = .call { callee := .builtin .append, args := #[s, x], argTypes := #[t, t] }) (v xv v' : Value) (w' : World) (hs : a.eval s = v) (hx : a.eval x = xv) (hr : (Builtin.append_ #[t, t] o.type #[v, xv]).run P w = .ok v' w')
    (hK : wpList P ops Q rest (a.put o.dst v') w') : wpList P ops Q (o :: rest) a w := by
  refine wpList_plain hgd fun K' hK' => ?_
  unfold Oper.wp execOp
  simp only [ho, resolve, invoke, builtin, Sem.run_bind, Sem.run_pure, Result.andThen_ok, List.map_toArray, List.map_cons, List.map_nil, hs, hx, hr]
  exact hK' _ _ hK
theorem step_append_run {P : Program} {ops : Array Oper} {o : Oper} {a : Act} {w : World} {K : Act → World → Prop} {Q : Exit → Act → World → Prop} {E : Prop} (hgd : o.guard = none) (s x : Operand) (t : TypeId)
    (ho : o.op = .call { callee := .builtin .append, args := #[s, x], argTypes := #[t, t] }) (v xv v' : Value) (w' : World) (hs : a.eval s = v) (hx : a.eval x = xv) (hr : (Builtin.append_ #[t, t] o.type #[v, xv]).run P w = .ok v' w')
    (hK : K (a.put o.dst v') w') : if Region.wanted o (yielded ops a.tmps) = true then Oper.wp P o a w K Q else E := by
  have hw : Region.wanted o (yielded ops a.tmps) = true := by simp [Region.wanted, hgd]
  rw [if_pos hw]
  unfold Oper.wp execOp
  simp only [ho, resolve, invoke, builtin, Sem.run_bind, Sem.run_pure, Result.andThen_ok, List.map_toArray, List.map_cons, List.map_nil, hs, hx, hr]
  exact hK
def tagD : Option Obj → Nat
  | some (.cells _ t _) => t + 1
  | _ => 0
theorem ne_tagD {W : World} {a b x y : Nat} (ha : tagD W.heap[a]? = x) (hb : tagD W.heap[b]? = y) (h : x ≠ y) : a ≠ b := fun e => h (by rw [← ha, ← hb, e])
theorem own_tagD {W : World} {base : Nat} {e : TypeId} {m : Nat} {v : Value} {l : Nat} {xs : List Value} (h : W.ownsRow base e m v l xs) {b : Nat} (hb : v.ownBlock = some b) : tagD W.heap[b]? = e + 1 := by
  obtain ⟨_, _, cur, hc⟩ := ownsRow_block h b hb
  rw [hc]
  rfl
theorem flat_at {α : Type} {c : α → List Value} {m : Nat} (hc : ∀ x, (c x).length = m) : ∀ (l : List α) (k j : Nat) (hk : k < l.length), j < m → (l.flatMap c)[k * m + j]? = (c l[k])[j]?
  | [], k, _, hk, _ => absurd hk (by simp)
  | x :: l, 0, j, _, hj => by
    rw [List.flatMap_cons, List.getElem?_append_left (by rw [hc]; omega), Nat.zero_mul, Nat.zero_add]
    rfl
  | x :: l, k + 1, j, hk, hj => by
    rw [List.flatMap_cons, List.getElem?_append_right (by rw [hc, Nat.add_mul]; omega), hc, show (k + 1) * m + j - m = k * m + j by rw [Nat.add_mul]; omega]
    exact flat_at hc l k j (by simpa using hk) hj
theorem own_cells {w : World} {base : Nat} {e : TypeId} {m : Nat} {v : Value} {n : Nat} {xs : List Value} (h : w.ownsRow base e m v n xs) : (v = .slice none 0 0 ∧ n = 0) ∨ ∃ g cap, v = .slice (some ⟨g, 0, none⟩) n cap ∧ n ≤ cap ∧ g < w.heap.size ∧ ∀ k, k < n * m → w.cell? ⟨g, k, none⟩ = xs[k]? := by
  obtain ⟨hl, ⟨rfl, h0⟩ | ⟨g, cap, cur, rfl, hb, hh, h1, h2, h3, h4⟩⟩ := h
  · exact .inl ⟨rfl, h0⟩
  · refine .inr ⟨g, cap, rfl, h1, lt_of_heap hh, fun k hk => ?_⟩
    rw [cell_of_row _ _ _ _ e _ hh]
    have e' : (cur.toList.take (n * m))[k]? = xs[k]? := by rw [h4]
    rw [List.getElem?_take_of_lt hk, Array.getElem?_toList] at e'
    exact e'
theorem own_mono {w : World} {base base' : Nat} {e : TypeId} {m : Nat} {v : Value} {l : Nat} {xs : List Value} (h : w.ownsRow base e m v l xs) (hb : base' ≤ base) : w.ownsRow base' e m v l xs := by
  obtain ⟨hl, h | ⟨g, cap, cur, h1, h2, h3⟩⟩ := h
  · exact ⟨hl, .inl h⟩
  · exact ⟨hl, .inr ⟨g, cap, cur, h1, Nat.le_trans hb h2, h3⟩⟩
end Go.Proofs.YtncnojgemmcplaaGreatDoor.St

namespace Go.Proofs.YtncnojgemmcplaaGreatDoor.St
open Go.RowKit

/-- Links in memory; X: which blocks they lie in. -/
def LnkS (w : World) (X : Nat → Prop) (lv : Value) (M : List (List Bool)) : Prop :=
  ∃ a cap, lv = .slice a M.length cap ∧ (M = [] ∨ ∃ g off, a = some ⟨g, off, none⟩ ∧ X g ∧ ∀ i (hi : i < M.length), ∃ ra rc, w.cell? ⟨g, off + i, none⟩ = some (.slice ra M[i].length rc) ∧
    (M[i] = [] ∨ ∃ rg ro, ra = some ⟨rg, ro, none⟩ ∧ X rg ∧ ∀ j (hj : j < M[i].length), w.cell? ⟨rg, ro + j, none⟩ = some (.bool M[i][j])))
theorem LnkS.keep {w w' : World} {X : Nat → Prop} {lv : Value} {M : List (List Bool)} (h : LnkS w X lv M) (hk : ∀ b, b < w.heap.size → X b → w'.heap[b]? = w.heap[b]?) : LnkS w' X lv M := by
  obtain ⟨a, cap, e, h⟩ := h
  refine ⟨a, cap, e, h.imp id fun ⟨g, off, e, hx, h⟩ => ⟨g, off, e, hx, fun i hi => ?_⟩⟩
  obtain ⟨ra, rc, h1, h2⟩ := h i hi
  refine ⟨ra, rc, (World.cell?_of_block (a := ⟨g, off + i, none⟩) (hk g (World.block_lt_of_cell? w _ h1) hx)).trans h1, h2.imp id fun ⟨rg, ro, e, hx', h⟩ => ⟨rg, ro, e, hx', fun j hj => ?_⟩⟩
  exact (World.cell?_of_block (a := ⟨rg, ro + j, none⟩) (hk rg (World.block_lt_of_cell? w _ (h j hj)) hx')).trans (h j hj)
theorem LnkS.mono {w : World} {X Y : Nat → Prop} {lv : Value} {M : List (List Bool)} (h : LnkS w X lv M) (hk : ∀ b, b < w.heap.size → X b → Y b) : LnkS w Y lv M := by
  obtain ⟨a, cap, e, h⟩ := h
  by_cases hM : M = []
  · exact ⟨a, cap, e, .inl hM⟩
  refine ⟨a, cap, e, h.imp id fun ⟨g, off, e, hx, h⟩ => ⟨g, off, e, ?_, fun i hi => ?_⟩⟩
  · obtain ⟨_, _, h1, _⟩ := h 0 (List.length_pos_iff.2 hM)
    exact hk g (World.block_lt_of_cell? w _ h1) hx
  · obtain ⟨ra, rc, h1, h2⟩ := h i hi
    by_cases hR : M[i] = []
    · exact ⟨ra, rc, h1, .inl hR⟩
    refine ⟨ra, rc, h1, h2.imp id fun ⟨rg, ro, e, hx', h⟩ => ⟨rg, ro, e, ?_, h⟩⟩
    exact hk rg (World.block_lt_of_cell? w _ (h 0 (List.length_pos_iff.2 hR))) hx'
theorem LnkS.below {w w' : World} {X : Nat → Prop} {lv : Value} {M : List (List Bool)} {B : Nat} (h : LnkS w X lv M) (hb : Below B w w') (hB : w.heap.size ≤ B) : LnkS w' X lv M :=
  h.keep fun b hl _ => hb.block b (Nat.lt_of_lt_of_le hl hB)
/-- A row that is there. -/
theorem LnkS.row {w : World} {X : Nat → Prop} {lv : Value} {M : List (List Bool)} (h : LnkS w X lv M) {i : Nat} (hi : i < M.length) : ∃ g off cap, lv = .slice (some ⟨g, off, none⟩) M.length cap ∧ X g ∧ ∃ ra rc, w.cell? ⟨g, off + i, none⟩ = some (.slice ra M[i].length rc) ∧
    (M[i] = [] ∨ ∃ rg ro, ra = some ⟨rg, ro, none⟩ ∧ X rg ∧ ∀ j (hj : j < M[i].length), w.cell? ⟨rg, ro + j, none⟩ = some (.bool M[i][j])) := by
  obtain ⟨a, cap, e, h⟩ := h
  rcases h with rfl | ⟨g, off, rfl, hx, h⟩
  · simp at hi
  · exact ⟨g, off, cap, e, hx, h i hi⟩
/-- The table of a rule. -/
def tabL (n : Nat) (r : Nat → Nat → Bool) : List (List Bool) := (List.range n).map fun a => (List.range n).map fun b => r a b
theorem tabL_len (n : Nat) (r : Nat → Nat → Bool) : (tabL n r).length = n := by simp [tabL]
theorem tabL_row_len {n : Nat} {r : Nat → Nat → Bool} {i : Nat} (h : i < (tabL n r).length) : (tabL n r)[i].length = n := by simp [tabL]
theorem tabL_at {n : Nat} {r : Nat → Nat → Bool} {i j : Nat} (h : i < (tabL n r).length) (h' : j < (tabL n r)[i].length) : (tabL n r)[i][j] = r i j := by simp [tabL]
/-- A table in memory, place by place. -/
theorem LnkS.tab {w : World} {X : Nat → Prop} {lv : Value} {n : Nat} {r : Nat → Nat → Bool} (h : LnkS w X lv (tabL n r)) {i : Nat} (hi : i < n) : ∃ g off cap, lv = .slice (some ⟨g, off, none⟩) n cap ∧ ∃ rg ro rc, w.cell? ⟨g, off + i, none⟩ = some (.slice (some ⟨rg, ro, none⟩) n rc) ∧ ∀ j, j < n → w.cell? ⟨rg, ro + j, none⟩ = some (.bool (r i j)) := by
  have hi' : i < (tabL n r).length := by rw [tabL_len]; exact hi
  obtain ⟨g, off, cap, e, _, ra, rc, h1, h2⟩ := h.row hi'
  rw [tabL_len] at e
  have hl := tabL_row_len hi'
  rcases h2 with h2 | ⟨rg, ro, rfl, _, h3⟩
  · rw [h2] at hl; simp at hl; omega
  · rw [hl] at h1
    refine ⟨g, off, cap, e, rg, ro, rc, h1, fun j hj => ?_⟩
    have := h3 j (by rw [hl]; exact hj)
    rwa [tabL_at hi' (by rw [hl]; exact hj)] at this
/-- Blocks that links lie in, by their tags. -/
def LTg (w : World) (b : Nat) : Prop := tagD w.heap[b]? = 96 ∨ tagD w.heap[b]? = 5
def LnkT (w : World) (lv : Value) (M : List (List Bool)) : Prop := LnkS w (LTg w) lv M
theorem LnkT.keep {w w' : World} {lv : Value} {M : List (List Bool)} (h : LnkT w lv M) (hk : ∀ b, LTg w b → w'.heap[b]? = w.heap[b]?) : LnkT w' lv M :=
  (LnkS.keep h fun b _ hb => hk b hb).mono fun b _ hb => by unfold LTg; rw [hk b hb]; exact hb
theorem LTg.lt {w : World} {b : Nat} (h : LTg w b) : b < w.heap.size := by
  rcases Nat.lt_or_ge b w.heap.size with h' | h'
  · exact h'
  · unfold LTg at h
    rw [Array.getElem?_eq_none h'] at h
    rcases h with h | h <;> cases h
end Go.Proofs.YtncnojgemmcplaaGreatDoor.St
