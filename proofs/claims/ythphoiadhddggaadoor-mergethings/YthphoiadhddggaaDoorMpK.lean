/-
  A map whose keys are pairs of numbers, whatever its elements, in memory, nil or not: what it tells of each key; look, store, walks over it, how many there are.
-/
import Derived.Maps.RangeWalk
import Derived.Maps.OwnSet
import Derived.Maps.Keyed
import Derived.DeepKeys4
import Derived.Laws.IdiomRangeMap
import Derived.Test.YthphoiadhddggaaDoorBsG
namespace Go.Proofs.YthphoiadhddggaaDoor
open Go.RowKit Go.WideMaps Go.ChangeMaps Go.WideShapes
open Go.Maps (Keyed IsMap)

/-- How an element reads: as itself. -/
def heldK (v : Value) : Option (DataW Value × List MemPlace) := some (.held v, [])
def pairV (a b : Int) : Value := .agg #[.int .i64 a, .int .i64 b]
/-- Numbers that may be a key. -/
def Wf2 (a b : Int) : Prop := (Lit.int .i64 a).wf = true ∧ (Lit.int .i64 b).wf = true
/-- Type kt is a pair of numbers that may be a key. -/
structure PairK (P : Program) (kt : TypeId) : Prop where
  keyed : Keyed P kt
  some_ : ∀ a b, Wf2 a b → (keyOf P kt (pairV a b)).isSome = true
noncomputable def pairL (P : Program) (kt : TypeId) (a b : Int) : Lit := (keyOf P kt (pairV a b)).getD (.bool true)
theorem pair_key {P : Program} {kt : TypeId} (K : PairK P kt) {a b : Int} (h : Wf2 a b) : keyOf P kt (pairV a b) = some (pairL P kt a b) := by
  have := K.some_ a b h
  unfold pairL
  cases h : keyOf P kt (pairV a b)
  · rw [h] at this; cases this
  · rfl
theorem pairV_inj {a b p q : Int} (h : pairV a b = pairV p q) : a = p ∧ b = q := by
  unfold pairV at h
  simp at h
  exact h
theorem pairL_inj {P : Program} {kt : TypeId} (K : PairK P kt) {a b p q : Int} (h : Wf2 a b) (h' : Wf2 p q) (e : pairL P kt a b = pairL P kt p q) : a = p ∧ b = q :=
  pairV_inj (K.keyed.inj (pair_key K h) (by rw [e]; exact pair_key K h'))
theorem isKeyK {P : Program} {kt : TypeId} (K : PairK P kt) {a b : Int} (h : Wf2 a b) : WideAt.IsKeyLit (pairL P kt a b) := K.keyed.key (pair_key K h)

structure TellsK (P : Program) (kt : TypeId) {β : Type} (mk : β → Value) (D : DataW Value) (f : Int → Int → Option β) : Prop where
  has : ∀ a b, Wf2 a b → Maps.has D (pairL P kt a b) = (f a b).isSome
  at_ : ∀ a b x, f a b = some x → ∀ z, D.atKey (pairL P kt a b) z = .held (mk x)
  key : ∀ kl, Maps.has D kl = true → ∃ a b, Wf2 a b ∧ kl = pairL P kt a b
  wf : ∀ a b x, f a b = some x → Wf2 a b
/-- Block M is a map that tells f. -/
def MapK (P : Program) (kt : TypeId) {β : Type} (mk : β → Value) (w : World) (M : Nat) (f : Int → Int → Option β) : Prop :=
  ∃ (n : Nat) (D : DataW Value), w.ownsMap P kt heldK M n D ∧ TellsK P kt mk D f
/-- It has at most N keys. -/
def Few {β : Type} (N : Nat) (f : Int → Int → Option β) : Prop := ∃ L : List (Int × Int), L.length ≤ N ∧ ∀ a b, (f a b).isSome = true → (a, b) ∈ L
def putK2 {β : Type} (f : Int → Int → Option β) (a b : Int) (x : β) : Int → Int → Option β := fun p q => if p = a ∧ q = b then some x else f p q
theorem putK2_same {β : Type} (f : Int → Int → Option β) (a b : Int) (x : β) : putK2 f a b x a b = some x := by simp [putK2]
theorem putK2_other {β : Type} (f : Int → Int → Option β) (a b : Int) (x : β) (p q : Int) (h : ¬ (p = a ∧ q = b)) : putK2 f a b x p q = f p q := by simp [putK2, h]
theorem Few.mono {β γ : Type} {N N' : Nat} {f : Int → Int → Option β} {g : Int → Int → Option γ} (h : Few N f) (hn : N ≤ N') (hs : ∀ a b, (g a b).isSome = true → (f a b).isSome = true) : Few N' g := by
  obtain ⟨L, h1, h2⟩ := h
  exact ⟨L, by omega, fun a b h => h2 a b (hs a b h)⟩
theorem Few.put {β : Type} {N : Nat} {f : Int → Int → Option β} (h : Few N f) (a b : Int) (x : β) : Few (N + 1) (putK2 f a b x) := by
  obtain ⟨L, h1, h2⟩ := h
  refine ⟨(a, b) :: L, by simp; omega, fun p q hp => ?_⟩
  by_cases e : p = a ∧ q = b
  · obtain ⟨rfl, rfl⟩ := e; exact List.mem_cons_self
  · rw [putK2_other _ _ _ _ _ _ e] at hp; exact List.mem_cons_of_mem _ (h2 p q hp)
theorem few_none {β : Type} : Few 0 (fun _ _ => (none : Option β)) := ⟨[], by simp, fun _ _ h => by cases h⟩

theorem nodup_le2 {α : Type} [DecidableEq α] : ∀ {l m : List α}, l.Nodup → (∀ x ∈ l, x ∈ m) → l.length ≤ m.length
  | [], _, _, _ => Nat.zero_le _
  | a :: l, m, hn, hs => by
    rw [List.nodup_cons] at hn
    have h1 := nodup_le2 (m := m.erase a) hn.2 fun x hx => (List.mem_erase_of_ne (fun (e : x = a) => hn.1 (by rw [← e]; exact hx))).2 (hs x (List.mem_cons_of_mem _ hx))
    have h2 := List.length_erase_of_mem (hs a List.mem_cons_self)
    have h3 : 0 < m.length := List.length_pos_of_mem (hs a List.mem_cons_self)
    simp only [List.length_cons]
    omega

section
variable {P : Program} {kt : TypeId} {β : Type} {mk : β → Value} {w : World} {M : Nat} {f : Int → Int → Option β}
theorem MapK.kept {w' : World} {row : Option Nat} (h : MapK P kt mk w M f) (hg : w.grownBy w' row) (hne : some M ≠ row) : MapK P kt mk w' M f := by
  obtain ⟨n, D, h1, h2⟩ := h
  exact ⟨n, D, h1.kept hg hne, h2⟩
theorem MapK.alloc (h : MapK P kt mk w M f) (o : Obj) : MapK P kt mk (w.alloc o) M f := h.kept (World.grownBy_alloc w o none) (by simp)
theorem MapK.drew (h : MapK P kt mk w M f) : MapK P kt mk w.drew M f := by
  obtain ⟨n, D, h1, h2⟩ := h
  exact ⟨n, D, h1.drew, h2⟩
theorem MapK.lt (h : MapK P kt mk w M f) : M < w.heap.size := by
  obtain ⟨n, D, h1, _⟩ := h
  exact h1.lt
theorem MapK.block {w' : World} (h : MapK P kt mk w M f) (hb : w'.heap[M]? = w.heap[M]?) : MapK P kt mk w' M f := by
  obtain ⟨n, D, ⟨es, clock, hb1, F, hs, hD⟩, h2⟩ := h
  exact ⟨n, D, ⟨es, clock, hb.trans hb1, F, hs, hD⟩, h2⟩
theorem MapK.below {B : Nat} {w' : World} (h : MapK P kt mk w M f) (hb : Below B w w') (hM : M < B) : MapK P kt mk w' M f := h.block (hb.block M hM)
theorem mapK_made (w : World) (P : Program) (kt : TypeId) (mk : β → Value) : MapK P kt mk (w.alloc (.map #[] 0)) w.heap.size (fun _ _ => none) :=
  ⟨0, _, World.ownsMap_made w P kt heldK, fun _ _ _ => rfl, fun _ _ _ h => (by cases h), fun kl h => (by simp [Maps.has] at h), fun _ _ _ h => (by cases h)⟩
theorem MapK.wf (h : MapK P kt mk w M f) {a b : Int} {x : β} (hx : f a b = some x) : Wf2 a b := by
  obtain ⟨n, D, _, h2⟩ := h
  exact h2.wf a b x hx

/-- The keys of a map, each once; their number is its length. -/
theorem MapK.keys (K : PairK P kt) (h : MapK P kt mk w M f) :
    ∃ ks : List (Int × Int), ks.Nodup ∧ (∀ a b, (a, b) ∈ ks ↔ (f a b).isSome = true) ∧ (∃ D, w.ownsMap P kt heldK M ks.length D ∧ TellsK P kt mk D f ∧ Maps.size D = ks.length) := by
  obtain ⟨n, D, h1, h2⟩ := h
  obtain ⟨es, hes, hpw, hkey⟩ := h1.entries K.keyed
  have hsz : w.ownsMap P kt heldK M es.length D := by
    obtain ⟨xs, clock, hb, F, hs, hD⟩ := h1
    refine ⟨xs, clock, hb, F, ?_, hD⟩
    rw [show es = (xs.toList.map (WideElems.rg P kt heldK)).foldr DataW.insert [] from DataW.map.inj (hes.symm.trans hD), length_sorted]
    simp
  subst hes
  have hpair : ∀ p ∈ es, ∃ ab : Int × Int, Wf2 ab.1 ab.2 ∧ p.1 = pairL P kt ab.1 ab.2 := by
    intro p hp
    obtain ⟨a, b, h3, h4⟩ := h2.key p.1 (List.any_eq_true.2 ⟨p, hp, WideAt.sameKey_self (hkey p hp)⟩)
    exact ⟨(a, b), h3, h4⟩
  classical
  let un : Lit × DataW Value → Int × Int := fun p => if hp : p ∈ es then (hpair p hp).choose else (0, 0)
  have hun : ∀ p ∈ es, Wf2 (un p).1 (un p).2 ∧ p.1 = pairL P kt (un p).1 (un p).2 := fun p hp => by
    have : un p = (hpair p hp).choose := by simp [un, hp]
    rw [this]
    exact (hpair p hp).choose_spec
  refine ⟨es.map un, ?_, fun a b => ?_, ⟨_, by simpa using hsz, h2, by simp [Maps.size]⟩⟩
  · refine List.pairwise_map.2 (hpw.imp_of_mem fun {p r} hp hr hne e => hne ?_)
    rw [(hun p hp).2, (hun r hr).2, e]
  · rw [List.mem_map]
    constructor
    · rintro ⟨p, hp, e⟩
      have h3 := hun p hp
      rw [e] at h3
      rw [← h2.has a b h3.1]
      exact List.any_eq_true.2 ⟨p, hp, by rw [h3.2]; exact WideAt.sameKey_self (isKeyK K h3.1)⟩
    · intro hs
      obtain ⟨x, hx⟩ := Option.isSome_iff_exists.1 hs
      have hw := h2.wf a b x hx
      have h3 := h2.has a b hw
      rw [hs] at h3
      obtain ⟨p, hp, hq⟩ := List.any_eq_true.1 h3
      have h4 := WideAt.sameKey_eq hq
      refine ⟨p, hp, ?_⟩
      rw [(hun p hp).2] at h4
      have := pairL_inj K (hun p hp).1 hw h4
      exact Prod.ext this.1 this.2
theorem MapK.few (K : PairK P kt) (h : MapK P kt mk w M f) {N : Nat} (hf : Few N f) : ∃ D, w.ownsMap P kt heldK M N D ∧ TellsK P kt mk D f := by
  obtain ⟨ks, h1, h2, D, h3, h4, _⟩ := h.keys K
  obtain ⟨L, h5, h6⟩ := hf
  refine ⟨D, h3.mono (Nat.le_trans (nodup_le2 h1 fun x hx => ?_) h5), h4⟩
  obtain ⟨a, b⟩ := x
  exact h6 a b ((h2 a b).1 hx)

theorem MapK.look {t e : TypeId} (K : PairK P kt) (h : MapK P kt mk w M f) (ht : P.underlying t = some (.map kt e)) {z : Value} (hz : (zeroValue e).run P w = .ok z w) {a b : Int} (hk : Wf2 a b) :
    (Instr.lookup t (.map (some M)) (pairV a b) false).run P w = .ok (match f a b with | some x => mk x | none => z) w := by
  obtain ⟨n, D, h1, h2⟩ := h
  obtain ⟨x, ps, hrun, hx⟩ := h1.lookup K.keyed ht hz (zd := .held z) (zp := []) rfl (pair_key K hk)
  rw [hrun]
  cases hf : f a b with
  | none =>
    have hno : Maps.has D (pairL P kt a b) = false := by rw [h2.has a b hk, hf]; rfl
    rw [Maps.atKey_of_not_has hno] at hx
    have := DataW.held.inj (congrArg Prod.fst (Option.some.inj hx))
    subst this; rfl
  | some g =>
    rw [h2.at_ a b g hf] at hx
    have := DataW.held.inj (congrArg Prod.fst (Option.some.inj hx))
    subst this; rfl
theorem MapK.look_ok {t e : TypeId} (K : PairK P kt) (h : MapK P kt mk w M f) (ht : P.underlying t = some (.map kt e)) {z : Value} (hz : (zeroValue e).run P w = .ok z w) {a b : Int} (hk : Wf2 a b) :
    (Instr.lookup t (.map (some M)) (pairV a b) true).run P w = .ok (.tuple #[match f a b with | some x => mk x | none => z, .bool (f a b).isSome]) w := by
  obtain ⟨n, D, h1, h2⟩ := h
  obtain ⟨x, ps, hrun, hx⟩ := h1.look_ok K.keyed ht hz (zd := .held z) (zp := []) rfl (pair_key K hk)
  rw [hrun, h2.has a b hk]
  cases hf : f a b with
  | none =>
    have hno : Maps.has D (pairL P kt a b) = false := by rw [h2.has a b hk, hf]; rfl
    rw [Maps.atKey_of_not_has hno] at hx
    have := DataW.held.inj (congrArg Prod.fst (Option.some.inj hx))
    subst this; rfl
  | some g =>
    rw [h2.at_ a b g hf] at hx
    have := DataW.held.inj (congrArg Prod.fst (Option.some.inj hx))
    subst this; rfl
theorem TellsK.put (K : PairK P kt) {D : DataW Value} (h2 : TellsK P kt mk D f) (hm : IsMap D) {a b : Int} (hk : Wf2 a b) (x : β) : TellsK P kt mk (D.put (pairL P kt a b) (.held (mk x))) (putK2 f a b x) := by
  refine ⟨fun p q hp => ?_, fun p q g' hg z => ?_, fun kl hkl => ?_, fun p q y hy => ?_⟩
  · by_cases e : p = a ∧ q = b
    · obtain ⟨rfl, rfl⟩ := e
      rw [putK2_same, Maps.has_put_same hm (isKeyK K hk)]; rfl
    · rw [putK2_other _ _ _ _ _ _ e, Maps.has_put_other (fun e' => e (pairL_inj K hp hk e'))]; exact h2.has p q hp
  · by_cases e : p = a ∧ q = b
    · obtain ⟨rfl, rfl⟩ := e
      rw [putK2_same] at hg
      obtain rfl := Option.some.inj hg
      exact Maps.atKey_put_same hm (isKeyK K hk) _ z
    · rw [putK2_other _ _ _ _ _ _ e] at hg
      rw [Maps.atKey_put_other (fun e' => e (pairL_inj K (h2.wf p q g' hg) hk e'))]; exact h2.at_ p q g' hg z
  · by_cases e : kl = pairL P kt a b
    · exact ⟨a, b, hk, e⟩
    · rw [Maps.has_put_other e] at hkl
      exact h2.key kl hkl
  · by_cases e : p = a ∧ q = b
    · obtain ⟨rfl, rfl⟩ := e; exact hk
    · rw [putK2_other _ _ _ _ _ _ e] at hy; exact h2.wf p q y hy
theorem MapK.store {t e : TypeId} (K : PairK P kt) (h : MapK P kt mk w M f) (ht : P.underlying t = some (.map kt e)) (hf : Few 100000 f) {a b : Int} (hk : Wf2 a b) (x : β) :
    ∃ w', (Instr.mapUpdate t (.map (some M)) (pairV a b) (mk x)).run P w = .ok () w' ∧ MapK P kt mk w' M (putK2 f a b x) ∧ w.grownBy w' (some M) ∧ w'.heap.size = w.heap.size := by
  obtain ⟨D, h1, h2⟩ := h.few K hf
  obtain ⟨w', hrun, ho, ht'⟩ := h1.store (val := mk x) K.keyed ht (by unfold maxLen; omega) (pair_key K hk) (d := .held (mk x)) (ps := []) rfl
  refine ⟨w', hrun, ⟨_, _, ho, h2.put K h1.isMap hk x⟩, ht'.grown, ?_⟩
  obtain ⟨es, clock, es', clock', _, rfl⟩ := ht'
  simp [setBlock]
/-- What is there already, stored once more, turns nothing. -/
theorem MapK.store_same {t e : TypeId} (K : PairK P kt) (h : MapK P kt mk w M f) (ht : P.underlying t = some (.map kt e)) {a b : Int} {x : β} (hx : f a b = some x) :
    (Instr.mapUpdate t (.map (some M)) (pairV a b) (mk x)).run P w = .ok () w := by
  obtain ⟨n, D, ⟨es, clock, hb, F, hs, rfl⟩, h2⟩ := h
  have hk := h2.wf a b x hx
  have hkey := pair_key K hk
  rcases K.keyed.find w hkey es.toList F.keys with ⟨h3, h4⟩ | ⟨j, e0, h3, h4, h5⟩
  · exfalso
    have h6 := h2.has a b hk
    rw [hx] at h6
    obtain ⟨p, hp, hq⟩ := List.any_eq_true.1 h6
    obtain ⟨y, hy, rfl⟩ := List.mem_map.1 (mem_sorted.1 hp)
    obtain ⟨z, hz⟩ := F.reads y hy
    have h7 := WideAt.sameKey_eq hq
    rw [WideElems.rg_of hz] at h7
    have h8 := WideElems.rd_key hz
    rw [h7] at h8
    exact h4 y hy (K.keyed.inj h8 hkey)
  · have hj : es[j]? = some e0 := by simpa using h4
    have he0 : e0 ∈ es.toList := List.mem_of_getElem? h4
    obtain ⟨z, hz⟩ := F.reads e0 he0
    have h6 : (WideElems.rg P kt heldK e0).1 = pairL P kt a b := by
      have h8 := WideElems.rd_key hz
      rw [h5, hkey] at h8
      rw [WideElems.rg_of hz]
      exact (Option.some.inj h8).symm
    obtain ⟨z', hz', hzd⟩ := WideElems.rd_val hz
    have h7 := h2.at_ a b x hx (.held (mk x))
    rw [(atKey_sorted (es.toList.map (WideElems.rg P kt heldK)) (Maps.fit_rising K.keyed F) (pairL P kt a b) (isKeyK K hk)).2 (WideElems.rg P kt heldK e0) (List.mem_map.2 ⟨e0, he0, rfl⟩) h6, WideElems.rg_of hz, hzd] at h7
    have h9 : e0.val = mk x := DataW.held.inj ((congrArg Prod.fst (Option.some.inj hz')).trans h7)
    have hes : es.modify j (fun e' => { e' with key := pairV a b, val := mk x }) = es := by
      apply Array.ext (by simp)
      intro i hi1 hi2
      rw [Array.getElem_modify]
      split
      · rename_i e
        subst e
        have : es[j] = e0 := by rw [Array.getElem?_eq_getElem hi2] at hj; exact Option.some.inj hj
        rw [this, ← h9, ← h5]
      · rfl
    have hw : setBlock w M (.map es clock) = w := by
      have : w.heap.setIfInBounds M (.map es clock) = w.heap := by
        apply Array.ext (by simp)
        intro i hi1 hi2
        rw [Array.getElem_setIfInBounds]
        split
        · rename_i e
          subst e
          rw [Array.getElem?_eq_getElem hi2] at hb
          exact (Option.some.inj hb).symm
        · rfl
      unfold setBlock
      rw [this]
    have hrun : (Instr.mapUpdate t (.map (some M)) (pairV a b) (mk x)).run P w = .ok () (setBlock w M (.map (es.modify j (fun e' => { e' with key := pairV a b, val := mk x })) clock)) := by
      simp [Instr.mapUpdate, run_underlying ht, MapKept.run_getObj_map hb, K.keyed.check w false hkey, h3, hj, h5, K.keyed.stays w hkey, MapKept.run_setObj_map _ hb, Result.andThen, setBlock]
    rw [hrun, hes, hw]
end
end Go.Proofs.YthphoiadhddggaaDoor
