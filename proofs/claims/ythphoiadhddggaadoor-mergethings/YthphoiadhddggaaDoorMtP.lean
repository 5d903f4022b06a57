/-
  MergeThings: what its loops need, in memory and in plain Lean.
-/
import Derived.Test.YthphoiadhddggaaDoorMtN
namespace Go.Proofs.YthphoiadhddggaaDoor
open Go.RowKit

theorem Grid.join {n : Nat} {f g : Th} (h : Grid n f) (h' : Grid n g) : Grid n (joinT f g) := fun a b m hm => by
  have hs : (joinT f g a b).isSome = true := by rw [hm]; rfl
  rw [joinT_some, Bool.or_eq_true] at hs
  rcases hs with hs | hs
  · obtain ⟨x, hx⟩ := Option.isSome_iff_exists.1 hs
    exact h a b x hx
  · obtain ⟨x, hx⟩ := Option.isSome_iff_exists.1 hs
    exact h' a b x hx
theorem Rel.fewI {f : Th} {i : In1} {g : Go1} {N : Nat} (h : Rel f i g) (hf : Few N f) : Few N i := hf.mono (Nat.le_refl _) fun a b hs => by rw [h.some_]; exact hs
theorem Rel.fewG {f : Th} {i : In1} {g : Go1} {N : Nat} (h : Rel f i g) (hf : Few N f) : Few N g := hf.mono (Nat.le_refl _) fun a b hs => by rw [h.some_]; exact h.sub a b hs

/-- What is left behind one more. -/
def lessL (left : Int → Int → Bool) (a b : Int) : Int → Int → Bool := fun p q => left p q && !decide (p = a ∧ q = b)
theorem lessL_eq (left : Int → Int → Bool) (a b : Int) : (fun p q => left p q && (!decide (p = a) || !decide (q = b))) = lessL left a b := funext fun p => funext fun q => by
  unfold lessL
  by_cases h1 : p = a <;> by_cases h2 : q = b <;> simp [h1, h2]
theorem RangeO.less {P : Program} {kt : TypeId} {β : Type} {mk : β → Value} {w : World} {p : Option Nat} {r : Nat} {f : Int → Int → Option β} {left : Int → Int → Bool} {a b : Int} (h : RangeO P kt mk w p r f (fun p q => left p q && (!decide (p = a) || !decide (q = b)))) : RangeO P kt mk w p r f (lessL left a b) := by
  rw [← lessL_eq]; exact h

theorem setP_self {α : Type} (p : Nat → α) (s : Nat) : setP p s (p s) = p := funext fun j => by
  unfold setP; by_cases e : j = s <;> simp [e]
theorem setP_twice {α : Type} (p : Nat → α) (s : Nat) (x y : α) : setP (setP p s x) s y = setP p s y := funext fun j => by
  unfold setP; by_cases e : j = s <;> simp [e]
section
variable {w wr w' : World} {mi mg : Nat → Nat} {p : Nat → Option Nat} {f : Nat → Th} {i : Nat → In1} {g : Nat → Go1}
theorem MtJ.bnd (h : MtJ w wr mi mg p f i g) : ∀ t, t < 3 → mi t < wr.heap.size ∧ mg t < wr.heap.size ∧ ∀ N, p t = some N → N < wr.heap.size := fun t ht => ⟨(h.hi t ht).lt, (h.hg t ht).lt, (h.hf t ht).lt⟩
/-- An iterator's turn. -/
theorem MtJ.iter (h : MtJ w wr mi mg p f i g) {r : Nat} (hr : ∀ t, t < 3 → mi t < r ∧ mg t < r ∧ ∀ N, p t = some N → N < r) (hg : wr.grownBy w' (some r)) : MtJ w w' mi mg p f i g := by
  have b := h.ap.bi 0 (by decide)
  have b' := (hr 0 (by decide)).1
  exact ⟨h.a7.kept hg (fun e => by have := Option.some.inj e; omega), h.a8.kept hg (fun e => by have := Option.some.inj e; omega), h.a9.kept hg (fun e => by have := Option.some.inj e; omega),
    fun t ht => (h.hf t ht).kept hg fun M hM e => by have := (hr t ht).2.2 M hM; have := Option.some.inj e; omega, fun t ht => (h.hi t ht).kept hg fun e => by have := (hr t ht).1; have := Option.some.inj e; omega,
    fun t ht => (h.hg t ht).kept hg fun e => by have := (hr t ht).2.1; have := Option.some.inj e; omega, h.ap, h.pb, h.bel.grown hg h.bel.size (fun k hk => by cases hk; omega)⟩
theorem MtJ.alloc (h : MtJ w wr mi mg p f i g) (o : Obj) : MtJ w (wr.alloc o) mi mg p f i g := h.on (belA (Below.refl _ wr) o)
theorem MtJ.drew (h : MtJ w wr mi mg p f i g) : MtJ w wr.drew mi mg p f i g := h.on (Below.refl _ wr).drew
theorem MtJ.same (h : MtJ w wr mi mg p f i g) {i' : Nat → In1} {g' : Nat → Go1} (hi : i = i') (hg : g = g') : MtJ w wr mi mg p f i' g' := by subst hi hg; exact h
end

/-- What is stored while a walk over a map, the same or another one, is under way. -/
theorem store_under {P : Program} {kt t e : TypeId} {β : Type} {mk : β → Value} {W : World} {M M' r : Nat} {f f' : Int → Int → Option β} {left : Int → Int → Bool} (K : PairK P kt) (h : MapK P kt mk W M f') (hr : RangeO P kt mk W (some M') r f left)
    (hM : M = M' → f' = f) (hrM : r ≠ M) (ht : P.underlying t = some (.map kt e)) {a b : Int} {x : β} (hx : f a b = some x) (hF : Few 100000 f') :
    ∃ W', (Instr.mapUpdate t (.map (some M)) (pairV a b) (mk x)).run P W = .ok () W' ∧ MapK P kt mk W' M (putK2 f' a b x) ∧ W.grownBy W' (some M) ∧ W'.heap.size = W.heap.size ∧ RangeO P kt mk W' (some M') r f left ∧ leftO W' (some M') r = leftO W (some M') r := by
  by_cases eM : M = M'
  · obtain rfl := hM eM
    have e : putK2 f' a b x = f' := funext fun p => funext fun q => by
      by_cases e : p = a ∧ q = b
      · obtain ⟨rfl, rfl⟩ := e; rw [putK2_same, hx]
      · rw [putK2_other _ _ _ _ _ _ e]
    refine ⟨W, h.store_same K ht hx, ?_, grown_refl _ _, rfl, hr, rfl⟩
    rw [e]; exact h
  · obtain ⟨W', h1, h2, h3, h4⟩ := h.store K ht hF (hr.map.wf hx) x
    have h5 := hr.kept h3 (fun N hN e => eM (by rw [← Option.some.inj hN] at e; exact (Option.some.inj e).symm)) (fun e => hrM (Option.some.inj e))
    exact ⟨W', h1, h2, h3, h4, h5.1, h5.2⟩

/-- A join under way. -/
def joinU {β : Type} (f f' : Int → Int → Option β) (left : Int → Int → Bool) : Int → Int → Option β := fun a b => if (f' a b).isSome = true ∧ left a b = false then f' a b else f a b
theorem joinU_start {β : Type} (f f' : Int → Int → Option β) : joinU f f' (fun a b => (f' a b).isSome) = f := funext fun a => funext fun b => by
  unfold joinU
  rw [if_neg]
  rintro ⟨h1, h2⟩
  simp only at h2
  rw [h1] at h2; cases h2
theorem joinU_done {β : Type} (f f' : Int → Int → Option β) {left : Int → Int → Bool} (h : ∀ a b, left a b = false) : joinU f f' left = joinK f f' := funext fun a => funext fun b => by
  unfold joinU joinK
  cases h' : f' a b <;> simp [h a b]
theorem joinU_self {β : Type} (f : Int → Int → Option β) (left : Int → Int → Bool) : joinU f f left = f := funext fun a => funext fun b => by
  unfold joinU
  split <;> rfl
theorem joinU_put {β : Type} {f f' : Int → Int → Option β} {left : Int → Int → Bool} {a b : Int} {x : β} (hx : f' a b = some x) : putK2 (joinU f f' left) a b x = joinU f f' (lessL left a b) := funext fun p => funext fun q => by
  by_cases e : p = a ∧ q = b
  · obtain ⟨rfl, rfl⟩ := e
    rw [putK2_same]
    simp [joinU, lessL, hx]
  · rw [putK2_other _ _ _ _ _ _ e]
    simp [joinU, lessL, e]
theorem joinU_few {β : Type} {f f' : Int → Int → Option β} {N N' : Nat} (h : Few N f) (h' : Few N' f') (left : Int → Int → Bool) : Few (N + N') (joinU f f' left) := by
  obtain ⟨L, h1, h2⟩ := h
  obtain ⟨L', h3, h4⟩ := h'
  refine ⟨L ++ L', by simp; omega, fun a b hs => ?_⟩
  unfold joinU at hs
  split at hs
  · exact List.mem_append_right _ (h4 a b hs)
  · exact List.mem_append_left _ (h2 a b hs)

/-- The tags of a thing go, one by one. -/
def dropU (i : In1) (g : Go1) (x : Int) (left : Int → Int → Bool) : Go1 := fun a b => if i a b = some x ∧ left a b = false then some true else g a b
theorem dropU_start (i : In1) (g : Go1) (x : Int) : dropU i g x (fun a b => (i a b).isSome) = g := funext fun a => funext fun b => by
  unfold dropU
  rw [if_neg]
  rintro ⟨h1, h2⟩
  simp only at h2
  rw [h1] at h2; cases h2
theorem dropU_done (i : In1) (g : Go1) (x : Int) {left : Int → Int → Bool} (h : ∀ a b, left a b = false) : dropU i g x left = dropG i g x := funext fun a => funext fun b => by
  unfold dropU dropG
  simp [h a b]
theorem dropU_put {i : In1} {g : Go1} {x : Int} {left : Int → Int → Bool} {a b : Int} (hx : i a b = some x) : putK2 (dropU i g x left) a b true = dropU i g x (lessL left a b) := funext fun p => funext fun q => by
  by_cases e : p = a ∧ q = b
  · obtain ⟨rfl, rfl⟩ := e
    rw [putK2_same]
    simp [dropU, lessL, hx]
  · rw [putK2_other _ _ _ _ _ _ e]
    simp [dropU, lessL, e]
theorem dropU_skip {i : In1} {g : Go1} {x v : Int} {left : Int → Int → Bool} {a b : Int} (hx : i a b = some v) (hv : v ≠ x) : dropU i g x left = dropU i g x (lessL left a b) := funext fun p => funext fun q => by
  by_cases e : p = a ∧ q = b
  · obtain ⟨rfl, rfl⟩ := e
    simp [dropU, lessL, hx, hv]
  · simp [dropU, lessL, e]
theorem Rel.fewD {f : Th} {i : In1} {g : Go1} {N : Nat} (h : Rel f i g) (hf : Few N f) (x : Int) (left : Int → Int → Bool) : Few N (dropU i g x left) := hf.mono (Nat.le_refl _) fun a b hs => by
  rw [h.some_]
  unfold dropU at hs
  split at hs
  · rename_i e; rw [e.1]; rfl
  · exact h.sub a b hs

/-- n is the greatest number that a walk over the tags of a place has met. -/
structure MaxU (i : In1) (p : Int) (left : Int → Int → Bool) (m : Int) : Prop where
  lo : 0 ≤ m
  le : ∀ k x, i p k = some x → left p k = false → k ≤ m
  at_ : m = 0 ∨ ∃ x, i p m = some x
theorem maxU_start (i : In1) (p : Int) : MaxU i p (fun a b => (i a b).isSome) 0 := ⟨Int.le_refl _, fun k x h h' => (by rw [h] at h'; cases h'), .inl rfl⟩
theorem MaxU.done {f : Th} {i : In1} {g : Go1} {p m : Int} {left : Int → Int → Bool} (h : MaxU i p left m) (hr : Rel f i g) (hl : ∀ a b, left a b = false) : MaxT f p m := by
  refine ⟨h.lo, fun k x hx => ?_, h.at_.imp id fun ⟨x, hx⟩ => ?_⟩
  · have := hr.some_ p k
    rw [hx] at this
    obtain ⟨y, hy⟩ := Option.isSome_iff_exists.1 this.symm
    exact h.le k y hy (hl p k)
  · have := hr.some_ p m
    rw [hx] at this
    exact Option.isSome_iff_exists.1 this
theorem MaxU.step {i : In1} {p m a b v : Int} {left : Int → Int → Bool} (h : MaxU i p left m) (hv : i a b = some v) :
    MaxU i p (lessL left a b) (if a = p then (if m < b then b else m) else m) := by
  by_cases hp : a = p
  · subst hp
    rw [if_pos rfl]
    by_cases hb : m < b
    · rw [if_pos hb]
      refine ⟨by have := h.lo; omega, fun k x hx hl => ?_, .inr ⟨v, hv⟩⟩
      cases hl' : left a k with
      | false => have := h.le k x hx hl'; omega
      | true => simp [lessL, hl'] at hl; omega
    · rw [if_neg hb]
      refine ⟨h.lo, fun k x hx hl => ?_, h.at_⟩
      cases hl' : left a k with
      | false => exact h.le k x hx hl'
      | true => simp [lessL, hl'] at hl; omega
  · rw [if_neg hp]
    refine ⟨h.lo, fun k x hx hl => h.le k x hx ?_, h.at_⟩
    cases hl' : left p k with
    | false => rfl
    | true => simp [lessL, hl'] at hl; exact absurd hl.1.symm hp
theorem MaxT.none {f : Th} {i : In1} {g : Go1} {p m : Int} (h : MaxT f p m) (hr : Rel f i g) : i p (m + 1) = none := by
  cases e : i p (m + 1) with
  | none => rfl
  | some x =>
    exfalso
    have := hr.some_ p (m + 1)
    rw [e] at this
    obtain ⟨y, hy⟩ := Option.isSome_iff_exists.1 this
    have := h.le _ _ hy
    omega

/-- want, under way. -/
structure WantU (i : In1) (g : Go1) (G : List (Int × Int)) (left : Int → Int → Bool) (L : List Int) : Prop where
  ris : L.Pairwise (· < ·)
  snd : ∀ x, x ∈ L → ∃ a b, i a b = some x ∧ g a b = none
  cpl : ∀ a b x, i a b = some x → g a b = none → left a b = false → x ∈ L
  len : L.length ≤ G.countP fun k => !left k.1 k.2
theorem wantU_start (i : In1) (g : Go1) (G : List (Int × Int)) : WantU i g G (fun a b => (i a b).isSome) [] := ⟨List.Pairwise.nil, fun _ h => absurd h (by simp), fun a b x h _ h' => (by rw [h] at h'; cases h'), Nat.zero_le _⟩
theorem left_less {G : List (Int × Int)} {left : Int → Int → Bool} {a b : Int} (hl : left a b = true) (hG : (a, b) ∈ G) : G.countP (fun k => !left k.1 k.2) + 1 ≤ G.countP fun k => !lessL left a b k.1 k.2 :=
  countP_more (x := (a, b)) (fun k hk => by simp at hk; simp [lessL, hk]) (by simp [hl]) (by simp [lessL]) hG
theorem WantU.skip {i : In1} {g : Go1} {G : List (Int × Int)} {left : Int → Int → Bool} {L : List Int} {a b x : Int} (h : WantU i g G left L) (hx : i a b = some x) (hl : left a b = true) (hG : (a, b) ∈ G) (hk : g a b ≠ none ∨ x ∈ L) :
    WantU i g G (lessL left a b) L := by
  refine ⟨h.ris, h.snd, fun p q y hy hg hl' => ?_, Nat.le_trans h.len (by have := left_less hl hG; omega)⟩
  by_cases e : p = a ∧ q = b
  · obtain ⟨rfl, rfl⟩ := e
    rw [hx] at hy
    obtain rfl := Option.some.inj hy
    rcases hk with hk | hk
    · exact absurd hg hk
    · exact hk
  · exact h.cpl p q y hy hg (by simpa [lessL, e] using hl')
theorem WantU.add {i : In1} {g : Go1} {G : List (Int × Int)} {left : Int → Int → Bool} {L : List Int} {a b x : Int} (h : WantU i g G left L) (hx : i a b = some x) (hl : left a b = true) (hG : (a, b) ∈ G) (hk : g a b = none) {k : Nat} (hkl : k ≤ L.length)
    (hlo : ∀ j (hj : j < L.length), j < k → L[j] < x) (hhi : ∀ hj : k < L.length, x < L[k]) :
    WantU i g G (lessL left a b) (L.take k ++ x :: L.drop k) := by
  obtain ⟨h1, h2⟩ := ins_rising h.ris hkl hlo hhi
  refine ⟨h1, fun y hy => ?_, fun p q y hy hg hl' => ?_, ?_⟩
  · rcases (h2 y).1 hy with e | e
    · subst e; exact ⟨a, b, hx, hk⟩
    · exact h.snd y e
  · rw [h2]
    by_cases e : p = a ∧ q = b
    · obtain ⟨rfl, rfl⟩ := e
      rw [hx] at hy
      exact .inl (Option.some.inj hy).symm
    · exact .inr (h.cpl p q y hy hg (by simpa [lessL, e] using hl'))
  · have e1 : (L.take k ++ x :: L.drop k).length = L.length + 1 := by simp; omega
    rw [e1]
    exact Nat.le_trans (Nat.add_le_add_right h.len 1) (left_less hl hG)
theorem WantU.done {f : Th} {i : In1} {g : Go1} {G : List (Int × Int)} {left : Int → Int → Bool} {L : List Int} (h : WantU i g G left L) (hr : Rel f i g) (hl : ∀ a b, left a b = false) (x : Int) : x ∈ L ↔ HasT f x := by
  rw [hr.has]
  exact ⟨h.snd x, fun ⟨a, b, h1, h2⟩ => h.cpl a b x h1 h2 (hl a b)⟩
theorem WantU.short {i : In1} {g : Go1} {G : List (Int × Int)} {left : Int → Int → Bool} {L : List Int} (h : WantU i g G left L) : L.length ≤ G.length := Nat.le_trans h.len List.countP_le_length
/-- A number that is the first that is not less than another one of a rising list. -/
theorem ris_eq {L : List Int} {x : Int} {k : Nat} (hk : k < L.length) (h : L[k] = x) : x ∈ L := by rw [← h]; exact List.getElem_mem hk

/-- The loop that makes want, under way. -/
structure WantI (w wr wc : World) (mi mg : Nat → Nat) (p : Nat → Option Nat) (f : Nat → Th) (i : Nat → In1) (g : Nat → Go1) (s k : Nat) (v : Value) (left : Int → Int → Bool) (L : List Int) : Prop where
  rg : RangeO Tryd.prog 49 mkI wr (some (mi s)) wc.heap.size (i s) left
  j : MtJ w wr mi mg p f i g
  wu : WantU (i s) (g s) (gridL (k + 1)) left L
  row : RowAt wr (wc.heap.size + 1) v L
  sz : wc.heap.size + 1 ≤ wr.heap.size

/-- A row of one's own, one place longer: all from place k on go one place on, and y comes to place k. -/
theorem row_ins {W : World} {base g off cap : Nat} {cur : Array Value} {L : List Int} (hb : base ≤ g) (hg : W.heap[g]? = some (.cells cur 3 (0, 0))) (h1 : L.length + 1 ≤ cap) (h2 : off + cap ≤ cur.size) (h3 : cap ≤ maxLen)
    (h4 : ∀ j (hj : j < L.length), W.cell? ⟨g, off + j, none⟩ = some (.int .i64 L[j])) {k : Nat} (hk : k ≤ L.length) (y : Int) {W1 : World} (hW : W1 = W.setCells g (off + (k + 1)) ((L.drop k).map (Value.int .i64))) :
    RowAt (W1.setCell ⟨g, off + k, none⟩ (.int .i64 y)) base (.slice (some ⟨g, off, none⟩) (L.length + 1) cap) (L.take k ++ y :: L.drop k) := by
  subst hW
  have hlen : (L.take k ++ y :: L.drop k).length = L.length + 1 := by simp; omega
  obtain ⟨c1, e1, z1⟩ := heap_setCells ((L.drop k).map (Value.int .i64)) (off + (k + 1)) W cur hg
  obtain ⟨c2, e2, z2⟩ := heap_setCell e1 (off + k) (.int .i64 y)
  refine rowAt_put (cur := cur) hb ⟨c2, e2, z2.trans z1⟩ (by omega) h2 h3 (fun j hj => ?_) hlen.symm
  rw [hlen] at hj
  by_cases ejk : j = k
  · subst ejk
    have hx : (W.setCells g (off + (j + 1)) ((L.drop j).map (Value.int .i64))).cell? ⟨g, off + j, none⟩ = some c1[off + j] := by
      rw [cell_of_row _ g (off + j) c1 3 (0, 0) e1, Array.getElem?_eq_getElem (by omega)]
    rw [World.cell?_setCell_same _ _ _ hx]
    congr 2
    rw [List.getElem_append_right (by simp; omega)]
    simp [Nat.min_eq_left hk]
  · rw [World.cell?_setCell_other _ _ _ _ (offN (by omega))]
    by_cases hjk : j < k
    · rw [World.cell?_setCells_out g _ _ _ _ (fun _ _ => .inl (by show off + j < off + (k + 1); omega)), h4 j (by omega)]
      rw [List.getElem_append_left (by simp; omega), List.getElem_take]
    · have hin := World.cell?_setCells_in g ((L.drop k).map (Value.int .i64)) (off + (k + 1)) W (fun m hm => some_of_heap hg (by simp at hm; omega)) (j - (k + 1)) (by simp; omega)
      rw [show off + (k + 1) + (j - (k + 1)) = off + j by omega] at hin
      rw [hin]
      simp only [List.getElem_map, List.getElem_drop]
      congr 2
      rw [List.getElem_append_right (by simp; omega)]
      simp only [List.length_take, Nat.min_eq_left hk]
      obtain ⟨m, rfl⟩ : ∃ m, j = k + (m + 1) := ⟨j - k - 1, by omega⟩
      simp only [show k + (m + 1) - k = m + 1 by omega, List.getElem_cons_succ, List.getElem_drop]
      congr 1
      omega
/-- The cells that go. -/
theorem row_src {W : World} {g off : Nat} {L : List Int} (h4 : ∀ j (hj : j < L.length), W.cell? ⟨g, off + j, none⟩ = some (.int .i64 L[j])) (k : Nat) : ∀ j v, ((L.drop k).map (Value.int .i64))[j]? = some v → W.cell? ((⟨g, off + k, none⟩ : Addr).add j) = some v := fun j v hj => by
  have hl := (List.getElem?_eq_some_iff.1 hj).1
  simp at hl
  rw [Addr.add_lit, Nat.add_assoc, h4 (k + j) (by omega)]
  rw [List.getElem?_map, List.getElem?_drop, List.getElem?_eq_getElem (by omega)] at hj
  simpa using hj
end Go.Proofs.YthphoiadhddggaaDoor
