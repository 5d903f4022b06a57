/-
  MergeThings: the rows of three and the maps in memory, a step at a time.
-/
import Derived.Test.YthphoiadhddggaaDoorMtM
namespace Go.Proofs.YthphoiadhddggaaDoor
open Go.RowKit

def setP {α : Type} (p : Nat → α) (s : Nat) (x : α) : Nat → α := fun i => if i = s then x else p i
theorem setP_same {α : Type} (p : Nat → α) (s : Nat) (x : α) : setP p s x s = x := by simp [setP]
theorem setP_other {α : Type} (p : Nat → α) {s i : Nat} (x : α) (h : i ≠ s) : setP p s x i = p i := by simp [setP, h]
/-- MtI without what the three have to do with each other. -/
structure MtJ (w wr : World) (mi mg : Nat → Nat) (p : Nat → Option Nat) (f : Nat → Th) (i : Nat → In1) (g : Nat → Go1) : Prop where
  a7 : Arr wr w.heap.size 39 (fun s => .map (p s))
  a8 : Arr wr (w.heap.size + 1) 41 (fun s => .map (some (mi s)))
  a9 : Arr wr (w.heap.size + 1 + 1) 43 (fun s => .map (some (mg s)))
  hf : ∀ s, s < 3 → ThO wr (p s) (f s)
  hi : ∀ s, s < 3 → InK wr (mi s) (i s)
  hg : ∀ s, s < 3 → GoK wr (mg s) (g s)
  ap : Apart (w.heap.size + 1 + 1 + 1) mi mg 3
  pb : ∀ s M, s < 3 → p s = some M → w.heap.size + 1 + 1 + 1 ≤ M ∧ ∀ t, t < 3 → M ≠ mi t ∧ M ≠ mg t
  bel : Below w.heap.size w wr
section
variable {w wr w' : World} {n : Nat} {mi mg : Nat → Nat} {p : Nat → Option Nat} {f : Nat → Th} {i : Nat → In1} {g : Nat → Go1}
theorem MtI.j (h : MtI w wr n mi mg p f i g) : MtJ w wr mi mg p f i g := ⟨h.a7, h.a8, h.a9, h.hf, h.hi, h.hg, h.ap, h.pb, h.bel⟩
theorem MtJ.back (h : MtJ w wr mi mg p f i g) (hr : ∀ s, s < 3 → Rel (f s) (i s) (g s)) (hd : ∀ s, s < 3 → Grid n (f s)) : MtI w wr n mi mg p f i g := ⟨h.a7, h.a8, h.a9, h.hf, h.hi, h.hg, hr, hd, h.ap, h.pb, h.bel⟩
theorem MtJ.on (h : MtJ w wr mi mg p f i g) (hb : Below wr.heap.size wr w') : MtJ w w' mi mg p f i g :=
  ⟨h.a7.bel hb, h.a8.bel hb, h.a9.bel hb, fun s hs => (h.hf s hs).bel hb, fun s hs => (h.hi s hs).below hb (h.hi s hs).lt, fun s hs => (h.hg s hs).below hb (h.hg s hs).lt, h.ap, h.pb, h.bel.trans (hb.mono h.bel.size)⟩
theorem MtJ.setF (h : MtJ w wr mi mg p f i g) {M s : Nat} {f' : Th} (hs : s < 3) (hM : ThK wr M f') (hb : w.heap.size + 1 + 1 + 1 ≤ M) (hne : ∀ t, t < 3 → M ≠ mi t ∧ M ≠ mg t) :
    MtJ w (wr.setCell ⟨w.heap.size, s, none⟩ (.map (some M))) mi mg (setP p s (some M)) (setP f s f') i g := by
  have e : ∀ k, k ≠ w.heap.size → (wr.setCell ⟨w.heap.size, s, none⟩ (.map (some M))).heap[k]? = wr.heap[k]? := fun k hk => Below.heap_setCell _ _ _ _ hk
  refine ⟨(h.a7.put hs _).same fun j _ => ?_, h.a8.block (e _ (by omega)), h.a9.block (e _ (by omega)), fun t ht => ?_, fun t ht => (h.hi t ht).block (e _ (by have := h.ap.bi t ht; omega)), fun t ht => (h.hg t ht).block (e _ (by have := h.ap.bg t ht; omega)), h.ap, fun t N ht hN => ?_, h.bel.setCell (by simp only; omega) _⟩
  · unfold setV setP
    by_cases e : j = s <;> simp [e]
  · by_cases et : t = s
    · subst et
      rw [setP_same, setP_same]
      exact .inr ⟨M, rfl, hM.block (e _ (by omega))⟩
    · rw [setP_other _ _ et, setP_other _ _ et]
      rcases h.hf t ht with h0 | ⟨N, e0, h0⟩
      · exact .inl h0
      · exact .inr ⟨N, e0, h0.block (e _ (by have := (h.pb t N ht e0).1; omega))⟩
  · by_cases et : t = s
    · subst et
      rw [setP_same] at hN
      obtain rfl := Option.some.inj hN
      exact ⟨hb, hne⟩
    · rw [setP_other _ _ et] at hN
      exact h.pb t N ht hN
theorem MtJ.setI (h : MtJ w wr mi mg p f i g) {s : Nat} {i' : In1} (hs : s < 3) (hg' : wr.grownBy w' (some (mi s))) (hM : InK w' (mi s) i') : MtJ w w' mi mg p f (setP i s i') g := by
  have b := h.ap.bi s hs
  refine ⟨h.a7.kept hg' (fun e => by have := Option.some.inj e; omega), h.a8.kept hg' (fun e => by have := Option.some.inj e; omega), h.a9.kept hg' (fun e => by have := Option.some.inj e; omega),
    fun t ht => (h.hf t ht).kept hg' fun M hM e => ((h.pb t M ht hM).2 s hs).1 (Option.some.inj e), fun t ht => ?_, fun t ht => (h.hg t ht).kept hg' fun e => h.ap.ig s t hs ht (Option.some.inj e).symm, h.ap, h.pb, h.bel.grown hg' h.bel.size (fun k hk => by cases hk; omega)⟩
  by_cases et : t = s
  · subst et; rw [setP_same]; exact hM
  · rw [setP_other _ _ et]
    exact (h.hi t ht).kept hg' fun e => h.ap.ii t s ht hs et (Option.some.inj e)
theorem MtJ.setG (h : MtJ w wr mi mg p f i g) {s : Nat} {g' : Go1} (hs : s < 3) (hg' : wr.grownBy w' (some (mg s))) (hM : GoK w' (mg s) g') : MtJ w w' mi mg p f i (setP g s g') := by
  have b := h.ap.bg s hs
  refine ⟨h.a7.kept hg' (fun e => by have := Option.some.inj e; omega), h.a8.kept hg' (fun e => by have := Option.some.inj e; omega), h.a9.kept hg' (fun e => by have := Option.some.inj e; omega),
    fun t ht => (h.hf t ht).kept hg' fun M hM e => ((h.pb t M ht hM).2 s hs).2 (Option.some.inj e), fun t ht => (h.hi t ht).kept hg' fun e => h.ap.ig t s ht hs (Option.some.inj e), fun t ht => ?_, h.ap, h.pb, h.bel.grown hg' h.bel.size (fun k hk => by cases hk; omega)⟩
  by_cases et : t = s
  · subst et; rw [setP_same]; exact hM
  · rw [setP_other _ _ et]
    exact (h.hg t ht).kept hg' fun e => h.ap.gg t s ht hs et (Option.some.inj e)
end
end Go.Proofs.YthphoiadhddggaaDoor
