/-
  A range over a function whose iterator may itself range over another one: what rounds and iterator keep for each other (own contract), and the law for who ranges.
  slices.Backward over numbers: its contract.
  A region that draws its order and holds a call of yield, within a round of a range over a function: all but the call (B) are walked as everywhere; the call waits for them.
-/
import Derived.RangeFuncNested
import Derived.RangeFuncBound
import Derived.RangeFuncCalls
import Derived.RangeFuncLeaves
import Derived.Shelf.Abstract
import Derived.WalkKit
import Derived.OwnWalkIn
import Derived.TacticsInMore
import Derived.LoopNIn
import Derived.LoopIn
import Derived.Test.YtaopigjhdkdklaaDoorIsM
import Derived.Test.YtaopigjhdkdklaaDoorRgRZ
namespace Go.Proofs.YtaopigjhdkdklaaDoor
open Go.RowKit Go.Shelf

/-- What a round keeps: the blocks of X, and all that the iterator made since it began (from B on). -/
structure KeptX (X : Nat → Prop) (B : Nat) (W W' : World) : Prop where
  os : W'.os = W.os
  tape : W'.tape = W.tape
  output : W'.output = W.output
  size : W.heap.size ≤ W'.heap.size
  block : ∀ b, b < W.heap.size → X b ∨ B ≤ b → W'.heap[b]? = W.heap[b]?
theorem KeptX.refl {X : Nat → Prop} {B : Nat} (A : World) : KeptX X B A A := ⟨rfl, rfl, rfl, Nat.le_refl _, fun _ _ _ => rfl⟩
theorem KeptX.trans {X : Nat → Prop} {B : Nat} {A C D : World} (h : KeptX X B A C) (k : KeptX X B C D) : KeptX X B A D :=
  ⟨k.os.trans h.os, k.tape.trans h.tape, k.output.trans h.output, Nat.le_trans h.size k.size, fun b hb hx => (k.block b (Nat.lt_of_lt_of_le hb h.size) hx).trans (h.block b hb hx)⟩
theorem KeptX.mono {X Y : Nat → Prop} {B B' : Nat} {A C : World} (h : KeptX X B A C) (hx : ∀ b, Y b ∨ B' ≤ b → X b ∨ B ≤ b) : KeptX Y B' A C :=
  ⟨h.os, h.tape, h.output, h.size, fun b hb hy => h.block b hb (hx b hy)⟩
theorem KeptX.below {X : Nat → Prop} {B : Nat} {A C : World} (h : Below A.heap.size A C) : KeptX X B A C := ⟨h.os, h.tape, h.output, h.size, fun b hb _ => h.block b hb⟩
theorem KeptX.set {X : Nat → Prop} {B : Nat} {W : World} {p : Addr} (hx : ¬ X p.block) (hB : p.block < B) (u : Value) : KeptX X B W (W.setCell p u) :=
  ⟨rfl, rfl, rfl, by simp, fun b _ h => Below.heap_setCell W p u b (fun e => by
    rcases h with h | h
    · rw [e] at h; exact hx h
    · omega)⟩
/-- What is kept below a number that X holds whole. -/
theorem KeptX.to {X : Nat → Prop} {B n : Nat} {A C D : World} (h : KeptX X B C D) (hx : ∀ b, b < n → X b) (k : Below n A C) (hn : n ≤ A.heap.size) : Below n A D :=
  ⟨h.os.trans k.os, h.tape.trans k.tape, h.output.trans k.output, Nat.le_trans k.size h.size, fun b hb => (h.block b (by have := k.size; omega) (.inl (hx b hb))).trans (k.block b hb)⟩
/-- What speaks of nothing from B on. -/
def AbB {β : Type} (B : Nat) (J : β → World → Prop) : Prop := ∀ s A C, J s A → Below B A C → J s C
/-- The iterator's contract. -/
def SeqB {α : Type} (F : Fence) (n : Nat) (P : Program) (g : Nat) (lb : Array Value) (encs : α → Array Value) (X : Nat → Prop) (S Sp : List α → Prop) (N : Nat) (w : World) : Prop :=
  ∀ (l : Nat) (J Jx : List α → World → Prop) (W : World), Below w.heap.size w W → AbB W.heap.size J → AbB W.heap.size Jx →
    (∀ pre x W1, J pre W1 → W.heap.size ≤ W1.heap.size → pre.length < N → YieldAt F (n - 1) P l (encs x) W1 fun e W' =>
      KeptX X W.heap.size W1 W' ∧ ((e = .returned (.bool true) ∧ J (pre ++ [x]) W') ∨ (e = .returned (.bool false) ∧ Jx (pre ++ [x]) W'))) →
    J [] W →
    CallsIn F n P g (#[.func (.yield l) #[] #[]] ++ lb) W fun e W' => (∃ v, e = .returned v) ∧ ((∃ xs, S xs ∧ J xs W') ∨ (∃ pre, Sp pre ∧ Jx pre W'))
/-- How a round's body may be left. -/
def postB {α : Type} (X : Nat → Prop) (B : Nat) (I : List α → World → Prop) (Ix : Code → List α → World → Prop) (xs : List α) (W : World) : Exit → Act → World → Prop
  | .normal, _, W' => KeptX X B W W' ∧ I xs W'
  | .ret, _, W' => KeptX X B W W' ∧ Ix .ret xs W'
  | .exit id, _, W' => KeptX X B W W' ∧ Ix (.exit id) xs W'
  | .goto t, _, W' => KeptX X B W W' ∧ Ix (.goto t) xs W'
  | .panic _, _, _ => False
  | .outgrown, _, _ => False
theorem below_put {B : Nat} {W : World} {l : Nat} {o : Obj} (o' : Obj) (hl : B ≤ l) (h : W.heap[l]? = some o) : Below B W (W.putObj l o') :=
  (Below.refl B W).grown (grownBy_putObj' W l o') (by have := (Array.getElem?_eq_some_iff.1 h).1; omega) (fun k e => by cases e; omega)
theorem roundAny {F : Fence} (hd : F.depth = none) {m m' : Nat} {P : Program} {l : Nat} {f : FuncId} {tmps : Array Value} {assign body : Code} {w : World} {R : Ending → World → Prop}
    (h : RoundIn F m P l f tmps assign body w R) : RoundIn F m' P l f tmps assign body w R := ⟨h.1, fun c cs _ => h.2 c cs (fun d e => by rw [hd] at e; cases e)⟩

theorem wpIn_rangeFunc_B {α : Type} {F : Fence} {n : Nat} {P : Program} {g : Operand} {ps : Array Tmp} {assign body : Code} {Q : Exit → Act → World → Prop} {a : Act} {w : World}
    (hro : F.round = none) (h1 : 1 ≤ n) {gf : Nat} {lb : Array Value} (hg : a.eval g = .func (.func gf) #[] lb) (hFg : F.fn gf) (eg : ∀ args w, (callFunc gf args).run P w = .ok (.enter gf args) w)
    {encs : α → Array Value} {X : Nat → Prop} {S Sp : List α → Prop} {N : Nat} {w0 : World} (hseq : SeqB F (n - 1) P gf lb encs X S Sp N w0)
    (hX : ∀ b, X b → b < w.heap.size) (hb0 : Below w0.heap.size w0 w) (hps : ∀ x, (encs x).size = ps.size)
    (I : List α → World → Prop) (Ix : Code → List α → World → Prop) (hI : AbB w.heap.size I) (hIx : ∀ c, AbB w.heap.size (Ix c)) (h0 : I [] w) (a₁ : α → Act)
    (hassign : ∀ (l : Nat) (x : α) (W : World) (K : Act → World → Prop), K (a₁ x) W →
      assign.wpIn (F.inRound l) (n - 1 - 1) P (Exit.then K (fun _ _ _ => False)) { tmps := (ps.zip (encs x)).foldl (fun t (p, v) => t.setIfInBounds p v) a.tmps, defers := [] } W)
    (hbody : ∀ (l : Nat) (pre : List α) (x : α) (W : World), I pre W → w.heap.size ≤ W.heap.size → pre.length < N → body.wpIn (F.inRound l) (n - 1 - 1) P (postB X w.heap.size I Ix (pre ++ [x]) W) (a₁ x) W)
    (hdone : ∀ (D : Nat) (xs : List α) (W : World), w.heap.size ≤ D → S xs → I xs W → W.heap[D]? = some (.deferred (some [])) → Q .normal { a with defers := { target := .collected D, args := #[] } :: a.defers } W)
    (hstop : ∀ (D : Nat) (c : Code) (pre : List α) (W : World), w.heap.size ≤ D → Sp pre → Ix c pre W → W.heap[D]? = some (.deferred (some [])) → c.wpIn F n P Q { a with defers := { target := .collected D, args := #[] } :: a.defers } W) :
    (Code.rangeFunc g ps assign body).wpIn F n P Q a w := by
  refine wpIn_rangeFunc ?_
  intro fn hfn
  rw [hro]
  obtain ⟨rec, hrec⟩ : ∃ rec : LoopState → Option Code → Loop, rec = fun st pe => { state := st, pending := pe, fn, tmps := a.tmps, params := ps, assign, body, defers := w.heap.size } := ⟨_, rfl⟩
  obtain ⟨W1, hW1⟩ : ∃ W1, (w.alloc (.deferred (some []))).alloc (.loop (rec .ready none)) = W1 := ⟨_, rfl⟩
  have hs1 : W1.heap.size = w.heap.size + 2 := by rw [← hW1]; simp
  have hL1 : W1.heap[w.heap.size + 1]? = some (.loop (rec .ready none)) := by
    rw [← hW1]; have := World.alloc_heap_new (w.alloc (.deferred (some []))) (.loop (rec .ready none)); rwa [World.size_alloc] at this
  have hK1 : W1.heap[w.heap.size]? = some (.deferred (some [])) := by
    rw [← hW1]; exact (Below.heap_alloc _ _ _ (by simp)).trans (World.alloc_heap_new w _)
  have hbw : Below w.heap.size w W1 := by
    rw [← hW1]; exact ((Below.refl _ w).alloc (Nat.le_refl _) _).alloc (by simp) _
  have hI1 : I [] W1 := hI _ _ _ h0 hbw
  have hb1 : Below w0.heap.size w0 W1 := hb0.trans (hbw.mono hb0.size)
  refine ⟨w.heap.size + 1, [{ target := .collected w.heap.size, args := #[] }], W1, { target := .fn (.func gf) lb, args := #[.func (.yield (w.heap.size + 1)) #[] #[]] }, W1, gf,
    #[.func (.yield (w.heap.size + 1)) #[] #[]] ++ lb, W1, ?_, ?_, ?_, ?_, fun _ => h1, ?_⟩
  · rw [← hW1, hrec]; exact run_enterLoop_outer _ _ _ _ _
  · simp only [resolve, hg]
    simp [go_sem]
  · intro f' hf'; simp [Target.leads] at hf'; subst hf'; exact hFg
  · simp [invoke, go_sem, eg]
  · have hlow : ∀ {A C : World}, Below W1.heap.size A C → Below w.heap.size A C := fun h => h.mono (by omega)
    refine (hseq (w.heap.size + 1)
      (fun pre W => I pre W ∧ W.heap[w.heap.size + 1]? = some (.loop (rec .ready none)) ∧ W.heap[w.heap.size]? = some (.deferred (some [])))
      (fun pre W => ∃ c, Ix c pre W ∧ W.heap[w.heap.size + 1]? = some (.loop (rec .done (some c))) ∧ W.heap[w.heap.size]? = some (.deferred (some [])))
      W1 hb1
      (fun s A C hs hbl => ⟨hI s A C hs.1 (hlow hbl), (hbl.block _ (by omega)).trans hs.2.1, (hbl.block _ (by omega)).trans hs.2.2⟩)
      (fun s A C hs hbl => by
        obtain ⟨c, hc, hl, hk⟩ := hs
        exact ⟨c, hIx c s A C hc (hlow hbl), (hbl.block _ (by omega)).trans hl, (hbl.block _ (by omega)).trans hk⟩)
      ?_ ⟨hI1, hL1, hK1⟩).mono ?_
    · rintro pre x W ⟨hi, hl, hk⟩ hsz hlen
      have hlt : w.heap.size + 1 < W.heap.size := (Array.getElem?_eq_some_iff.1 hl).1
      have hy := run_yield (P := P) (args := encs x) hl (by rw [hrec]; exact hps x)
      rw [hrec] at hy
      refine ⟨fn, _, assign, body, hy, roundIn_of_wpIn hfn (hassign _ x W _ ⟨_, run_beginRound hl (by rw [hrec]), ?_⟩)⟩
      obtain ⟨W2, hW2⟩ : ∃ W2, W.putObj (w.heap.size + 1) (.loop { rec .ready none with state := .busy }) = W2 := ⟨_, rfl⟩
      rw [hW2]
      have hl2 : W2.heap[w.heap.size + 1]? = some (.loop { rec .ready none with state := .busy }) := by rw [← hW2]; exact World.putObj_heap_same hlt
      have hk2 : W2.heap[w.heap.size]? = some (.deferred (some [])) := by rw [← hW2]; exact (World.putObj_heap_other (by omega)).trans hk
      have hs2 : W2.heap.size = W.heap.size := by rw [← hW2]; simp
      have hi2 : I pre W2 := by rw [← hW2]; exact hI _ _ _ hi (below_put _ (by omega) hl)
      have ho2 : ∀ b, b ≠ w.heap.size + 1 → W2.heap[b]? = W.heap[b]? := fun b hb => by rw [← hW2]; exact World.putObj_heap_other hb
      refine wpIn_mono (hbody _ pre x W2 hi2 (by omega) hlen) ?_
      have fin : ∀ (jump : Option Code) (W3 : World), KeptX X w.heap.size W2 W3 →
          (Instr.endRound (w.heap.size + 1) jump).run P W3 = .ok (.bool jump.isNone) (W3.putObj (w.heap.size + 1) (.loop (rec (if jump.isNone then .ready else .done) jump))) ∧
          W3.heap[w.heap.size + 1]? = some (.loop { rec .ready none with state := .busy }) ∧
          (W3.putObj (w.heap.size + 1) (.loop (rec (if jump.isNone then .ready else .done) jump))).heap[w.heap.size + 1]? = some (.loop (rec (if jump.isNone then .ready else .done) jump)) ∧
          (W3.putObj (w.heap.size + 1) (.loop (rec (if jump.isNone then .ready else .done) jump))).heap[w.heap.size]? = some (.deferred (some [])) ∧
          KeptX X W1.heap.size W (W3.putObj (w.heap.size + 1) (.loop (rec (if jump.isNone then .ready else .done) jump))) := fun jump W3 hk3 => by
        have hl3 := (hk3.block (w.heap.size + 1) (by omega) (.inr (by omega))).trans hl2
        have := run_endRound (P := P) jump hl3
        rw [hrec] at this ⊢
        refine ⟨this, by rw [hrec] at hl3; exact hl3, World.putObj_heap_same (Array.getElem?_eq_some_iff.1 hl3).1, (World.putObj_heap_other (by omega)).trans ((hk3.block w.heap.size (by omega) (.inr (by omega))).trans hk2), ?_, ?_, ?_, ?_, fun b hb hx => ?_⟩
        · refine Eq.trans ?_ (hk3.os.trans (by rw [← hW2]; rfl)); rfl
        · refine Eq.trans ?_ (hk3.tape.trans (by rw [← hW2]; rfl)); rfl
        · refine Eq.trans ?_ (hk3.output.trans (by rw [← hW2]; rfl)); rfl
        · have := hk3.size
          simp
          omega
        · have hne : b ≠ w.heap.size + 1 := by
            rcases hx with hx | hx
            · have := hX b hx; omega
            · omega
          exact (World.putObj_heap_other hne).trans ((hk3.block b (by omega) (hx.imp id fun h => by omega)).trans (ho2 b hne))
      rintro e a3 W3 hp
      cases e with
      | normal =>
        obtain ⟨hk3, hi3⟩ := hp
        obtain ⟨hr, hl3, hl4, hk4, hkx⟩ := fin none W3 hk3
        exact ⟨_, _, hr, hkx, .inl ⟨rfl, hI _ _ _ hi3 (below_put _ (by omega) hl3), hl4, hk4⟩⟩
      | ret =>
        obtain ⟨hk3, hi3⟩ := hp
        obtain ⟨hr, hl3, hl4, hk4, hkx⟩ := fin (some .ret) W3 hk3
        exact ⟨_, _, hr, hkx, .inr ⟨rfl, .ret, hIx _ _ _ _ hi3 (below_put _ (by omega) hl3), hl4, hk4⟩⟩
      | exit id =>
        obtain ⟨hk3, hi3⟩ := hp
        obtain ⟨hr, hl3, hl4, hk4, hkx⟩ := fin (some (.exit id)) W3 hk3
        exact ⟨_, _, hr, hkx, .inr ⟨rfl, .exit id, hIx _ _ _ _ hi3 (below_put _ (by omega) hl3), hl4, hk4⟩⟩
      | goto t =>
        obtain ⟨hk3, hi3⟩ := hp
        obtain ⟨hr, hl3, hl4, hk4, hkx⟩ := fin (some (.goto t)) W3 hk3
        exact ⟨_, _, hr, hkx, .inr ⟨rfl, .goto t, hIx _ _ _ _ hi3 (below_put _ (by omega) hl3), hl4, hk4⟩⟩
      | panic ch => exact hp.elim
      | outgrown => exact hp.elim
    · rintro e W2 ⟨⟨v, rfl⟩, (⟨xs, hS, hi, hl, hk⟩ | ⟨pre, hSp, c, hi, hl, hk⟩)⟩
      · exact ⟨none, _, by have := run_endLoop (P := P) hl (by rw [hrec]; simp); rw [hrec] at this; exact this, hdone _ xs _ (Nat.le_refl _) hS (hI _ _ _ hi (below_put _ (by omega) hl)) ((World.putObj_heap_other (by omega)).trans hk)⟩
      · exact ⟨some c, _, by have := run_endLoop (P := P) hl (by rw [hrec]; simp); rw [hrec] at this; exact this, hstop _ c pre _ (Nat.le_refl _) hSp (hIx c _ _ _ hi (below_put _ (by omega) hl)) ((World.putObj_heap_other (by omega)).trans hk)⟩
theorem wpIn_rangeFunc_A {α : Type} {F : Fence} {n : Nat} {P : Program} {g : Operand} {ps : Array Tmp} {assign body : Code} {Q : Exit → Act → World → Prop} {a : Act} {w : World}
    (hro : F.round = none) (h1 : 1 ≤ n) {gf : Nat} {lb : Array Value} (hg : a.eval g = .func (.func gf) #[] lb) (hFg : F.fn gf) (eg : ∀ args w, (callFunc gf args).run P w = .ok (.enter gf args) w)
    {encs : α → Array Value} {X : Nat → Prop} {S Sp : List α → Prop} {N : Nat} {w0 : World} (hseq : SeqB F (n - 1) P gf lb encs X S Sp N w0)
    (hX : ∀ b, X b → b < w.heap.size) (hb0 : Below w0.heap.size w0 w) (hps : ∀ x, (encs x).size = ps.size)
    (I : List α → World → Prop) (Ix : Code → List α → World → Prop) (hI : AbB w.heap.size I) (hIx : ∀ c, AbB w.heap.size (Ix c)) (h0 : I [] w) (Ax : α → Act → World → Prop) (hAx : ∀ x a' A C, Ax x a' A → (∀ b, b ≠ w.heap.size + 1 → C.heap[b]? = A.heap[b]?) → Ax x a' C)
    (hassign : ∀ (l : Nat) (pre : List α) (x : α) (W : World) (K : Act → World → Prop), I pre W → w.heap.size + 2 ≤ W.heap.size → (∀ a' W', Below W.heap.size W W' → Ax x a' W' → K a' W') →
      assign.wpIn (F.inRound l) (n - 1 - 1) P (Exit.then K (fun _ _ _ => False)) { tmps := (ps.zip (encs x)).foldl (fun t (p, v) => t.setIfInBounds p v) a.tmps, defers := [] } W)
    (hbody : ∀ (l : Nat) (pre : List α) (x : α) (a' : Act) (W : World), I pre W → Ax x a' W → w.heap.size + 2 ≤ W.heap.size → pre.length < N → body.wpIn (F.inRound l) (n - 1 - 1) P (postB X w.heap.size I Ix (pre ++ [x]) W) a' W)
    (hdone : ∀ (D : Nat) (xs : List α) (W : World), w.heap.size ≤ D → S xs → I xs W → W.heap[D]? = some (.deferred (some [])) → Q .normal { a with defers := { target := .collected D, args := #[] } :: a.defers } W)
    (hstop : ∀ (D : Nat) (c : Code) (pre : List α) (W : World), w.heap.size ≤ D → Sp pre → Ix c pre W → W.heap[D]? = some (.deferred (some [])) → c.wpIn F n P Q { a with defers := { target := .collected D, args := #[] } :: a.defers } W) :
    (Code.rangeFunc g ps assign body).wpIn F n P Q a w := by
  refine wpIn_rangeFunc ?_
  intro fn hfn
  rw [hro]
  obtain ⟨rec, hrec⟩ : ∃ rec : LoopState → Option Code → Loop, rec = fun st pe => { state := st, pending := pe, fn, tmps := a.tmps, params := ps, assign, body, defers := w.heap.size } := ⟨_, rfl⟩
  obtain ⟨W1, hW1⟩ : ∃ W1, (w.alloc (.deferred (some []))).alloc (.loop (rec .ready none)) = W1 := ⟨_, rfl⟩
  have hs1 : W1.heap.size = w.heap.size + 2 := by rw [← hW1]; simp
  have hL1 : W1.heap[w.heap.size + 1]? = some (.loop (rec .ready none)) := by
    rw [← hW1]; have := World.alloc_heap_new (w.alloc (.deferred (some []))) (.loop (rec .ready none)); rwa [World.size_alloc] at this
  have hK1 : W1.heap[w.heap.size]? = some (.deferred (some [])) := by
    rw [← hW1]; exact (Below.heap_alloc _ _ _ (by simp)).trans (World.alloc_heap_new w _)
  have hbw : Below w.heap.size w W1 := by
    rw [← hW1]; exact ((Below.refl _ w).alloc (Nat.le_refl _) _).alloc (by simp) _
  have hI1 : I [] W1 := hI _ _ _ h0 hbw
  have hb1 : Below w0.heap.size w0 W1 := hb0.trans (hbw.mono hb0.size)
  refine ⟨w.heap.size + 1, [{ target := .collected w.heap.size, args := #[] }], W1, { target := .fn (.func gf) lb, args := #[.func (.yield (w.heap.size + 1)) #[] #[]] }, W1, gf,
    #[.func (.yield (w.heap.size + 1)) #[] #[]] ++ lb, W1, ?_, ?_, ?_, ?_, fun _ => h1, ?_⟩
  · rw [← hW1, hrec]; exact run_enterLoop_outer _ _ _ _ _
  · simp only [resolve, hg]
    simp [go_sem]
  · intro f' hf'; simp [Target.leads] at hf'; subst hf'; exact hFg
  · simp [invoke, go_sem, eg]
  · have hlow : ∀ {A C : World}, Below W1.heap.size A C → Below w.heap.size A C := fun h => h.mono (by omega)
    refine (hseq (w.heap.size + 1)
      (fun pre W => I pre W ∧ W.heap[w.heap.size + 1]? = some (.loop (rec .ready none)) ∧ W.heap[w.heap.size]? = some (.deferred (some [])))
      (fun pre W => ∃ c, Ix c pre W ∧ W.heap[w.heap.size + 1]? = some (.loop (rec .done (some c))) ∧ W.heap[w.heap.size]? = some (.deferred (some [])))
      W1 hb1
      (fun s A C hs hbl => ⟨hI s A C hs.1 (hlow hbl), (hbl.block _ (by omega)).trans hs.2.1, (hbl.block _ (by omega)).trans hs.2.2⟩)
      (fun s A C hs hbl => by
        obtain ⟨c, hc, hl, hk⟩ := hs
        exact ⟨c, hIx c s A C hc (hlow hbl), (hbl.block _ (by omega)).trans hl, (hbl.block _ (by omega)).trans hk⟩)
      ?_ ⟨hI1, hL1, hK1⟩).mono ?_
    · rintro pre x W ⟨hi, hl, hk⟩ hsz hlen
      have hlt : w.heap.size + 1 < W.heap.size := (Array.getElem?_eq_some_iff.1 hl).1
      have hy := run_yield (P := P) (args := encs x) hl (by rw [hrec]; exact hps x)
      rw [hrec] at hy
      refine ⟨fn, _, assign, body, hy, roundIn_of_wpIn hfn (hassign _ pre x W _ hi (by omega) fun a' Wa hba hax => ?_)⟩
      clear hy
      have hkb : KeptX X W1.heap.size W Wa := KeptX.below hba
      replace hi : I pre Wa := hI _ _ _ hi (hba.mono (by omega))
      replace hl := (hba.block _ hlt).trans hl
      replace hk := (hba.block _ (by omega)).trans hk
      replace hsz : W1.heap.size ≤ Wa.heap.size := Nat.le_trans hsz hba.size
      replace hlt : w.heap.size + 1 < Wa.heap.size := (Array.getElem?_eq_some_iff.1 hl).1
      clear hba
      revert hkb
      generalize W = Wb
      intro hkb
      obtain ⟨W, rfl⟩ : ∃ W, W = Wa := ⟨_, rfl⟩
      refine ⟨_, run_beginRound hl (by rw [hrec]), ?_⟩
      obtain ⟨W2, hW2⟩ : ∃ W2, W.putObj (w.heap.size + 1) (.loop { rec .ready none with state := .busy }) = W2 := ⟨_, rfl⟩
      rw [hW2]
      have hl2 : W2.heap[w.heap.size + 1]? = some (.loop { rec .ready none with state := .busy }) := by rw [← hW2]; exact World.putObj_heap_same hlt
      have hk2 : W2.heap[w.heap.size]? = some (.deferred (some [])) := by rw [← hW2]; exact (World.putObj_heap_other (by omega)).trans hk
      have hs2 : W2.heap.size = W.heap.size := by rw [← hW2]; simp
      have hi2 : I pre W2 := by rw [← hW2]; exact hI _ _ _ hi (below_put _ (by omega) hl)
      have ho2 : ∀ b, b ≠ w.heap.size + 1 → W2.heap[b]? = W.heap[b]? := fun b hb => by rw [← hW2]; exact World.putObj_heap_other hb
      refine wpIn_mono (hbody _ pre x a' W2 hi2 (hAx x a' W W2 hax ho2) (by omega) hlen) ?_
      have fin : ∀ (jump : Option Code) (W3 : World), KeptX X w.heap.size W2 W3 →
          (Instr.endRound (w.heap.size + 1) jump).run P W3 = .ok (.bool jump.isNone) (W3.putObj (w.heap.size + 1) (.loop (rec (if jump.isNone then .ready else .done) jump))) ∧
          W3.heap[w.heap.size + 1]? = some (.loop { rec .ready none with state := .busy }) ∧
          (W3.putObj (w.heap.size + 1) (.loop (rec (if jump.isNone then .ready else .done) jump))).heap[w.heap.size + 1]? = some (.loop (rec (if jump.isNone then .ready else .done) jump)) ∧
          (W3.putObj (w.heap.size + 1) (.loop (rec (if jump.isNone then .ready else .done) jump))).heap[w.heap.size]? = some (.deferred (some [])) ∧
          KeptX X W1.heap.size W (W3.putObj (w.heap.size + 1) (.loop (rec (if jump.isNone then .ready else .done) jump))) := fun jump W3 hk3 => by
        have hl3 := (hk3.block (w.heap.size + 1) (by omega) (.inr (by omega))).trans hl2
        have := run_endRound (P := P) jump hl3
        rw [hrec] at this ⊢
        refine ⟨this, by rw [hrec] at hl3; exact hl3, World.putObj_heap_same (Array.getElem?_eq_some_iff.1 hl3).1, (World.putObj_heap_other (by omega)).trans ((hk3.block w.heap.size (by omega) (.inr (by omega))).trans hk2), ?_, ?_, ?_, ?_, fun b hb hx => ?_⟩
        · refine Eq.trans ?_ (hk3.os.trans (by rw [← hW2]; rfl)); rfl
        · refine Eq.trans ?_ (hk3.tape.trans (by rw [← hW2]; rfl)); rfl
        · refine Eq.trans ?_ (hk3.output.trans (by rw [← hW2]; rfl)); rfl
        · have := hk3.size
          simp
          omega
        · have hne : b ≠ w.heap.size + 1 := by
            rcases hx with hx | hx
            · have := hX b hx; omega
            · omega
          exact (World.putObj_heap_other hne).trans ((hk3.block b (by omega) (hx.imp id fun h => by omega)).trans (ho2 b hne))
      rintro e a3 W3 hp
      cases e with
      | normal =>
        obtain ⟨hk3, hi3⟩ := hp
        obtain ⟨hr, hl3, hl4, hk4, hkx⟩ := fin none W3 hk3
        exact ⟨_, _, hr, hkb.trans hkx, .inl ⟨rfl, hI _ _ _ hi3 (below_put _ (by omega) hl3), hl4, hk4⟩⟩
      | ret =>
        obtain ⟨hk3, hi3⟩ := hp
        obtain ⟨hr, hl3, hl4, hk4, hkx⟩ := fin (some .ret) W3 hk3
        exact ⟨_, _, hr, hkb.trans hkx, .inr ⟨rfl, .ret, hIx _ _ _ _ hi3 (below_put _ (by omega) hl3), hl4, hk4⟩⟩
      | exit id =>
        obtain ⟨hk3, hi3⟩ := hp
        obtain ⟨hr, hl3, hl4, hk4, hkx⟩ := fin (some (.exit id)) W3 hk3
        exact ⟨_, _, hr, hkb.trans hkx, .inr ⟨rfl, .exit id, hIx _ _ _ _ hi3 (below_put _ (by omega) hl3), hl4, hk4⟩⟩
      | goto t =>
        obtain ⟨hk3, hi3⟩ := hp
        obtain ⟨hr, hl3, hl4, hk4, hkx⟩ := fin (some (.goto t)) W3 hk3
        exact ⟨_, _, hr, hkb.trans hkx, .inr ⟨rfl, .goto t, hIx _ _ _ _ hi3 (below_put _ (by omega) hl3), hl4, hk4⟩⟩
      | panic ch => exact hp.elim
      | outgrown => exact hp.elim
    · rintro e W2 ⟨⟨v, rfl⟩, (⟨xs, hS, hi, hl, hk⟩ | ⟨pre, hSp, c, hi, hl, hk⟩)⟩
      · exact ⟨none, _, by have := run_endLoop (P := P) hl (by rw [hrec]; simp); rw [hrec] at this; exact this, hdone _ xs _ (Nat.le_refl _) hS (hI _ _ _ hi (below_put _ (by omega) hl)) ((World.putObj_heap_other (by omega)).trans hk)⟩
      · exact ⟨some c, _, by have := run_endLoop (P := P) hl (by rw [hrec]; simp); rw [hrec] at this; exact this, hstop _ c pre _ (Nat.le_refl _) hSp (hIx c _ _ _ hi (below_put _ (by omega) hl)) ((World.putObj_heap_other (by omega)).trans hk)⟩
end Go.Proofs.YtaopigjhdkdklaaDoor

namespace Go.Proofs.YtaopigjhdkdklaaDoor
open Go.RowKit Go.Shelf
attribute [local go_sem] Oper.semAt_some

theorem backward_any (a : Option Addr) (len cap : Nat) (w : World) : Calls Tryd.prog 74 #[.slice a len cap] w fun e w' => e = .returned (.func (.func 86) #[] #[.pointer (some ⟨w.heap.size, 0, none⟩)]) ∧ w' = w.alloc (.cells #[.slice a len cap] 52) := by
  go_enter Tryd.func74, Tryd.ntmps74
  go_wp2
  go_ret
  exact ⟨rfl, rfl⟩

/-- What has come when numbers from j on have. -/
def downL (n j : Nat) : List Nat := (List.range' j (n - j)).reverse
theorem downL_end (n : Nat) : downL n n = [] := by simp [downL]
theorem downL_step {n j : Nat} (h : j < n) : downL n j = downL n (j + 1) ++ [j] := by
  unfold downL
  rw [show n - j = (n - (j + 1)) + 1 by omega, List.range'_succ, List.reverse_cons]
theorem downL_len {n j : Nat} : (downL n j).length = n - j := by simp [downL]
theorem downL_pre {n : Nat} : ∀ j, j ≤ n → downL n j <+: downL n 0
  | 0, _ => List.prefix_refl _
  | j + 1, h => by
    refine List.IsPrefix.trans ?_ (downL_pre j (by omega))
    rw [downL_step (by omega : j < n)]
    exact List.prefix_append _ _

abbrev Ix (l : List Nat) := { k : Nat // k < l.length }
def encB (l : List Nat) (x : Ix l) : Array Value := #[.int .i64 (x.1 : Int), .int .i64 ((l[x.1]'x.2 : Nat) : Int)]
theorem pre_down {l : List Nat} {pre : List (Ix l)} {j : Nat} (hj : j < l.length) (h : pre.map (fun x => x.1) = downL l.length (j + 1)) : (pre ++ [(⟨j, hj⟩ : Ix l)]).map (fun x => x.1) = downL l.length j := by
  rw [List.map_append, h, downL_step hj]; rfl

set_option maxRecDepth 100000 in
set_option maxHeartbeats 4000000 in
theorem back_stops (l : List Nat) (hl : l.length ≤ 100000) (n : Nat) (hn : 1 ≤ n) (Bs : Nat) (a : Option Addr) (cap : Nat) (X : Nat → Prop) (w : World) (hXs : X Bs) (hBs : Bs < w.heap.size) (hc : w.cell? ⟨Bs, 0, none⟩ = some (.slice a l.length cap))
    (hq : ∀ k (h : k < l.length), ∃ g off, a = some ⟨g, off, none⟩ ∧ X g ∧ g < w.heap.size ∧ w.cell? ⟨g, off + k, none⟩ = some (.int .i64 (l[k] : Nat))) :
    SeqB Fence.wide n Tryd.prog 86 #[.pointer (some ⟨Bs, 0, none⟩)] (encB l) X (fun xs => xs.map (fun x => x.1) = downL l.length 0) (fun pre => pre.map (fun x => x.1) <+: downL l.length 0) l.length w := by
  intro y J Jx W hW hJ hJx hY h0
  have HY := hideIt hY
  have HJ := hideIt hJ
  have H0 := hideIt h0
  have HC : Hid (∀ Z : World, (∀ b, b < W.heap.size → X b → Z.heap[b]? = W.heap[b]?) → Z.cell? ⟨Bs, 0, none⟩ = some (.slice a l.length cap) ∧ ∀ k (h : k < l.length), ∃ g off, a = some ⟨g, off, none⟩ ∧ Z.cell? ⟨g, off + k, none⟩ = some (.int .i64 (l[k] : Nat))) := fun Z hZ => by
    refine ⟨((World.cell?_of_block (a := ⟨Bs, 0, none⟩) (hZ Bs (by have := hW.size; omega) hXs)).trans (hW.cell (p := ⟨Bs, 0, none⟩) hBs)).trans hc, fun k hk => ?_⟩
    obtain ⟨g, off, e, hx, hg, hv⟩ := hq k hk
    exact ⟨g, off, e, ((World.cell?_of_block (a := ⟨g, off + k, none⟩) (hZ g (by have := hW.size; omega) hx)).trans (hW.cell (p := ⟨g, off + k, none⟩) hg)).trans hv⟩
  have hcW := (HC.out W (fun _ _ _ => rfl)).1
  clear hY hJ hJx h0 hc hq hW hBs
  show CallsIn Fence.wide n Tryd.prog 86 #[.func (.yield y) #[] #[], .pointer (some ⟨Bs, 0, none⟩)] W _
  refine callsIn_of_wp Tryd.func86 rfl trivial ?_ rfl
  simp only [Tryd.ntmps86, List.size_toArray, List.length_cons, List.length_nil, Nat.reduceAdd, Nat.reduceSub, Array.replicate_succ, Array.replicate_zero, List.push_toArray, List.append_toArray, List.nil_append, List.cons_append]
  have hwr : IntKind.i64.wrap ((l.length : Int) - 1) = (l.length : Int) - 1 := by rw [IntKind.wrap_i64]; omega
  gi_wp2
  gi_loopw [3] (fun p wr => ∃ (j : Nat) (pre : List (Ix l)), j ≤ l.length ∧ p = .int .i64 ((j : Int) - 1) ∧ pre.map (fun x => x.1) = downL l.length j ∧ (∀ b, b < W.heap.size → X b → wr.heap[b]? = W.heap[b]?) ∧ J pre wr ∧ W.heap.size ≤ wr.heap.size)
    (fun p _ => (intOf p + 1).toNat)
  case atStart => exact ⟨l.length, [], Nat.le_refl _, rfl, by rw [downL_end]; rfl, fun _ _ _ => rfl, H0.out, Nat.le_refl _⟩
  case round =>
    clear H0 hcW hwr
    obtain ⟨j, pre, hj, rfl, hpre, hkp, hJs, hsz⟩ := hrel
    have HPR := hideIt hpre
    have HJS := hideIt hJs
    have HKP := hideIt hkp
    have hplen : pre.length = l.length - j := by
      have := congrArg List.length hpre
      rw [downL_len, List.length_map] at this
      exact this
    clear hJs hpre hkp
    obtain ⟨hcB, hcq⟩ := HC.out wr HKP.out
    cases j with
    | zero =>
      clear hcq
      have hz : ¬ (0 : Int) ≤ ((0 : Nat) : Int) - 1 := by omega
      gi_wp2
      go_end0
      exact ⟨⟨_, rfl⟩, .inl ⟨pre, HPR.out, HJS.out⟩⟩
    | succ j =>
      obtain ⟨g, off, rfl, hv⟩ := hcq j (by omega)
      have e1 : (((j + 1 : Nat) : Int) - 1) = (j : Int) := by omega
      have hge : (0 : Int) ≤ (j : Int) := by omega
      have hlt : (j : Int) < (l.length : Int) := by omega
      obtain ⟨fn, tmps, assign, body, hy, hR⟩ := HY.out pre ⟨j, by omega⟩ wr HJS.out hsz (by omega)
      dsimp only [encB] at hy
      have HR := hideIt hR
      clear hR
      have hwr : IntKind.i64.wrap ((j : Int) - 1) = (j : Int) - 1 := by rw [IntKind.wrap_i64]; omega
      rw [e1]
      clear e1
      gi_wp2
      refine HR.out.mono ?_
      rintro e W3 ⟨hk3, ⟨rfl, hJ3⟩ | ⟨rfl, hJx3⟩⟩
      · have HJ3 := hideIt hJ3
        have HK3 := hideIt hk3
        clear hJ3 hk3 HR hy
        gi_wp2
        refine ⟨⟨j, pre ++ [⟨j, by omega⟩], by omega, rfl, pre_down (by omega) HPR.out, fun b hb hx => (HK3.out.block b (by omega) (.inl hx)).trans (HKP.out b hb hx), HJ3.out, Nat.le_trans hsz HK3.out.size⟩, ?_⟩
        simp [intOf]
      · clear HR hy
        gi_wp2
        refine bodyPost_ret (results_none rfl _ _ _) rfl ?_
        exact ⟨⟨_, rfl⟩, .inr ⟨pre ++ [⟨j, by omega⟩], by rw [pre_down (by omega) HPR.out]; exact downL_pre _ (by omega), hJx3⟩⟩
end Go.Proofs.YtaopigjhdkdklaaDoor

namespace Go.Proofs.YtaopigjhdkdklaaDoor

section
variable {P : Program} {ops : Array Oper} {md : Region.Mode} {y m : Nat} {Q : Exit → Act → World → Prop} {B : List Nat} {S : World → Prop}

def wpAnyY (P : Program) (y m : Nat) (md : Region.Mode) (ops : Array Oper) (Q : Exit → Act → World → Prop) (B : List Nat) (S : World → Prop) : Nat → Array Bool → Act → World → Prop
  | 0, listed, a, w => Region.ready md ops listed = [] ∧ Q .normal a w
  | n + 1, listed, a, w => (Region.ready md ops listed = [] → Q .normal a w) ∧
    ∀ i ∈ Region.ready md ops listed, (i ∉ B → wpOp P ops Q i (fun a' w' => (Fresh B (listed.setIfInBounds i true) → S w') ∧ wpAnyY P y m md ops Q B S n (listed.setIfInBounds i true) a' w') a w) ∧
      (i ∈ B → wpOpIn (Fence.wide.inRound y) m P ops Q i (fun a' w' => wpAnyY P y m md ops Q B S n (listed.setIfInBounds i true) a' w') a w)
theorem wpAnyIn_of_Y (hd : noDefer ops = true) (hQ : ¬ LetsOut Q) : ∀ (n : Nat) (listed : Array Bool) (a : Act) (w : World), wpAnyY P y m md ops Q B S n listed a w → wpAnyIn (Fence.wide.inRound y) m P md ops Q n listed a w
  | 0, _, _, _, h => h
  | n + 1, _, _, _, h => ⟨h.1, fun i hi => by
    by_cases hB : i ∈ B
    · exact wpOpIn_mono (fun a' w' h' => wpAnyIn_of_Y hd hQ n _ a' w' h') ((h.2 i hi).2 hB)
    · exact wpOpIn_of_wpOp hd hQ (fun a' w' h' => wpAnyIn_of_Y hd hQ n _ a' w' h'.2) ((h.2 i hi).1 hB)⟩

theorem wpAnyY_first {C : List Nat} {i : Nat} {oi : Oper} {v : Value} (hi : ops[i]? = some oi) (hsel : ∀ (j : Nat) (o : Oper) cs b, ops[j]? = some o → o.op ≠ .select cs b)
    (hQ : ∀ c a w, Q (.panic c) (a.put oi.dst v) w → Q (.panic c) a w) (hC : WaitC md ops C i) (hBC : ∀ b ∈ B, b ∈ C) :
    ∀ (n : Nat) (listed : Array Bool) (a : Act) (w : World),
      (∀ j oj, ops[j]? = some oj → j ≠ i → listed.getD j true = false → (∀ e ∈ oj.after, Region.binds md e = true → e.on ≠ i) → oi.apart ops oj = true) →
      i ∈ Region.ready md ops listed → Fresh C listed → YieldsIf P ops S oi v a → S w →
      wpAnyY P y m md ops Q B S n (listed.setIfInBounds i true) (a.put oi.dst v) w → wpAnyY P y m md ops Q B S (n + 1) listed a w := by
  intro n
  induction n with
  | zero =>
    intro listed a w _ hr hF hy hS H
    have hiC : i ∉ C := hC.not_ready (mem_ready.1 hr).1 hF hr
    refine ⟨fun h => (by rw [h] at hr; cases hr), fun j hj => ?_⟩
    by_cases e : j = i
    · subst e; exact ⟨fun _ => hy.wpOp hi hS ⟨fun _ => hS, H⟩, fun hb => absurd (hBC _ hb) hiC⟩
    · have := ready_mono hj e
      rw [H.1] at this
      cases this
  | succ n ih =>
    intro listed a w hfree hr hF hy hS H
    have hiu := (mem_ready.1 hr).1
    have hiC : i ∉ C := hC.not_ready hiu hF hr
    refine ⟨fun h => (by rw [h] at hr; cases hr), fun j hj => ?_⟩
    by_cases e : j = i
    · subst e; exact ⟨fun _ => hy.wpOp hi hS ⟨fun _ => hS, H⟩, fun hb => absurd (hBC _ hb) hiC⟩
    · obtain ⟨hju, oj, hoj, hall⟩ := mem_ready.1 hj
      have hun := unlisted hiu
      have hno : ∀ x ∈ oj.after, Region.binds md x = true → x.on ≠ i := fun x hx hb he => by
        have := hall x hx hb
        rw [he, hun] at this
        cases this
      have hjC : j ∉ C := hC.not_ready hiu hF hj
      refine ⟨fun hjB => ?_, fun hb => absurd (hBC _ hb) hjC⟩
      have hF1 : Fresh C (listed.setIfInBounds j true) := fun b hb => by
        have e1 : j ≠ b := fun h => hjC (by rw [h]; exact hb)
        rw [getD_set_ne true e1]; exact hF b hb
      have hF2 : Fresh B ((listed.setIfInBounds i true).setIfInBounds j true) := fun b hb => by
        have e1 : j ≠ b := fun h => hjC (by rw [h]; exact hBC b hb)
        have e2 : i ≠ b := fun h => hiC (by rw [h]; exact hBC b hb)
        rw [getD_set_ne true e1, getD_set_ne true e2]; exact hF b (hBC b hb)
      have h2 := wpOp_putIf hoj (hfree j oj hoj e hju hno) (fun cs b => hsel i oi cs b hi) (fun cs b => hsel j oj cs b hoj) hQ hy ((H.2 j (ready_mono hj e)).1 hjB)
      refine wpOp_mono (fun a' w' h3 => ?_) h2
      have hS' : S w' := h3.2.1 hF2
      refine ⟨fun _ => hS', ih _ a' w' (fun k ok hk hki hkl hkn => hfree k ok hk hki ?_ hkn) (ready_mono hr (Ne.symm e)) hF1 h3.1 hS' ?_⟩
      · by_cases hjk : j = k
        · subst hjk; exact hju
        · rw [getD_set_ne true hjk] at hkl; exact hkl
      · rw [Array.setIfInBounds_comm _ _ e]
        exact h3.2.2
/-- Number i is taken first (C: those by way of whom B waits for it). -/
theorem wpAnyY_take (C : List Nat) {i : Nat} {oi : Oper} {v : Value} {n : Nat} {listed : Array Bool} {a : Act} {w : World} (hi : ops[i]? = some oi)
    (hs : Region.noSelect ops = true) (hf : Region.free md ops listed i = true) (hr : (Region.ready md ops listed).contains i = true) (hC : (waitB md ops C i && B.all C.contains && freshB C listed) = true)
    (hQ : ∀ c a w, Q (.panic c) (a.put oi.dst v) w → Q (.panic c) a w) (hy : YieldsIf P ops S oi v a) (hS : S w)
    (h : wpAnyY P y m md ops Q B S n (listed.setIfInBounds i true) (a.put oi.dst v) w) : wpAnyY P y m md ops Q B S (n + 1) listed a w := by
  rw [Bool.and_eq_true, Bool.and_eq_true] at hC
  exact wpAnyY_first hi (Region.noSelect_spec hs) hQ (wait_spec hC.1.1) (fun b hb => by simpa using List.all_eq_true.1 hC.1.2 b hb) n listed a w (Region.free_spec hi hf) (by simpa using hr) (fresh_iff.1 hC.2) hy hS h
/-- One alone is ready, none of B, ahead of it. -/
theorem wpAnyY_one {n : Nat} {listed : Array Bool} {a : Act} {w : World} {i : Nat} {o : Oper} (hr : Region.ready md ops listed = [i]) (ho : ops[i]? = some o) (hB : B.contains i = false)
    (h : ∀ K' : Act → World → Prop, Shut (∀ a w, S w → wpAnyY P y m md ops Q B S n (listed.setIfInBounds i true) a w → K' a w) → if Region.wanted o (yielded ops a.tmps) = true then Oper.wp P o a w K' Q else K' (a.put o.dst undef) w) : wpAnyY P y m md ops Q B S (n + 1) listed a w := by
  refine ⟨fun h0 => by rw [hr] at h0; simp at h0, fun j hj => ?_⟩
  rw [hr, List.mem_singleton] at hj
  subst hj
  exact ⟨fun _ => wpOp_step ho fun K' hK => h K' fun a w hS hW => hK a w ⟨fun _ => hS, hW⟩, fun hb => by rw [List.contains_iff_mem.2 hb] at hB; cases hB⟩
/-- The same, when one of B has come up. -/
theorem wpAnyY_late {n : Nat} {listed : Array Bool} {a : Act} {w : World} {i : Nat} {o : Oper} (hr : Region.ready md ops listed = [i]) (ho : ops[i]? = some o) (hB : B.contains i = false) (hF : freshB B (listed.setIfInBounds i true) = false)
    (h : ∀ K' : Act → World → Prop, Shut (∀ a w, wpAnyY P y m md ops Q B S n (listed.setIfInBounds i true) a w → K' a w) → if Region.wanted o (yielded ops a.tmps) = true then Oper.wp P o a w K' Q else K' (a.put o.dst undef) w) : wpAnyY P y m md ops Q B S (n + 1) listed a w := by
  refine ⟨fun h0 => by rw [hr] at h0; simp at h0, fun j hj => ?_⟩
  rw [hr, List.mem_singleton] at hj
  subst hj
  exact ⟨fun _ => wpOp_step ho fun K' hK => h K' fun a w hW => hK a w ⟨fun hf => (by rw [fresh_iff.2 hf] at hF; cases hF), hW⟩, fun hb => by rw [List.contains_iff_mem.2 hb] at hB; cases hB⟩
/-- The call of yield. -/
theorem wpAnyY_yield {n : Nat} {listed : Array Bool} {a : Act} {w : World} {i : Nat} {o : Oper} (hr : Region.ready md ops listed = [i]) (ho : ops[i]? = some o) (hB : B.contains i = true) (hd : ∀ c, o.op ≠ .defer c) (hw : Region.wanted o (yielded ops a.tmps) = true)
    {l : Nat} {f : FuncId} {tmps : Array Value} {assign body : Code} (he : (execOp a.eval o).run P w = .ok (.round l f tmps assign body) w) {R : Ending → World → Prop} (hR : RoundIn Fence.wide (m - 1) P l f tmps assign body w R)
    (h : ∀ e w', R e w' → ∃ v, e = .returned v ∧ wpAnyY P y m md ops Q B S n (listed.setIfInBounds i true) (a.put o.dst v) w') : wpAnyY P y m md ops Q B S (n + 1) listed a w := by
  refine ⟨fun h0 => by rw [hr] at h0; simp at h0, fun j hj => ?_⟩
  rw [hr, List.mem_singleton] at hj
  subst hj
  refine ⟨fun hb => by rw [List.contains_iff_mem] at hB; exact absurd hB hb, fun _ => ?_⟩
  unfold wpOpIn
  simp only [ho]
  rw [if_pos hw]
  unfold Oper.wpIn
  refine ⟨fun _ _ => trivial, ?_⟩
  rw [show (Fence.wide.inRound y).round = some y from rfl, Oper.semAt_some y _ _ hd, he]
  refine ⟨fun hx => absurd hx (by simp [Fence.wide]), ?_⟩
  refine RoundIn.mono (R := R) hR fun e w' hRe => ?_
  obtain ⟨v, rfl, hv⟩ := h e w' hRe
  exact hv
theorem wpAnyY_done {listed : Array Bool} {a : Act} {w : World} (hr : Region.ready md ops listed = []) (h : Q .normal a w) : ∀ n, wpAnyY P y m md ops Q B S n listed a w
  | 0 => ⟨hr, h⟩
  | _ + 1 => ⟨fun _ => h, by rw [hr]; simp⟩
theorem wpIn_round_Y {id : Nat} {a : Act} {w : World} {l : List Oper} (B : List Nat) (S : World → Prop) (hd : noDefer l.toArray = true) (hm : P.follows .mixedOrders = true) (hS : S w.drew)
    (h : S w.drew → wpAnyY P y m .any l.toArray (noPO Q) B S l.toArray.size (Array.replicate l.toArray.size false) a w.drew) : (Code.region id l.toArray true).wpIn (Fence.wide.inRound y) m P Q a w :=
  wpIn_mono (wpIn_region_any hm (wpAnyIn_of_Y hd noPO_out _ _ _ _ (h hS))) noPO_spec
end
end Go.Proofs.YtaopigjhdkdklaaDoor
