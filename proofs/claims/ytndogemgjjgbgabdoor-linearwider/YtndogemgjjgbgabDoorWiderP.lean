/-
  WIDER TIMES KEEP WHAT AN ORDER SHOWS: ops whose calls and ends are thrice as far, one end later still; and a list of ops in a block of one's own, a field written.
-/
import Derived.Test.YtndogemgjjgbgabDoorTimelyWZ
namespace Go.Proofs.YtndogemgjjgbgabDoor
open Go.RowKit

/-- Two lists of ops that tell the same, the second one with fewer that are Before. -/
structure Wid (l m : List Opn) : Prop where
  len : m.length = l.length
  k : ∀ n, n < l.length → (opN m n).k = (opN l n).k
  d : ∀ n, n < l.length → (opN m n).d = (opN l n).d
  a : ∀ n, n < l.length → (opN m n).a = (opN l n).a
  b : ∀ n, n < l.length → (opN m n).b = (opN l n).b
  r : ∀ n, n < l.length → (opN m n).r = (opN l n).r
  e : ∀ n, n < l.length → (0 ≤ (opN m n).e ↔ 0 ≤ (opN l n).e)
  bf : ∀ i j, i < l.length → j < l.length → beforeB (opN m i) (opN m j) = true → beforeB (opN l i) (opN l j) = true

theorem Wid.after {l m : List Opn} (h : Wid l m) (o : Int) (S : Int → List Int) {n : Nat} (hn : n < l.length) : after o S (opN m n) = after o S (opN l n) := by
  unfold Go.Proofs.YtndogemgjjgbgabDoor.after
  rw [h.k n hn, h.d n hn, h.a n hn, h.b n hn]
theorem Wid.fine {l m : List Opn} (h : Wid l m) (o : Int) (S : Int → List Int) {n : Nat} (hn : n < l.length) : opFine o S (opN m n) = opFine o S (opN l n) := by
  unfold opFine
  rw [h.k n hn, h.d n hn, h.a n hn, h.b n hn, h.r n hn]
  have e : decide ((opN m n).e < 0) = decide ((opN l n).e < 0) := by
    have := h.e n hn
    exact decide_eq_decide.2 (by omega)
  rw [e]
theorem opOf_opN {l : List Opn} {n : Nat} (h : n < l.length) : opOf l (n : Int) = some (opN l n) := by rw [opOf_at h, opN_at h]
theorem Wid.sAt {l m : List Opn} (h : Wid l m) (o : Int) {ord : List Int} (hr : ∀ n ∈ ord, 0 ≤ n ∧ n < l.length) : ∀ k, k ≤ ord.length → sAt o m ord k = sAt o l ord k
  | 0, _ => rfl
  | k + 1, hk => by
    have ih := Wid.sAt h o hr k (by omega)
    have hm := hr ord[k] (List.getElem_mem _)
    obtain ⟨n, hn⟩ : ∃ n : Nat, ord[k] = (n : Int) := ⟨ord[k].toNat, by omega⟩
    have hnl : n < l.length := by omega
    unfold Go.Proofs.YtndogemgjjgbgabDoor.sAt
    rw [List.getElem?_eq_getElem (by omega), hn]
    simp only [Option.bind_some]
    rw [opOf_opN hnl, opOf_opN (by rw [h.len]; exact hnl), ih]
    exact h.after o _ hnl

theorem wid_shows {l m : List Opn} {o : Int} {ord : List Int} (h : Wid l m) (hs : ShowsM o l ord) : ShowsM o m ord where
  range := fun n hn => by have := hs.range n hn; rw [h.len]; exact this
  once := hs.once
  whole := fun n hn he => hs.whole n (by rw [← h.len]; exact hn) ((h.e n (by rw [← h.len]; exact hn)).1 he)
  timely := fun j hj i hi => by
    have h1 := hs.range ord[j] (List.getElem_mem _)
    have h2 := hs.range (ord[i]'(Nat.lt_trans hi hj)) (List.getElem_mem _)
    have ht := hs.timely j hj i hi
    cases hb : beforeB (opI m ord[j]) (opI m (ord[i]'(Nat.lt_trans hi hj)))
    · rfl
    · have := h.bf _ _ (by omega) (by omega) hb
      unfold opI at ht
      rw [this] at ht; cases ht
  fine := fun j hj => by
    have hm := hs.range ord[j] (List.getElem_mem _)
    obtain ⟨n, hn⟩ : ∃ n : Nat, ord[j] = (n : Int) := ⟨ord[j].toNat, by omega⟩
    have hnl : n < l.length := by omega
    have hf := hs.fine j hj
    unfold fineAt at hf ⊢
    rw [List.getElem?_eq_getElem hj, hn] at hf ⊢
    simp only [Option.bind_some] at hf ⊢
    rw [opOf_opN hnl] at hf
    rw [opOf_opN (by rw [h.len]; exact hnl), h.sAt o hs.range j (by omega)]
    exact (h.fine o _ hnl).trans hf

/-- Thrice as far. -/
def wideOp (x : Opn) : Opn := { x with c := 3 * x.c, e := if 0 ≤ x.e then 3 * x.e else x.e }
/-- The ops so far: those below k are wide. -/
def wideF (ops : List Opn) (k i : Nat) : Opn := if i < k then wideOp (opN ops i) else opN ops i
/-- One of them ends later. -/
def lateF (ops : List Opn) (q : Nat) (d : Int) (i : Nat) : Opn := if i = q ∧ 0 ≤ (opN ops i).e then { wideOp (opN ops i) with e := 3 * (opN ops i).e + d } else wideOp (opN ops i)
def listF (n : Nat) (f : Nat → Opn) : List Opn := (List.range n).map f
theorem listF_len (n : Nat) (f : Nat → Opn) : (listF n f).length = n := by simp [listF]
theorem listF_at {n : Nat} {f : Nat → Opn} {i : Nat} (h : i < n) : opN (listF n f) i = f i := by
  rw [opN_at (by rw [listF_len]; exact h)]; simp [listF]

theorem late_wid (ops : List Opn) (q : Nat) (d : Int) (hd : 0 ≤ d) : Wid ops (listF ops.length (lateF ops q d)) := by
  have key : ∀ n, n < ops.length → opN (listF ops.length (lateF ops q d)) n = lateF ops q d n := fun n hn => listF_at hn
  have hf : ∀ n, (lateF ops q d n).k = (opN ops n).k ∧ (lateF ops q d n).d = (opN ops n).d ∧ (lateF ops q d n).a = (opN ops n).a ∧ (lateF ops q d n).b = (opN ops n).b ∧ (lateF ops q d n).r = (opN ops n).r ∧ (lateF ops q d n).c = 3 * (opN ops n).c ∧
      (0 ≤ (opN ops n).e → 3 * (opN ops n).e ≤ (lateF ops q d n).e) ∧ (¬ 0 ≤ (opN ops n).e → (lateF ops q d n).e = (opN ops n).e) := by
    intro n
    unfold lateF wideOp
    split
    · rename_i hq
      refine ⟨rfl, rfl, rfl, rfl, rfl, rfl, fun h => ?_, fun h => absurd hq.2 h⟩
      show 3 * (opN ops n).e ≤ 3 * (opN ops n).e + d
      omega
    · refine ⟨rfl, rfl, rfl, rfl, rfl, rfl, fun h => ?_, fun h => ?_⟩
      · show 3 * (opN ops n).e ≤ if 0 ≤ (opN ops n).e then 3 * (opN ops n).e else (opN ops n).e
        rw [if_pos h]; exact Int.le_refl _
      · show (if 0 ≤ (opN ops n).e then 3 * (opN ops n).e else (opN ops n).e) = (opN ops n).e
        rw [if_neg h]
  refine ⟨listF_len _ _, fun n hn => ?_, fun n hn => ?_, fun n hn => ?_, fun n hn => ?_, fun n hn => ?_, fun n hn => ?_, fun i j hi hj hb => ?_⟩
  · rw [key n hn]; exact (hf n).1
  · rw [key n hn]; exact (hf n).2.1
  · rw [key n hn]; exact (hf n).2.2.1
  · rw [key n hn]; exact (hf n).2.2.2.1
  · rw [key n hn]; exact (hf n).2.2.2.2.1
  · rw [key n hn]
    obtain ⟨_, _, _, _, _, _, h1, h2⟩ := hf n
    by_cases h : 0 ≤ (opN ops n).e
    · have := h1 h; omega
    · have := h2 h; omega
  · rw [key i hi, key j hj] at hb
    obtain ⟨_, _, _, _, _, _, h1, h2⟩ := hf i
    have h3 := (hf j).2.2.2.2.2.1
    simp only [beforeB, Bool.and_eq_true, decide_eq_true_eq] at hb ⊢
    by_cases h : 0 ≤ (opN ops i).e
    · have := h1 h; omega
    · have := h2 h; omega

/-- Ops in a block of one's own, each eight cells. -/
structure WdAt (w : World) (g n : Nat) (f : Nat → Opn) : Prop where
  blk : ∃ cur, w.heap[g]? = some (.cells cur 39 (0, 0))
  ops : ∀ i, i < n → OpAt w g (i * 8) (f i)

theorem WdAt.fz {w : World} {g n : Nat} {f : Nat → Opn} (h : WdAt w g n f) (i : Nat) : w.frozen? ⟨g, i, none⟩ = false := by
  obtain ⟨cur, hc⟩ := h.blk
  exact frozen_of_row w g i cur 39 hc
theorem WdAt.below {w w' : World} {g n : Nat} {f : Nat → Opn} (h : WdAt w g n f) (hb : Below w.heap.size w w') : WdAt w' g n f := by
  obtain ⟨cur, hc⟩ := h.blk
  exact ⟨⟨cur, (hb.block g (lt_of_heap hc)).trans hc⟩, fun i hi => (h.ops i hi).below (lt_of_heap hc) hb⟩
theorem ne_off {g a b : Nat} (h : a ≠ b) : (⟨g, a, none⟩ : Addr) ≠ ⟨g, b, none⟩ := fun e => h (by injection e)
theorem WdAt.putC {w : World} {g n : Nat} {f : Nat → Opn} (h : WdAt w g n f) {k : Nat} (hk : k < n) (x : Int) : WdAt (w.setCell ⟨g, k * 8 + 6, none⟩ (.int .i64 x)) g n (fun i => if i = k then { f i with c := x } else f i) := by
  obtain ⟨cur, hc⟩ := h.blk
  obtain ⟨cur', hc', _⟩ := heap_setCell hc (k * 8 + 6) (.int .i64 x)
  refine ⟨⟨cur', hc'⟩, fun i hi => ?_⟩
  obtain ⟨h0, h1, h2, h3, h4, h5, h6, h7⟩ := h.ops i hi
  by_cases e : i = k
  · subst e
    rw [if_pos rfl]
    refine ⟨?_, ?_, ?_, ?_, ?_, ?_, World.cell?_setCell_same _ _ _ h6, ?_⟩ <;> (rw [World.cell?_setCell_other _ _ _ _ (ne_off (by omega))]; assumption)
  · rw [if_neg e]
    refine ⟨?_, ?_, ?_, ?_, ?_, ?_, ?_, ?_⟩ <;> (rw [World.cell?_setCell_other _ _ _ _ (ne_off (by omega))]; assumption)
theorem WdAt.putE {w : World} {g n : Nat} {f : Nat → Opn} (h : WdAt w g n f) {k : Nat} (hk : k < n) (x : Int) : WdAt (w.setCell ⟨g, k * 8 + 7, none⟩ (.int .i64 x)) g n (fun i => if i = k then { f i with e := x } else f i) := by
  obtain ⟨cur, hc⟩ := h.blk
  obtain ⟨cur', hc', _⟩ := heap_setCell hc (k * 8 + 7) (.int .i64 x)
  refine ⟨⟨cur', hc'⟩, fun i hi => ?_⟩
  obtain ⟨h0, h1, h2, h3, h4, h5, h6, h7⟩ := h.ops i hi
  by_cases e : i = k
  · subst e
    rw [if_pos rfl]
    refine ⟨?_, ?_, ?_, ?_, ?_, ?_, ?_, World.cell?_setCell_same _ _ _ h7⟩ <;> (rw [World.cell?_setCell_other _ _ _ _ (ne_off (by omega))]; assumption)
  · rw [if_neg e]
    refine ⟨?_, ?_, ?_, ?_, ?_, ?_, ?_, ?_⟩ <;> (rw [World.cell?_setCell_other _ _ _ _ (ne_off (by omega))]; assumption)
theorem WdAt.same {w : World} {g n : Nat} {f f' : Nat → Opn} (h : WdAt w g n f) (e : ∀ i, i < n → f i = f' i) : WdAt w g n f' := ⟨h.blk, fun i hi => e i hi ▸ h.ops i hi⟩
theorem WdAt.opsIn {w : World} {g n cap : Nat} {f : Nat → Opn} (h : WdAt w g n f) (hc : n ≤ cap) (hm : n ≤ maxLen) : OpsIn w (.slice (some ⟨g, 0, none⟩) n cap) (listF n f) := by
  obtain ⟨cur, hb⟩ := h.blk
  refine ⟨some ⟨g, 0, none⟩, cap, by rw [listF_len], by rw [listF_len]; exact hc, by rw [listF_len]; exact hm, .inr ⟨g, 0, rfl, lt_of_heap hb, fun i hi => ?_⟩⟩
  rw [listF_len] at hi
  have e : (listF n f)[i]'(by rw [listF_len]; exact hi) = f i := by simp [listF]
  rw [e, Nat.zero_add]
  exact h.ops i hi

/-- The eight cells of each op. -/
def flatO (l : List Opn) : List Value := l.flatMap fun x => [.int .i64 x.p, .int .i64 x.k, .int .i64 x.d, .int .i64 x.a, .int .i64 x.b, .int .i64 x.r, .int .i64 x.c, .int .i64 x.e]
theorem flatO_len : ∀ l : List Opn, (flatO l).length = l.length * 8
  | [] => rfl
  | x :: r => by
    have := flatO_len r
    unfold flatO at this ⊢
    rw [List.flatMap_cons, List.length_append, this]
    simp; omega

end Go.Proofs.YtndogemgjjgbgabDoor
