/-
  Chapter 11 in plain Lean: steps of transactions, which clash; transactions one behind the other: what clashes well sees well. (Nothing of the program in it.)
  Chapter 11.3 in plain Lean: what is seen of steps that are done in some order of their numbers; an order of transactions that fits; the search for the first one.
  Chapter 11.3 in plain Lean, the document's way: a step is told by its transaction and its number there; what each read reads, and who writes each key last, by these.
-/
import Derived.Test.YtibdchahallbjabDoorGhPZ
import Derived.Test.YtibdchahallbjabDoorCsPZ
import Derived.Test.YtibdchahallbjabDoorDnWZ
namespace Go.Proofs.YtibdchahallbjabDoor

/-! ### a search in order -/
def dfsW (T : List Nat → Nat → Bool) (F : List Nat → Bool) (n : Nat) : Nat → List Nat → Option (List Nat)
  | 0, way => if F way then some way else none
  | f + 1, way => (List.range n).findSome? fun k => if T way k then dfsW T F n f (way ++ [k]) else none
def ExtT (T : List Nat → Nat → Bool) (F : List Nat → Bool) (n : Nat) : Nat → List Nat → List Nat → Prop
  | 0, way, c => c = way ∧ F way = true
  | f + 1, way, c => ∃ k, k < n ∧ T way k = true ∧ ExtT T F n f (way ++ [k]) c
theorem extT_app {T : List Nat → Nat → Bool} {F : List Nat → Bool} {n : Nat} : ∀ {f : Nat} {way c : List Nat}, ExtT T F n f way c → ∃ e, c = way ++ e ∧ e.length = f
  | 0, way, c, h => ⟨[], by rw [h.1]; simp, rfl⟩
  | f + 1, way, c, ⟨k, _, _, h⟩ => by
    obtain ⟨e, h1, h2⟩ := extT_app h
    exact ⟨k :: e, by rw [h1]; simp, by simp [h2]⟩
theorem dfsW_spec {T : List Nat → Nat → Bool} {F : List Nat → Bool} {n : Nat} : ∀ (f : Nat) (way : List Nat), (∀ c, dfsW T F n f way = some c → ExtT T F n f way c ∧ ∀ d, ExtT T F n f way d → lexL c d) ∧ (dfsW T F n f way = none → ∀ d, ¬ ExtT T F n f way d)
  | 0, way => by
    unfold dfsW
    cases hF : F way
    · exact ⟨fun c hc => (by simp at hc), fun _ d h => by rw [h.2] at hF; cases hF⟩
    · refine ⟨fun c hc => ?_, fun hc => (by simp at hc)⟩
      have e : way = c := by simpa using hc
      subst e
      exact ⟨⟨rfl, hF⟩, fun d h => by rw [h.1]; exact lexL_refl _⟩
  | f + 1, way => by
    unfold dfsW
    rcases findSome_cases (fun k => if T way k then dfsW T F n f (way ++ [k]) else none) n with ⟨e, ha⟩ | ⟨k, c, hk, e, hf, ha⟩
    · rw [e]
      refine ⟨fun c hc => (by cases hc), fun _ d ⟨k, hk, ht, hd⟩ => ?_⟩
      have := ha k hk
      simp only [ht, if_true] at this
      exact (dfsW_spec f (way ++ [k])).2 this d hd
    · rw [e]
      refine ⟨fun c' hc => ?_, fun hc => (by cases hc)⟩
      obtain rfl := Option.some.inj hc
      have ht : T way k = true := by
        cases h : T way k
        · simp [h] at hf
        · rfl
      simp only [ht, if_true] at hf
      obtain ⟨hx, hlex⟩ := (dfsW_spec f (way ++ [k])).1 c hf
      refine ⟨⟨k, hk, ht, hx⟩, fun d ⟨k', hk', ht', hx'⟩ => ?_⟩
      rcases Nat.lt_trichotomy k k' with h | h | h
      · obtain ⟨e1, h1, _⟩ := extT_app hx
        obtain ⟨e2, h2, _⟩ := extT_app hx'
        rw [h1, h2, List.append_assoc, List.append_assoc]
        exact lexL_app way (.inl h)
      · subst h; exact hlex d hx'
      · have := ha k' h
        simp only [ht', if_true] at this
        exact absurd hx' ((dfsW_spec f (way ++ [k'])).2 this d)
/-- Rows of unlike ones out of some. -/
def pickT (I : Nat → Bool) (way : List Nat) (k : Nat) : Bool := I k && !memB way k
theorem pick_ext {I : Nat → Bool} {F : List Nat → Bool} {n : Nat} : ∀ {f : Nat} {way c : List Nat}, ExtT (pickT I) F n f way c ↔ F c = true ∧ ∃ e, c = way ++ e ∧ e.length = f ∧ e.Nodup ∧ ∀ x ∈ e, x < n ∧ I x = true ∧ x ∉ way
  | 0, way, c => by
    constructor
    · rintro ⟨rfl, h⟩; exact ⟨h, [], by simp, rfl, List.nodup_nil, fun x hx => by cases hx⟩
    · rintro ⟨h, e, h1, h2, _⟩
      have : e = [] := List.length_eq_zero_iff.1 h2
      rw [this, List.append_nil] at h1
      exact ⟨h1, h1 ▸ h⟩
  | f + 1, way, c => by
    constructor
    · rintro ⟨k, hk, ht, h⟩
      obtain ⟨hF, e, h1, h2, h3, h4⟩ := pick_ext.1 h
      unfold pickT at ht
      rw [Bool.and_eq_true, Bool.not_eq_true'] at ht
      have hkw : k ∉ way := fun h => by rw [memB_iff.2 h] at ht; cases ht.2
      refine ⟨hF, k :: e, by rw [h1]; simp, by simp [h2], List.nodup_cons.2 ⟨fun h => (h4 k h).2.2 (by simp), h3⟩, fun x hx => ?_⟩
      rcases List.mem_cons.1 hx with rfl | hx
      · exact ⟨hk, ht.1, hkw⟩
      · exact ⟨(h4 x hx).1, (h4 x hx).2.1, fun h => (h4 x hx).2.2 (List.mem_append.2 (.inl h))⟩
    · rintro ⟨hF, e, h1, h2, h3, h4⟩
      cases e with
      | nil => simp at h2
      | cons k e =>
        obtain ⟨hk, hI, hw⟩ := h4 k (List.mem_cons_self ..)
        refine ⟨k, hk, ?_, pick_ext.2 ⟨hF, e, by rw [h1]; simp, by simpa using h2, (List.nodup_cons.1 h3).2, fun x hx => ?_⟩⟩
        · unfold pickT
          rw [hI]
          cases h : memB way k
          · rfl
          · exact absurd (memB_iff.1 h) hw
        · obtain ⟨h5, h6, h7⟩ := h4 x (List.mem_cons_of_mem _ hx)
          refine ⟨h5, h6, fun h => ?_⟩
          rcases List.mem_append.1 h with h | h
          · exact h7 h
          · rw [List.mem_singleton.1 h] at hx; exact (List.nodup_cons.1 h3).1 hx

/-! ### ahead in a list -/
/-- The one stands ahead of the other one. -/
def Bef {α : Type} (l : List α) (a b : α) : Prop := List.Sublist [a, b] l
section
variable {α : Type}
theorem bef_mem {l : List α} {a b : α} (h : Bef l a b) : a ∈ l ∧ b ∈ l := ⟨h.subset (by simp), h.subset (by simp)⟩
theorem bef_cons {l : List α} {x a b : α} : Bef (x :: l) a b ↔ (a = x ∧ b ∈ l) ∨ Bef l a b := by
  unfold Bef
  constructor
  · intro h
    cases h with
    | cons _ h => exact .inr h
    | cons_cons _ h => exact .inl ⟨rfl, List.singleton_sublist.1 h⟩
  · rintro (⟨rfl, h⟩ | h)
    · exact (List.singleton_sublist.2 h).cons_cons a
    · exact h.cons x
theorem bef_app {l m : List α} {a b : α} : Bef (l ++ m) a b ↔ Bef l a b ∨ (a ∈ l ∧ b ∈ m) ∨ Bef m a b := by
  induction l with
  | nil => simp [Bef]
  | cons x l ih =>
    rw [List.cons_append, bef_cons, ih, bef_cons]
    simp only [List.mem_append, List.mem_cons]
    constructor
    · rintro (⟨rfl, h | h⟩ | h | h | h)
      · exact .inl (.inl ⟨rfl, h⟩)
      · exact .inr (.inl ⟨.inl rfl, h⟩)
      · exact .inl (.inr h)
      · exact .inr (.inl ⟨.inr h.1, h.2⟩)
      · exact .inr (.inr h)
    · rintro ((⟨rfl, h⟩ | h) | ⟨rfl | h, h'⟩ | h)
      · exact .inl ⟨rfl, .inl h⟩
      · exact .inr (.inl h)
      · exact .inl ⟨rfl, .inr h'⟩
      · exact .inr (.inr (.inl ⟨h, h'⟩))
      · exact .inr (.inr (.inr h))
theorem bef_total : ∀ {l : List α} {a b : α}, a ∈ l → b ∈ l → a ≠ b → Bef l a b ∨ Bef l b a
  | x :: l, a, b, ha, hb, hne => by
    rcases List.mem_cons.1 ha with rfl | ha
    · rcases List.mem_cons.1 hb with rfl | hb
      · exact absurd rfl hne
      · exact .inl (bef_cons.2 (.inl ⟨rfl, hb⟩))
    · rename a ∈ l => ha'
      rcases List.mem_cons.1 hb with rfl | hb
      · exact .inr (bef_cons.2 (.inl ⟨rfl, ha'⟩))
      · rcases bef_total ha' hb hne with h | h
        · exact .inl (bef_cons.2 (.inr h))
        · exact .inr (bef_cons.2 (.inr h))
theorem bef_irr : ∀ {l : List α} {a : α}, l.Nodup → ¬ Bef l a a
  | [], a, _, h => by cases h
  | x :: l, a, hn, h => by
    rcases bef_cons.1 h with ⟨rfl, h'⟩ | h'
    · exact (List.nodup_cons.1 hn).1 h'
    · exact bef_irr (List.nodup_cons.1 hn).2 h'
theorem bef_asym : ∀ {l : List α} {a b : α}, l.Nodup → Bef l a b → ¬ Bef l b a
  | [], a, b, _, h, _ => by cases h
  | x :: l, a, b, hn, h1, h2 => by
    obtain ⟨hx, hn⟩ := List.nodup_cons.1 hn
    rcases bef_cons.1 h1 with ⟨rfl, h3⟩ | h3
    · rcases bef_cons.1 h2 with ⟨rfl, h4⟩ | h4
      · exact hx h3
      · exact hx (bef_mem h4).2
    · rcases bef_cons.1 h2 with ⟨rfl, h4⟩ | h4
      · exact hx (bef_mem h3).2
      · exact bef_asym hn h3 h4
theorem bef_filter {l : List α} {p : α → Bool} {a b : α} : Bef (l.filter p) a b ↔ Bef l a b ∧ p a = true ∧ p b = true := by
  constructor
  · intro h
    have hm := bef_mem h
    exact ⟨h.trans List.filter_sublist, (List.mem_filter.1 hm.1).2, (List.mem_filter.1 hm.2).2⟩
  · rintro ⟨h, ha, hb⟩
    have := h.filter p
    unfold Bef
    rwa [List.filter_cons_of_pos ha, List.filter_cons_of_pos hb, List.filter_nil] at this
end

/-! ### one behind the other -/
section
variable {α : Type} (tx : α → Nat)
/-- The steps of some transactions, one transaction behind the other. -/
def serL (d : List α) : List Nat → List α
  | [] => []
  | t :: ord => d.filter (fun s => tx s == t) ++ serL d ord
theorem serL_mem {d : List α} {s : α} : ∀ {ord : List Nat}, s ∈ serL tx d ord ↔ s ∈ d ∧ tx s ∈ ord
  | [] => by simp [serL]
  | t :: ord => by
    show s ∈ d.filter (fun s => tx s == t) ++ serL tx d ord ↔ _
    rw [List.mem_append, serL_mem, List.mem_filter, beq_iff_eq, List.mem_cons]
    constructor
    · rintro (⟨h1, h2⟩ | ⟨h1, h2⟩)
      · exact ⟨h1, .inl h2⟩
      · exact ⟨h1, .inr h2⟩
    · rintro ⟨h1, h2 | h2⟩
      · exact .inl ⟨h1, h2⟩
      · exact .inr ⟨h1, h2⟩
theorem serL_bef {d : List α} {a b : α} : ∀ {ord : List Nat}, ord.Nodup → (Bef (serL tx d ord) a b ↔ (tx a = tx b ∧ tx a ∈ ord ∧ Bef d a b) ∨ (Bef ord (tx a) (tx b) ∧ a ∈ d ∧ b ∈ d))
  | [], _ => by
    constructor
    · intro h; cases h
    · rintro (⟨_, h, _⟩ | ⟨h, _⟩) <;> cases h
  | t :: ord, hn => by
    obtain ⟨ht, hn⟩ := List.nodup_cons.1 hn
    show Bef (d.filter (fun s => tx s == t) ++ serL tx d ord) a b ↔ _
    rw [bef_app, bef_filter, serL_bef hn, serL_mem, List.mem_filter, beq_iff_eq, beq_iff_eq, bef_cons, List.mem_cons]
    constructor
    · rintro (⟨h, h1, h2⟩ | ⟨⟨h1, h2⟩, h3, h4⟩ | ⟨h1, h2, h3⟩ | ⟨h1, h2, h3⟩)
      · exact .inl ⟨h1.trans h2.symm, .inl h1, h⟩
      · exact .inr ⟨.inl ⟨h2, h4⟩, h1, h3⟩
      · exact .inl ⟨h1, .inr h2, h3⟩
      · exact .inr ⟨.inr h1, h2, h3⟩
    · rintro (⟨h1, h2 | h2, h3⟩ | ⟨⟨h1, h2⟩ | h1, h3, h4⟩)
      · exact .inl ⟨h3, h2, h1 ▸ h2⟩
      · exact .inr (.inr (.inl ⟨h1, h2, h3⟩))
      · exact .inr (.inl ⟨⟨h3, h1⟩, h4, h2⟩)
      · exact .inr (.inr (.inr ⟨h1, h3, h4⟩))

/-- A relation of clashing that is the same both ways, between unlike transactions alone. -/
structure Clash (cl : α → α → Bool) : Prop where
  sym : ∀ a b, cl a b = cl b a
  ne : ∀ a b, cl a b = true → tx a ≠ tx b
def GrS (cl : α → α → Bool) (d : List α) (i k : Nat) : Prop := ∃ a b, Bef d a b ∧ tx a = i ∧ tx b = k ∧ cl a b = true
/-- BERNSTEIN: one behind the other, in an order that keeps the graph, they clash as they do. -/
theorem ser_graph {cl : α → α → Bool} (hc : Clash tx cl) {d : List α} {ord : List Nat} (hn : ord.Nodup) (hk : ∀ i k, GrS tx cl d i k → Bef ord i k) (i k : Nat) : GrS tx cl (serL tx d ord) i k ↔ GrS tx cl d i k := by
  constructor
  · rintro ⟨a, b, h, rfl, rfl, hcl⟩
    rcases (serL_bef tx hn).1 h with ⟨e, _⟩ | ⟨ho, ha, hb⟩
    · exact absurd e (hc.ne a b hcl)
    · rcases bef_total ha hb (fun e => hc.ne a b hcl (by rw [e])) with h | h
      · exact ⟨a, b, h, rfl, rfl, hcl⟩
      · exact absurd (hk _ _ ⟨b, a, h, rfl, rfl, by rw [hc.sym]; exact hcl⟩) (bef_asym hn ho)
  · rintro ⟨a, b, h, rfl, rfl, hcl⟩
    have hm := bef_mem h
    exact ⟨a, b, (serL_bef tx hn).2 (.inr ⟨hk _ _ ⟨a, b, h, rfl, rfl, hcl⟩, hm.1, hm.2⟩), rfl, rfl, hcl⟩
/-- Of two steps that clash, or are of one transaction, the same one stands ahead. -/
theorem ser_keeps {cl : α → α → Bool} (hc : Clash tx cl) {d : List α} {ord : List Nat} (hn : ord.Nodup) (hall : ∀ s ∈ d, tx s ∈ ord) (hk : ∀ i k, GrS tx cl d i k → Bef ord i k) {a b : α} (h : tx a = tx b ∨ cl a b = true) : Bef (serL tx d ord) a b ↔ Bef d a b := by
  rw [serL_bef tx hn]
  rcases h with h | h
  · constructor
    · rintro (⟨_, _, h3⟩ | ⟨ho, _, _⟩)
      · exact h3
      · rw [h] at ho; exact absurd ho (bef_irr hn)
    · exact fun h3 => .inl ⟨h, hall a (bef_mem h3).1, h3⟩
  · constructor
    · rintro (⟨e, _⟩ | ⟨ho, ha, hb⟩)
      · exact absurd e (hc.ne a b h)
      · rcases bef_total ha hb (fun e => hc.ne a b h (by rw [e])) with h' | h'
        · exact h'
        · exact absurd (hk _ _ ⟨b, a, h', rfl, rfl, by rw [hc.sym]; exact h⟩) (bef_asym hn ho)
    · exact fun h3 => .inr ⟨hk _ _ ⟨a, b, h3, rfl, rfl, h⟩, (bef_mem h3).1, (bef_mem h3).2⟩
end

/-! ### who is read -/
section
variable {α : Type}
/-- The last one of some kind ahead of a step (of all, where there is none). -/
def LastB (d : List α) (W : α → Bool) (r w : α) : Prop := Bef d w r ∧ W w = true ∧ ∀ v, Bef d v r → W v = true → v = w ∨ Bef d v w
def LastE (d : List α) (W : α → Bool) (w : α) : Prop := w ∈ d ∧ W w = true ∧ ∀ v, v ∈ d → W v = true → v = w ∨ Bef d v w
theorem lastB_keeps {d e : List α} {W : α → Bool} {r w : α} (hr : ∀ v, W v = true → (Bef e v r ↔ Bef d v r)) (hw : ∀ v u, W v = true → W u = true → (Bef e v u ↔ Bef d v u)) : LastB e W r w ↔ LastB d W r w := by
  constructor
  · rintro ⟨h1, h2, h3⟩
    exact ⟨(hr w h2).1 h1, h2, fun v hv hW => (h3 v ((hr v hW).2 hv) hW).imp id (hw v w hW h2).1⟩
  · rintro ⟨h1, h2, h3⟩
    exact ⟨(hr w h2).2 h1, h2, fun v hv hW => (h3 v ((hr v hW).1 hv) hW).imp id (hw v w hW h2).2⟩
theorem lastE_keeps {d e : List α} {W : α → Bool} {w : α} (hm : ∀ v, v ∈ e ↔ v ∈ d) (hw : ∀ v u, W v = true → W u = true → (Bef e v u ↔ Bef d v u)) : LastE e W w ↔ LastE d W w := by
  constructor
  · rintro ⟨h1, h2, h3⟩
    exact ⟨(hm w).1 h1, h2, fun v hv hW => (h3 v ((hm v).2 hv) hW).imp id (hw v w hW h2).1⟩
  · rintro ⟨h1, h2, h3⟩
    exact ⟨(hm w).2 h1, h2, fun v hv hW => (h3 v ((hm v).1 hv) hW).imp id (hw v w hW h2).2⟩
theorem lastB_one {d : List α} (hn : d.Nodup) {W : α → Bool} {r w v : α} (h1 : LastB d W r w) (h2 : LastB d W r v) : w = v := by
  rcases h2.2.2 w h1.1 h1.2.1 with e | e
  · exact e
  · rcases h1.2.2 v h2.1 h2.2.1 with e' | e'
    · exact e'.symm
    · exact absurd e' (bef_asym hn e)
end
end Go.Proofs.YtibdchahallbjabDoor

namespace Go.Proofs.YtibdchahallbjabDoor

theorem snocInd {α : Type} {P : List α → Prop} (h0 : P []) (hs : ∀ l a, P l → P (l ++ [a])) (l : List α) : P l := by
  rw [← l.reverse_reverse]
  induction l.reverse with
  | nil => exact h0
  | cons a t ih => rw [List.reverse_cons]; exact hs _ _ ih

/-- Whether the step of that number writes that key. -/
def wB (d : List Stp) (key : Int) (n : Nat) : Bool := (stZ d n).k == 2 && (stZ d n).m == key
/-- The last one of some numbers that does. -/
def lsV (d : List Stp) (key : Int) (ns : List Nat) : Option Nat := ns.foldl (fun o n => if wB d key n then some n else o) none
theorem lsV_app (d : List Stp) (key : Int) (ns : List Nat) (n : Nat) : lsV d key (ns ++ [n]) = if wB d key n then some n else lsV d key ns := by simp [lsV]
/-- What the first ones of some numbers read. -/
def rdV (d : List Stp) (ns : List Nat) : Nat → Nat → Option Nat
  | 0, _ => none
  | j + 1, q => if ns.getD j 0 = q ∧ (stZ d q).k ≠ 2 then lsV d (stZ d q).m (ns.take j) else rdV d ns j q
theorem rdV_out {d : List Stp} {ns : List Nat} {q : Nat} : ∀ {j : Nat}, j ≤ ns.length → q ∉ ns.take j → rdV d ns j q = none
  | 0, _, _ => rfl
  | j + 1, hj, h => by
    have e : ns.take (j + 1) = ns.take j ++ [ns[j]] := List.take_succ_eq_append_getElem (by omega)
    rw [e] at h
    unfold rdV
    rw [if_neg fun c => ?_, rdV_out (j := j) (by omega) fun c => h (List.mem_append_left _ c)]
    have c1 := c.1
    rw [← List.getElem_eq_getD (h := by omega)] at c1
    exact h (List.mem_append_right _ (by simp [c1]))
theorem rdV_at {d : List Stp} {ns : List Nat} (hn : ns.Nodup) {i : Nat} (hi : i < ns.length) (hk : (stZ d ns[i]).k ≠ 2) : ∀ {j : Nat}, i < j → j ≤ ns.length → rdV d ns j ns[i] = lsV d (stZ d ns[i]).m (ns.take i)
  | j + 1, hij, hj => by
    unfold rdV
    by_cases e : i = j
    · subst e
      rw [if_pos ⟨(List.getElem_eq_getD (h := hi) 0).symm, hk⟩]
    · rw [if_neg fun c => ?_, rdV_at hn hi hk (by omega) (by omega)]
      have c1 := c.1
      rw [← List.getElem_eq_getD (h := by omega)] at c1
      exact e ((List.getElem_inj hn).1 c1).symm
theorem rdV_write {d : List Stp} {ns : List Nat} {q : Nat} (hk : (stZ d q).k = 2) : ∀ (j : Nat), rdV d ns j q = none
  | 0 => rfl
  | j + 1 => by
    unfold rdV
    rw [if_neg fun c => c.2 hk, rdV_write hk j]

/-! ### who is last -/
theorem lsV_none {d : List Stp} {key : Int} {ns : List Nat} (h : ∀ n ∈ ns, wB d key n = false) : lsV d key ns = none := by
  induction ns using snocInd with
  | h0 => rfl
  | hs ns n ih =>
    rw [lsV_app, if_neg (by rw [h n (by simp)]; simp)]
    exact ih fun m hm => h m (by simp [hm])
theorem lsV_mem {d : List Stp} {key : Int} {ns : List Nat} {w : Nat} (h : lsV d key ns = some w) : w ∈ ns ∧ wB d key w = true := by
  induction ns using snocInd with
  | h0 => cases h
  | hs ns n ih =>
    rw [lsV_app] at h
    by_cases e : wB d key n = true
    · rw [if_pos e] at h
      obtain rfl := Option.some.inj h
      exact ⟨by simp, e⟩
    · rw [if_neg e] at h
      exact ⟨by simp [(ih h).1], (ih h).2⟩
theorem lastE_snoc {ns : List Nat} {W : Nat → Bool} {n w : Nat} (hn : (ns ++ [n]).Nodup) : LastE (ns ++ [n]) W w ↔ (W n = true ∧ w = n) ∨ (W n = false ∧ LastE ns W w) := by
  have hnd := List.nodup_append.1 hn
  have hmem : n ∉ ns := fun h => hnd.2.2 n h n (by simp) rfl
  unfold LastE
  constructor
  · rintro ⟨h1, h2, h3⟩
    cases e : W n
    · right
      have hw : w ∈ ns := by
        rcases List.mem_append.1 h1 with h | h
        · exact h
        · simp at h; subst h; rw [e] at h2; cases h2
      refine ⟨rfl, hw, h2, fun v hv hW => (h3 v (by simp [hv]) hW).imp id fun hb => ?_⟩
      rcases bef_app.1 hb with h | ⟨_, h⟩ | h
      · exact h
      · simp at h; subst h; exact absurd hw hmem
      · have := (bef_mem h).1; simp at this; subst this; exact absurd hv hmem
    · left
      refine ⟨rfl, ?_⟩
      rcases h3 n (by simp) e with h | h
      · exact h.symm
      · rcases bef_app.1 h with h | ⟨h, _⟩ | h
        · exact absurd (bef_mem h).1 hmem
        · exact absurd h hmem
        · exact absurd h (fun hb => bef_irr (l := [n]) (by simp) (by have := (bef_mem hb).2; simp at this; subst this; exact hb))
  · rintro (⟨h1, rfl⟩ | ⟨h1, h2, h3, h4⟩)
    · refine ⟨by simp, h1, fun v hv hW => ?_⟩
      rcases List.mem_append.1 hv with h | h
      · exact .inr (bef_app.2 (.inr (.inl ⟨h, by simp⟩)))
      · simp at h; exact .inl h
    · refine ⟨by simp [h2], h3, fun v hv hW => ?_⟩
      rcases List.mem_append.1 hv with h | h
      · exact (h4 v h hW).imp id fun hb => bef_app.2 (.inl hb)
      · simp at h; subst h; rw [h1] at hW; cases hW
theorem lsV_iff {d : List Stp} {key : Int} {ns : List Nat} {w : Nat} (hn : ns.Nodup) : lsV d key ns = some w ↔ LastE ns (wB d key) w := by
  induction ns using snocInd with
  | h0 => exact ⟨fun h => (by cases h), fun h => (by have := h.1; simp at this)⟩
  | hs ns n ih =>
    rw [lsV_app, lastE_snoc hn]
    have ih := ih (List.nodup_append.1 hn).1
    cases e : wB d key n
    · rw [if_neg (by simp)]; simp [ih]
    · rw [if_pos rfl]; simp; exact eq_comm
theorem bef_take {ns : List Nat} (hn : ns.Nodup) {i : Nat} (hi : i < ns.length) {v : Nat} : Bef ns v ns[i] ↔ v ∈ ns.take i := by
  have e : ns = ns.take i ++ ns[i] :: ns.drop (i + 1) := by rw [List.getElem_cons_drop, List.take_append_drop]
  generalize hx : ns[i] = x at *
  generalize ns.take i = a at *
  generalize ns.drop (i + 1) = b at *
  subst e
  have hnd := List.nodup_append.1 hn
  have hxa : x ∉ a := fun h => hnd.2.2 x h x (by simp) rfl
  have hxb : x ∉ b := (List.nodup_cons.1 hnd.2.1).1
  constructor
  · intro h
    rcases bef_app.1 h with h | ⟨h, _⟩ | h
    · exact absurd (bef_mem h).2 hxa
    · exact h
    · rcases bef_cons.1 h with ⟨_, h⟩ | h
      · exact absurd h hxb
      · exact absurd (bef_mem h).2 hxb
  · exact fun h => bef_app.2 (.inr (.inl ⟨h, by simp⟩))
theorem lastB_take {ns : List Nat} (hn : ns.Nodup) {i : Nat} (hi : i < ns.length) {W : Nat → Bool} {w : Nat} : LastB ns W ns[i] w ↔ LastE (ns.take i) W w := by
  have hs : (ns.take i).Sublist ns := List.take_sublist _ _
  unfold LastB LastE
  rw [bef_take hn hi]
  constructor
  · rintro ⟨h1, h2, h3⟩
    refine ⟨h1, h2, fun v hv hW => (h3 v ((bef_take hn hi).2 hv) hW).elim .inl fun hb => ?_⟩
    by_cases e : v = w
    · exact .inl e
    · exact .inr ((bef_total hv h1 e).elim id fun hc => absurd hb (bef_asym hn (hc.trans hs)))
  · rintro ⟨h1, h2, h3⟩
    exact ⟨h1, h2, fun v hv hW => (h3 v ((bef_take hn hi).1 hv) hW).imp id fun hb => hb.trans hs⟩
theorem rdV_iff {d : List Stp} {ns : List Nat} (hn : ns.Nodup) {q w : Nat} : rdV d ns ns.length q = some w ↔ (stZ d q).k ≠ 2 ∧ q ∈ ns ∧ LastB ns (wB d (stZ d q).m) q w := by
  by_cases hk : (stZ d q).k = 2
  · rw [rdV_write hk]; simp [hk]
  · by_cases hm : q ∈ ns
    · obtain ⟨i, hi, rfl⟩ := List.getElem_of_mem hm
      rw [rdV_at hn hi hk hi (Nat.le_refl _), lsV_iff (hn.sublist (List.take_sublist _ _)), lastB_take hn hi]
      exact ⟨fun h => ⟨hk, hm, h⟩, fun h => h.2.2⟩
    · rw [rdV_out (Nat.le_refl _) (by rw [List.take_length]; exact hm)]
      exact ⟨fun h => (by cases h), fun h => absurd h.2.1 hm⟩

/-! ### an order that fits -/
def txN (d : List Stp) (n : Nat) : Nat := (stZ d n).p.toNat
/-- The numbers, transaction by transaction. -/
def apL (d : List Stp) (ord : List Nat) : List Nat := serL (txN d) (List.range d.length) ord
/-- Two orders of numbers of which the same is seen. -/
def sameV2 (d : List Stp) (a b : List Nat) : Prop := (∀ q, rdV d a a.length q = rdV d b b.length q) ∧ ∀ key, lsV d key a = lsV d key b
def fitB (d : List Stp) (ord : List Nat) : Bool :=
  ((List.range d.length).all fun q => rdV d (List.range d.length) d.length q == rdV d (apL d ord) (apL d ord).length q) && ((List.range 8).all fun key => lsV d (key : Int) (List.range d.length) == lsV d (key : Int) (apL d ord))
/-- Steps that are read or written, at keys that may be, by transactions that may be. -/
def DOk (d : List Stp) : Prop := ∀ n, n < d.length → (0 ≤ (stZ d n).p ∧ (stZ d n).p ≤ 7) ∧ (0 ≤ (stZ d n).m ∧ (stZ d n).m ≤ 7) ∧ 1 ≤ (stZ d n).k ∧ (stZ d n).k ≤ 2
theorem apL_mem {d : List Stp} {ord : List Nat} {n : Nat} : n ∈ apL d ord ↔ n < d.length ∧ txN d n ∈ ord := by unfold apL; rw [serL_mem]; simp
theorem fitB_iff {d : List Stp} (hd : DOk d) {ord : List Nat} : fitB d ord = true ↔ sameV2 d (List.range d.length) (apL d ord) := by
  unfold fitB sameV2
  rw [Bool.and_eq_true, List.all_eq_true, List.all_eq_true]
  constructor
  · rintro ⟨h1, h2⟩
    refine ⟨fun q => ?_, fun key => ?_⟩
    · by_cases e : q < d.length
      · have := h1 q (by simpa using e)
        rw [List.length_range]
        exact beq_iff_eq.1 this
      · rw [rdV_out (Nat.le_refl _) (by rw [List.take_length]; simp; omega), rdV_out (Nat.le_refl _) (by rw [List.take_length, apL_mem]; omega)]
    · by_cases e : 0 ≤ key ∧ key ≤ 7
      · have := h2 key.toNat (by simp; omega)
        rw [beq_iff_eq, show ((key.toNat : Nat) : Int) = key by omega] at this
        exact this
      · have hno : ∀ n, n < d.length → wB d key n = false := fun n hn => by
          have := (hd n hn).2.1
          unfold wB
          rw [show ((stZ d n).m == key) = false by simp; omega, Bool.and_false]
        rw [lsV_none fun n hn => hno n (by simpa using hn), lsV_none fun n hn => hno n (apL_mem.1 hn).1]
  · rintro ⟨h1, h2⟩
    exact ⟨fun q _ => by have := h1 q; rw [List.length_range] at this; exact beq_iff_eq.2 this, fun key _ => beq_iff_eq.2 (h2 _)⟩
theorem apL_nodup {d : List Stp} : ∀ {ord : List Nat}, ord.Nodup → (apL d ord).Nodup := by
  intro ord hn
  unfold apL
  induction ord with
  | nil => exact List.nodup_nil
  | cons t ord ih =>
    rw [List.nodup_cons] at hn
    unfold serL
    refine List.nodup_append.2 ⟨(List.nodup_range).sublist (List.filter_sublist), ih hn.2, fun a ha b hb e => ?_⟩
    subst e
    have h1 := (List.mem_filter.1 ha).2
    have h2 := ((serL_mem _).1 hb).2
    simp at h1
    rw [h1] at h2
    exact hn.1 h2

/-- Which clash. -/
def clN (d : List Stp) (a b : Nat) : Bool := decide (txN d a ≠ txN d b) && (stZ d a).m == (stZ d b).m && ((stZ d a).k == 2 || (stZ d b).k == 2)
/-- What clashes well sees well. -/
theorem fit_of_keeps {d : List Stp} (hd : DOk d) {ord : List Nat} (hn : ord.Nodup) (hall : ∀ n, n < d.length → txN d n ∈ ord)
    (hk : ∀ i k, GrS (txN d) (clN d) (List.range d.length) i k → Bef ord i k) (hc : Clash (txN d) (clN d)) : fitB d ord = true := by
  rw [fitB_iff hd]
  have hall' : ∀ s ∈ List.range d.length, txN d s ∈ ord := fun s hs => hall s (by simpa using hs)
  have hkeep : ∀ a b, (stZ d a).m = (stZ d b).m → ((stZ d a).k = 2 ∨ (stZ d b).k = 2) → (Bef (apL d ord) a b ↔ Bef (List.range d.length) a b) := fun a b h1 h2 => ser_keeps (tx := txN d) hc hn hall' hk (by
    by_cases e : txN d a = txN d b
    · exact .inl e
    · right
      unfold clN
      rcases h2 with h2 | h2 <;> simp [e, h1, h2])
  have hm : ∀ v, v ∈ apL d ord ↔ v ∈ List.range d.length := fun v => by
    rw [apL_mem, List.mem_range]
    exact ⟨fun h => h.1, fun h => ⟨h, hall v h⟩⟩
  have hw : ∀ {key v}, wB d key v = true → (stZ d v).k = 2 ∧ (stZ d v).m = key := fun h => by unfold wB at h; simpa using h
  constructor
  · intro q
    refine Option.ext fun w => ?_
    rw [rdV_iff List.nodup_range, rdV_iff (apL_nodup hn), hm, lastB_keeps (d := List.range d.length) (e := apL d ord)]
    · exact fun v hv => hkeep v q (hw hv).2 (.inl (hw hv).1)
    · exact fun v u hv hu => hkeep v u ((hw hv).2.trans (hw hu).2.symm) (.inl (hw hv).1)
  · intro key
    refine Option.ext fun w => ?_
    rw [lsV_iff List.nodup_range, lsV_iff (apL_nodup hn), lastE_keeps (d := List.range d.length) (e := apL d ord) hm]
    exact fun v u hv hu => hkeep v u ((hw hv).2.trans (hw hu).2.symm) (.inl (hw hv).1)

/-! ### the search for the first one -/
def tryL (F : List Nat → Bool) (all : List Nat) : Nat → List Nat → Option (List Nat)
  | 0, way => if F way then some way else none
  | f + 1, way => all.findSome? fun k => if memB way k then none else tryL F all f (way ++ [k])
theorem findSome_filter {α β : Type} (p : α → Bool) (g : α → Option β) : ∀ l : List α, (l.filter p).findSome? g = l.findSome? fun k => if p k then g k else none
  | [] => rfl
  | a :: l => by
    cases e : p a
    · rw [List.filter_cons_of_neg (by simp [e]), List.findSome?_cons, e, findSome_filter p g l]; rfl
    · rw [List.filter_cons_of_pos e, List.findSome?_cons, List.findSome?_cons, e, findSome_filter p g l]; rfl
theorem tryL_dfs (F : List Nat → Bool) (I : Nat → Bool) (n : Nat) : ∀ (f : Nat) (way : List Nat), tryL F ((List.range n).filter I) f way = dfsW (pickT I) F n f way
  | 0, way => rfl
  | f + 1, way => by
    unfold tryL dfsW
    rw [findSome_filter]
    congr 1
    funext k
    rw [tryL_dfs F I n f]
    show _ = if (I k && !memB way k) = true then _ else _
    cases I k <;> cases memB way k <;> rfl
/-- Whoever commits. -/
def cmL (l : List Stp) : List Nat := (List.range 8).filter fun t => commB l (t : Int)
def seesL (l : List Stp) : Option (List Nat) := tryL (fitB (doneL l)) (cmL l) (cmL l).length []
theorem sees_some {l : List Stp} {ord : List Nat} (hn : ord.Nodup) (hm : ∀ t, t ∈ ord ↔ t ∈ cmL l) (hf : fitB (doneL l) ord = true) : (seesL l).isSome = true := by
  unfold seesL
  have hl : ord.length = (cmL l).length := List.Perm.length_eq ((List.perm_ext_iff_of_nodup hn (List.nodup_range.sublist List.filter_sublist)).2 hm)
  cases e : tryL (fitB (doneL l)) (cmL l) (cmL l).length [] with
  | some c => rfl
  | none =>
    have e' := e
    unfold cmL at e'
    rw [tryL_dfs] at e'
    refine absurd ?_ ((dfsW_spec _ []).2 e' ord)
    rw [pick_ext]
    refine ⟨hf, ord, rfl, hl, hn, fun x hx => ?_⟩
    have := (hm x).1 hx
    unfold cmL at this
    rw [List.mem_filter, List.mem_range] at this
    exact ⟨this.1, this.2, by simp⟩
end Go.Proofs.YtibdchahallbjabDoor

namespace Go.Proofs.YtibdchahallbjabDoor

/-- The number of a step in its transaction. -/
def numS (m : List Stp) (i : Nat) : Nat := (m.take i).countP fun s => s.p == (stZ m i).p
/-- Who wrote a key last, ahead of some place: the transaction, and the step's number there. -/
def lastT (m : List Stp) (i : Nat) (key : Int) : Int × Int := match lastN (wB m key) i with
  | some k => ((stZ m k).p, (numS m k : Int))
  | none => (-1, 0)
def sn1 (m : List Stp) : Nat → Int → Int → Int → Option (Int × Int)
  | 0, _, _, _ => none
  | i + 1, a, b, c => if (stZ m i).k = 1 ∧ a = (stZ m i).p ∧ b = (numS m i : Int) ∧ c = (stZ m i).m then some (lastT m i (stZ m i).m) else sn1 m i a b c
def sn2 (m : List Stp) : Nat → Int → Int → Int → Option (Int × Int)
  | 0, a, b, c => sn1 m m.length a b c
  | j + 1, a, b, c => if a = -1 ∧ b = 0 ∧ c = (j : Int) then some (lastT m m.length j) else sn2 m j a b c
theorem sn2_key {m : List Stp} {c : Int} : ∀ {j : Nat}, 0 ≤ c → c < (j : Int) → sn2 m j (-1) 0 c = some (lastT m m.length c)
  | 0, h0, h => by omega
  | j + 1, h0, h => by
    unfold sn2
    by_cases e : c = (j : Int)
    · rw [if_pos ⟨rfl, rfl, e⟩, e]
    · rw [if_neg fun h => e h.2.2]
      exact sn2_key h0 (by omega)
theorem sn2_other {m : List Stp} {a b c : Int} (ha : a ≠ -1) : ∀ (j : Nat), sn2 m j a b c = sn1 m m.length a b c
  | 0 => rfl
  | j + 1 => by
    unfold sn2
    rw [if_neg fun h => ha h.1]
    exact sn2_other ha j
theorem sn2_inv {m : List Stp} {a b c : Int} {v : Int × Int} : ∀ {j : Nat}, sn2 m j a b c = some v → (a = -1 ∧ b = 0 ∧ 0 ≤ c ∧ c < (j : Int) ∧ v = lastT m m.length c) ∨ sn1 m m.length a b c = some v
  | 0, h => .inr h
  | j + 1, h => by
    unfold sn2 at h
    by_cases e : a = -1 ∧ b = 0 ∧ c = (j : Int)
    · rw [if_pos e] at h
      obtain ⟨rfl, rfl, rfl⟩ := e
      exact .inl ⟨rfl, rfl, by omega, by omega, (Option.some.inj h).symm⟩
    · rw [if_neg e] at h
      rcases sn2_inv h with ⟨h1, h2, h3, h4, h5⟩ | h
      · exact .inl ⟨h1, h2, h3, by omega, h5⟩
      · exact .inr h
theorem sn1_inv {m : List Stp} {a b c : Int} {v : Int × Int} : ∀ {i : Nat}, sn1 m i a b c = some v → ∃ k, k < i ∧ (stZ m k).k = 1 ∧ a = (stZ m k).p ∧ b = (numS m k : Int) ∧ c = (stZ m k).m ∧ v = lastT m k (stZ m k).m
  | 0, h => by cases h
  | i + 1, h => by
    unfold sn1 at h
    by_cases e : (stZ m i).k = 1 ∧ a = (stZ m i).p ∧ b = (numS m i : Int) ∧ c = (stZ m i).m
    · rw [if_pos e] at h
      exact ⟨i, by omega, e.1, e.2.1, e.2.2.1, e.2.2.2, (Option.some.inj h).symm⟩
    · rw [if_neg e] at h
      obtain ⟨k, hk, h⟩ := sn1_inv h
      exact ⟨k, by omega, h⟩
theorem sn1_at {m : List Stp} (hone : ∀ i k, i < m.length → k < m.length → (stZ m i).p = (stZ m k).p → numS m i = numS m k → i = k) {k : Nat} (hk : k < m.length) (h1 : (stZ m k).k = 1) : ∀ {i : Nat}, k < i → i ≤ m.length → sn1 m i (stZ m k).p (numS m k : Int) (stZ m k).m = some (lastT m k (stZ m k).m)
  | i + 1, hki, hi => by
    unfold sn1
    by_cases e : k = i
    · subst e; rw [if_pos ⟨h1, rfl, rfl, rfl⟩]
    · rw [if_neg fun h => e (hone k i hk (by omega) h.2.1 (by have := h.2.2.1; omega))]
      exact sn1_at hone hk h1 (by omega) (by omega)

/-! ### steps that are taken by their numbers -/
/-- Some numbers of steps, all unlike, each transaction's in their own order. -/
structure Dealt (d : List Stp) (L : List Nat) : Prop where
  nd : L.Nodup
  mem : ∀ n, n ∈ L ↔ n < d.length
  own : ∀ t : Nat, L.filter (fun n => txN d n == t) = (List.range d.length).filter fun n => txN d n == t
theorem dealt_range (d : List Stp) : Dealt d (List.range d.length) := ⟨List.nodup_range, fun _ => List.mem_range, fun _ => rfl⟩
theorem serL_filter {d : List Stp} {ord : List Nat} {t : Nat} (hn : ord.Nodup) (R : List Nat) : (serL (txN d) R ord).filter (fun n => txN d n == t) = if t ∈ ord then R.filter (fun n => txN d n == t) else [] := by
  induction ord with
  | nil => rfl
  | cons u ord ih =>
    rw [List.nodup_cons] at hn
    unfold serL
    rw [List.filter_append, ih hn.2, List.filter_filter]
    by_cases e : t = u
    · subst e
      rw [if_neg hn.1, if_pos (by simp), List.append_nil]
      congr 1
      funext n
      cases txN d n == t <;> rfl
    · rw [List.filter_eq_nil_iff.2 (fun n _ => by simp; intro h1 h2; exact e (h1.symm.trans h2)), List.nil_append]
      by_cases h : t ∈ ord
      · rw [if_pos h, if_pos (by simp [h])]
      · rw [if_neg h, if_neg (by simp [e, h])]
theorem dealt_ap {d : List Stp} {ord : List Nat} (hn : ord.Nodup) (hall : ∀ n, n < d.length → txN d n ∈ ord) : Dealt d (apL d ord) := by
  refine ⟨apL_nodup hn, fun n => ?_, fun t => ?_⟩
  · rw [apL_mem]
    exact ⟨fun h => h.1, fun h => ⟨h, hall n h⟩⟩
  · unfold apL
    rw [serL_filter hn]
    by_cases e : t ∈ ord
    · rw [if_pos e]
    · rw [if_neg e, eq_comm, List.filter_eq_nil_iff]
      intro n hn' h
      simp at h hn'
      exact e (h ▸ hall n hn')
/-- A number's place among those of its transaction. -/
def tagN (d : List Stp) (q : Nat) : Nat := ((List.range d.length).filter fun n => txN d n == txN d q).idxOf q
theorem count_idx {p : Nat → Bool} : ∀ {L : List Nat} {i : Nat} (hi : i < L.length), L.Nodup → p L[i] = true → (L.take i).countP p = (L.filter p).idxOf L[i]
  | x :: L, 0, _, _, h => by
    simp at h
    simp [h]
  | x :: L, i + 1, hi, hn, h => by
    rw [List.nodup_cons] at hn
    have ih := count_idx (p := p) (L := L) (i := i) (by simpa using hi) hn.2 (by simpa using h)
    have hne : x ≠ L[i]'(by simpa using hi) := fun e => hn.1 (e ▸ List.getElem_mem _)
    simp only [List.take_succ_cons, List.countP_cons, List.getElem_cons_succ, List.filter_cons]
    cases hp : p x
    · simp [ih]
    · have hx : (x == L[i]'(by simpa using hi)) = false := by simpa using hne
      simp [ih, List.idxOf_cons, hx]
theorem map_stZ {d : List Stp} {L : List Nat} {i : Nat} (hi : i < L.length) : stZ (L.map (stZ d)) i = stZ d L[i] := by
  rw [stZ_at (by simpa using hi)]; simp
theorem Dealt.num {d : List Stp} {L : List Nat} (h : Dealt d L) (hd : ∀ n, n < d.length → 0 ≤ (stZ d n).p) {i : Nat} (hi : i < L.length) : numS (L.map (stZ d)) i = tagN d L[i] := by
  unfold numS tagN
  rw [map_stZ hi, ← List.map_take, List.countP_map]
  have e : (L.take i).countP ((fun s : Stp => s.p == (stZ d L[i]).p) ∘ stZ d) = (L.take i).countP fun n => txN d n == txN d L[i] := List.countP_congr fun n hn => by
    have h1 := hd n ((h.mem n).1 (List.mem_of_mem_take hn))
    have h2 := hd L[i] ((h.mem _).1 (List.getElem_mem hi))
    simp [txN]; omega
  rw [e, count_idx (p := fun n => txN d n == txN d L[i]) hi h.nd (by simp), h.own]
theorem tag_inj {d : List Stp} {a b : Nat} (ha : a < d.length) (hb : b < d.length) (ht : txN d a = txN d b) (h : tagN d a = tagN d b) : a = b := by
  unfold tagN at h
  rw [ht] at h
  generalize hX : (List.range d.length).filter (fun n => txN d n == txN d b) = X at h
  have h1 : a ∈ X := by rw [← hX, List.mem_filter]; simp [ha, ht]
  have h2 : b ∈ X := by rw [← hX, List.mem_filter]; simp [hb]
  have e1 := List.getElem_idxOf (List.idxOf_lt_length_of_mem h1)
  have e2 := List.getElem_idxOf (List.idxOf_lt_length_of_mem h2)
  rw [← e1, ← e2]
  congr 1
/-- Who is last, as the document tells it. -/
def tagO (d : List Stp) : Option Nat → Int × Int
  | some q => ((stZ d q).p, (tagN d q : Int))
  | none => (-1, 0)
theorem tagO_inj {d : List Stp} (hd : ∀ n, n < d.length → 0 ≤ (stZ d n).p) {x y : Option Nat} (hx : ∀ q, x = some q → q < d.length) (hy : ∀ q, y = some q → q < d.length) (h : tagO d x = tagO d y) : x = y := by
  cases x with
  | none => cases y with
    | none => rfl
    | some q => have h1 := hd q (hy q rfl); have := congrArg Prod.fst h; simp only [tagO] at this; omega
  | some p => cases y with
    | none => have h1 := hd p (hx p rfl); have := congrArg Prod.fst h; simp only [tagO] at this; omega
    | some q =>
      have h1 := congrArg Prod.fst h
      have h2 := congrArg Prod.snd h
      simp only [tagO] at h1 h2
      rw [tag_inj (hx p rfl) (hy q rfl) (by unfold txN; rw [h1]) (by omega)]
theorem Dealt.last {d : List Stp} {L : List Nat} (h : Dealt d L) (hd : ∀ n, n < d.length → 0 ≤ (stZ d n).p) (key : Int) {i : Nat} (hi : i ≤ L.length) : lastT (L.map (stZ d)) i key = tagO d (lsV d key (L.take i)) := by
  have hw : ∀ k (hk : k < L.length), wB (L.map (stZ d)) key k = wB d key L[k] := fun k hk => by unfold wB; rw [map_stZ hk]
  have e : ∀ i, i ≤ L.length → (lastN (wB (L.map (stZ d)) key) i = none ∧ lsV d key (L.take i) = none) ∨ ∃ k, ∃ hk : k < L.length, lastN (wB (L.map (stZ d)) key) i = some k ∧ lsV d key (L.take i) = some L[k] := by
    intro i
    induction i with
    | zero => exact fun _ => .inl ⟨rfl, rfl⟩
    | succ i ih =>
      intro hi
      rw [List.take_succ_eq_append_getElem (by omega), lsV_app]
      unfold lastN
      rw [hw i (by omega)]
      by_cases c : wB d key L[i] = true
      · rw [if_pos c, if_pos c]; exact .inr ⟨i, by omega, rfl, rfl⟩
      · rw [if_neg c, if_neg c]; exact ih (by omega)
  unfold lastT
  rcases e i hi with ⟨h1, h2⟩ | ⟨k, hk, h1, h2⟩
  · rw [h1, h2]; rfl
  · rw [h1, h2]
    simp only [tagO]
    rw [map_stZ hk, h.num hd hk]
theorem Dealt.len {d : List Stp} {L : List Nat} (h : Dealt d L) : L.length = d.length := by
  have := List.Perm.length_eq ((List.perm_ext_iff_of_nodup h.nd List.nodup_range).2 fun n => (h.mem n).trans List.mem_range.symm)
  simpa using this
theorem Dealt.one {d : List Stp} {L : List Nat} (h : Dealt d L) (hd : ∀ n, n < d.length → 0 ≤ (stZ d n).p) (i k : Nat) (hi : i < (L.map (stZ d)).length) (hk : k < (L.map (stZ d)).length) (h1 : (stZ (L.map (stZ d)) i).p = (stZ (L.map (stZ d)) k).p) (h2 : numS (L.map (stZ d)) i = numS (L.map (stZ d)) k) : i = k := by
  have hi' : i < L.length := by simpa using hi
  have hk' : k < L.length := by simpa using hk
  rw [map_stZ hi', map_stZ hk'] at h1
  rw [h.num hd hi', h.num hd hk'] at h2
  have := tag_inj ((h.mem _).1 (List.getElem_mem hi')) ((h.mem _).1 (List.getElem_mem hk')) (by unfold txN; rw [h1]) h2
  exact (List.getElem_inj h.nd).1 this
/-- What is seen of one holds of the other, just if the same is seen of both. -/
def seenIn (m m' : List Stp) : Prop := ∀ a b c v, sn2 m 8 a b c = some v → sn2 m' 8 a b c = some v
theorem range_map (d : List Stp) : (List.range d.length).map (stZ d) = d := by
  refine List.ext_getElem (by simp) fun i h1 h2 => ?_
  simp [stZ_at h2]
theorem Dealt.read {d : List Stp} {L : List Nat} (h : Dealt d L) (hd : DOk d) {q : Nat} (hq : q < d.length) (h1 : (stZ d q).k = 1) : sn2 (L.map (stZ d)) 8 (stZ d q).p (tagN d q : Int) (stZ d q).m = some (tagO d (rdV d L L.length q)) := by
  have hp : ∀ n, n < d.length → 0 ≤ (stZ d n).p := fun n hn => (hd n hn).1.1
  obtain ⟨i, hi, rfl⟩ := List.getElem_of_mem ((h.mem q).2 hq)
  rw [sn2_other (by have := hp _ hq; omega), rdV_at h.nd hi (by omega) hi (Nat.le_refl _)]
  have hm : i < (L.map (stZ d)).length := by simpa using hi
  have := sn1_at (h.one hp) hm (by rw [map_stZ hi]; exact h1) hm (Nat.le_refl _)
  rw [map_stZ hi, h.num hp hi] at this
  rw [this, h.last hp _ (by omega)]
theorem Dealt.key {d : List Stp} {L : List Nat} (h : Dealt d L) (hd : DOk d) {c : Int} (h0 : 0 ≤ c) (h8 : c < 8) : sn2 (L.map (stZ d)) 8 (-1) 0 c = some (tagO d (lsV d c L)) := by
  rw [sn2_key h0 (by omega), h.last (fun n hn => (hd n hn).1.1) _ (by simp)]
  simp
theorem seen_fit {d : List Stp} (hd : DOk d) {L : List Nat} (h : Dealt d L) : seenIn d (L.map (stZ d)) ↔ sameV2 d (List.range d.length) L := by
  have hp : ∀ n, n < d.length → 0 ≤ (stZ d n).p := fun n hn => (hd n hn).1.1
  have hR := dealt_range d
  have hrd : ∀ {L' : List Nat}, Dealt d L' → ∀ q x, rdV d L' L'.length q = some x → x < d.length := fun {L'} h' q x hx => by
    have := ((rdV_iff h'.nd).1 hx).2.2.1
    exact (h'.mem x).1 (bef_mem this).1
  have hls : ∀ {L' : List Nat}, Dealt d L' → ∀ c x, lsV d c L' = some x → x < d.length := fun {L'} h' c x hx => (h'.mem x).1 (lsV_mem hx).1
  constructor
  · intro hs
    constructor
    · intro q
      by_cases hq : q < d.length
      · by_cases h1 : (stZ d q).k = 1
        · have e1 := hR.read hd hq h1
          rw [range_map] at e1
          have e2 := (hs _ _ _ _ e1).symm.trans (h.read hd hq h1)
          exact tagO_inj hp (hrd hR q) (hrd h q) (Option.some.inj e2)
        · have : (stZ d q).k = 2 := by have := hd q hq; omega
          rw [rdV_write this, rdV_write this]
      · rw [rdV_out (Nat.le_refl _) (by rw [List.take_length]; simp; omega), rdV_out (Nat.le_refl _) (by rw [List.take_length, h.mem]; exact hq)]
    · intro key
      by_cases hk : 0 ≤ key ∧ key < 8
      · have e1 := hR.key hd hk.1 hk.2
        rw [range_map] at e1
        have e2 := (hs _ _ _ _ e1).symm.trans (h.key hd hk.1 hk.2)
        exact tagO_inj hp (hls hR key) (hls h key) (Option.some.inj e2)
      · have hno : ∀ n, n < d.length → wB d key n = false := fun n hn => by
          have := (hd n hn).2.1
          unfold wB
          rw [show ((stZ d n).m == key) = false by simp; omega, Bool.and_false]
        rw [lsV_none fun n hn => hno n (by simpa using hn), lsV_none fun n hn => hno n ((h.mem n).1 hn)]
  · rintro ⟨h1, h2⟩ a b c v hv
    rcases sn2_inv hv with ⟨rfl, rfl, h3, h4, rfl⟩ | hv
    · have e1 := hR.key hd h3 h4
      rw [range_map, hv] at e1
      rw [h.key hd h3 h4, ← h2 c]
      exact e1.symm
    · obtain ⟨k, hk, g1, rfl, rfl, rfl, rfl⟩ := sn1_inv hv
      have e1 := hR.read hd hk g1
      have e2 : numS d k = tagN d k := by
        have := hR.num hp (i := k) (by simpa using hk)
        rw [range_map] at this
        simpa using this
      rw [range_map, ← e2] at e1
      have e3 := h.read hd hk g1
      rw [← e2, ← h1 k] at e3
      rw [e3, ← e1, sn2_other (by have := hp k hk; omega)]
      exact hv
end Go.Proofs.YtibdchahallbjabDoor
