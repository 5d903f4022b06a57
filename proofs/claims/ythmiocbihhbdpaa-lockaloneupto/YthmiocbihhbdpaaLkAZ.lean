/-
  Chapter 13 in plain Lean: one behind the other nobody waits.
  Chapter 13 in plain Lean: what was done under locks is strict, and clashes without a way round.
-/
import Derived.Test.YthmiocbihhbdpaaLkPZ
namespace Go.Proofs.Ythmiocbihhbdpaa

def cmN (l : List Stp) : Nat := (l.filter fun s => s.k == 3).length
/-- The first ones are over, the next one has done some steps, none of the others. -/
structure AlI (p : List (List Stp)) (t j : Nat) (st : LkS) : Prop where
  lo : ∀ u, u < t → st.ov u = true
  hi : ∀ u, t ≤ u → st.ov u = false
  at_ : st.pos t = j
  zero : ∀ u, t < u → st.pos u = 0
  dn : ∀ d ∈ st.done, d.p ≤ (t : Int)
  cnt : ∀ u, st.cnt u = 0
  vic : st.vic = []
  com : cmN st.done = t
theorem AlI.start (p : List (List Stp)) : AlI p 0 0 lk0 := ⟨fun _ h => absurd h (by omega), fun _ _ => rfl, rfl, fun _ _ => rfl, fun d h => (by simp [lk0] at h), fun _ => rfl, rfl, rfl⟩
theorem AlI.step {p : List (List Stp)} {t j : Nat} {st : LkS} (h : AlI p t j st) (hpl : PlOk p) (ht : t < p.length) (hj : j < (plN p t).length) : AlI p t (j + 1) (goS p p.length st t) := by
  have ho := h.hi t (Nat.le_refl _)
  have hfree : (List.range p.length).any (agst st t (nxS p st t)) = false := by
    rw [List.any_eq_false]
    intro u _ hu
    unfold agst at hu
    obtain ⟨d, hd, hb⟩ := List.any_eq_true.1 hu
    simp only [Bool.and_eq_true, beq_iff_eq, decide_eq_true_eq, Bool.not_eq_true'] at hb
    have h1 := h.dn d hd
    have : st.ov u = true := h.lo u (by omega)
    rw [hb.1.2.2] at this
    cases this
  have e : goS p p.length st t = doS st t (nxS p st t) := by
    unfold goS
    rw [if_neg (by rw [ho]; simp), if_neg (by rw [h.at_]; omega), if_pos hfree]
  obtain ⟨s1, s2, _⟩ := hpl.step t ht (st.pos t) (by rw [h.at_]; exact hj)
  have es : nxS p st t = stZ (plN p t) (st.pos t) := rfl
  rw [← es] at s1 s2
  rw [e]
  refine ⟨h.lo, h.hi, ?_, fun u hu => ?_, fun d hd => ?_, h.cnt, h.vic, ?_⟩
  · show upd st.pos t (st.pos t + 1) t = j + 1
    rw [upd_same, h.at_]
  · show upd st.pos t (st.pos t + 1) u = 0
    rw [upd_ne _ _ (by omega)]
    exact h.zero u hu
  · rcases List.mem_append.1 (show d ∈ st.done ++ [nxS p st t] from hd) with hd | hd
    · exact h.dn d hd
    · rw [List.mem_singleton] at hd
      rw [hd, s1]
      exact Int.le_refl _
  · show cmN (st.done ++ [nxS p st t]) = t
    unfold cmN
    rw [List.filter_append, List.filter_cons_of_neg (by simp; omega)]
    simpa [cmN] using h.com
theorem AlI.last {p : List (List Stp)} {t : Nat} {st : LkS} (h : AlI p t (plN p t).length st) : AlI p (t + 1) 0 (goS p p.length st t) := by
  have ho := h.hi t (Nat.le_refl _)
  have e : goS p p.length st t = endS st t 3 := by
    unfold goS
    rw [if_neg (by rw [ho]; simp), if_pos h.at_]
  rw [e]
  refine ⟨fun u hu => ?_, fun u hu => ?_, h.zero (t + 1) (by omega), fun u hu => h.zero u (by omega), fun d hd => ?_, h.cnt, h.vic, ?_⟩
  · show upd st.ov t true u = true
    by_cases eu : u = t
    · rw [eu, upd_same]
    · rw [upd_ne _ _ eu]; exact h.lo u (by omega)
  · show upd st.ov t true u = false
    rw [upd_ne _ _ (by omega)]
    exact h.hi u (by omega)
  · rcases List.mem_append.1 (show d ∈ st.done ++ [⟨(t : Int), 3, 0⟩] from hd) with hd | hd
    · have := h.dn d hd; omega
    · rw [List.mem_singleton] at hd
      rw [hd]
      show (t : Int) ≤ _
      omega
  · show cmN (st.done ++ [⟨(t : Int), 3, 0⟩]) = t + 1
    unfold cmN
    rw [List.filter_append, List.filter_cons_of_pos rfl, List.length_append]
    show cmN st.done + 1 = t + 1
    rw [h.com]
/-- The picks: each one to its end, one behind the other. -/
def alP (p : List (List Stp)) : Nat → List Int
  | 0 => []
  | t + 1 => alP p t ++ List.replicate ((plN p t).length + 1) (t : Int)
theorem pkS_two (p : List (List Stp)) (n : Nat) (st : LkS) (a b : List Int) : pkS p n st (a ++ b) = pkS p n (pkS p n st a) b := by
  unfold pkS
  rw [List.foldl_append]
theorem al_some {p : List (List Stp)} (hpl : PlOk p) {t : Nat} (ht : t < p.length) {st : LkS} (h : AlI p t 0 st) : ∀ {j : Nat}, j ≤ (plN p t).length → AlI p t j (pkS p p.length st (List.replicate j (t : Int)))
  | 0, _ => h
  | j + 1, hj => by
    rw [List.replicate_succ', pkS_app, if_pos (by omega)]
    exact (al_some hpl ht h (j := j) (by omega)).step hpl ht (by omega)
theorem al_all {p : List (List Stp)} (hpl : PlOk p) : ∀ {t : Nat}, t ≤ p.length → AlI p t 0 (pkS p p.length lk0 (alP p t))
  | 0, _ => AlI.start p
  | t + 1, ht => by
    unfold alP
    rw [pkS_two, List.replicate_succ', pkS_app, if_pos (by omega)]
    exact (al_some hpl (by omega) (al_all hpl (t := t) (by omega)) (Nat.le_refl _)).last
/-- ONE BEHIND THE OTHER nobody waits, nobody is ended, all commit. -/
theorem alone {p : List (List Stp)} (hpl : PlOk p) : AlI p p.length 0 (lkP p (alP p p.length)) := by
  have h := al_all hpl (Nat.le_refl p.length)
  have e : ∀ f, plS p p.length f (pkS p p.length lk0 (alP p p.length)) = pkS p p.length lk0 (alP p p.length) := fun f => by
    cases f with
    | zero => rfl
    | succ f =>
      unfold plS
      rw [if_pos (show allO p.length (pkS p p.length lk0 (alP p p.length)) = true from List.all_eq_true.2 fun u hu => h.lo u (List.mem_range.1 hu))]
  unfold lkP
  rw [e]
  exact h
end Go.Proofs.Ythmiocbihhbdpaa

namespace Go.Proofs.Ythmiocbihhbdpaa

section
variable {p : List (List Stp)} {n : Nat} {st : LkS}
theorem LkI.okS (h : LkI p n st) : OkS st.done := fun k hk => by
  unfold fltQ
  rw [if_pos (h.ok k hk)]
  cases e : overB st.done (stZ st.done k).p k
  · rfl
  · exfalso
    obtain ⟨j, hj, hb⟩ := List.any_eq_true.1 e
    rw [List.mem_range] at hj
    simp only [Bool.and_eq_true, beq_iff_eq, decide_eq_true_eq] at hb
    exact h.nxt j k hj hk hb.2 hb.1.symm
theorem LkI.ckS (h : LkI p n st) (hl : lefN p n lk0 ≤ 60) : CkS st.done 0 (-1) := by
  have := h.len
  exact .inr ⟨by omega, .inl ⟨h.okS, rfl, rfl⟩⟩
/-- STRICT: no step finds what one that isn't over wrote. -/
theorem LkI.strict (h : LkI p n st) : noneB (badS st.done) st.done.length = true := by
  rw [noneB_iff]
  intro i hi
  have ok := h.okS
  unfold badS openW
  split
  · rfl
  · rename_i hk
    cases e : lastN (findW st.done i) i with
    | none => rfl
    | some m =>
      obtain ⟨hm, hf, _⟩ := lastN_some e
      dsimp only
      by_cases hp : (stZ st.done m).p = (stZ st.done i).p
      · rw [if_pos (.inl hp)]; rfl
      · rw [if_pos]
        · rfl
        · refine .inr ?_
          unfold findW at hf
          simp only [Bool.and_eq_true, beq_iff_eq, Bool.not_eq_true', decide_eq_false_iff_not] at hf
          obtain ⟨⟨h1, h2⟩, h3⟩ := hf
          have hik := ok.kind hi
          obtain ⟨x, x1, x2, x3, x4⟩ := h.tp m i hm hi (by unfold agB; simp [h1, h2]; omega) (by omega) hp
          have hx : x < st.done.length := by omega
          have hxk := ok.kind hx
          rcases (by omega : (stZ st.done x).k = 3 ∨ (stZ st.done x).k = 4) with h5 | h5
          · rw [endK_at ok (by decide) hx x3 h5]; exact x2
          · rw [endK_at ok (by decide) hx x3 h5] at h3; exact absurd x2 h3
/-- Where one is over. -/
def eoN (l : List Stp) (t : Int) : Nat := (firstN (fun i => (stZ l i).p == t && decide (2 < (stZ l i).k)) l.length).getD l.length
theorem eoN_le {l : List Stp} {t : Int} {j : Nat} (hj : j < l.length) (h1 : (stZ l j).p = t) (h2 : 2 < (stZ l j).k) : eoN l t ≤ j := by
  unfold eoN
  rcases firstN_cases (fun i => (stZ l i).p == t && decide (2 < (stZ l i).k)) l.length with ⟨e, hn⟩ | ⟨k, hk, e, hf, hn⟩
  · have := hn j hj
    simp [h1, h2] at this
  · rw [e]
    show k ≤ j
    refine Classical.byContradiction fun hlt => ?_
    have := hn j (by omega)
    simp [h1, h2] at this
theorem LkI.eo_gt (h : LkI p n st) {t : Int} {j : Nat} (hj : j < st.done.length) (h1 : (stZ st.done j).p = t) (h2 : (stZ st.done j).k < 3) : j < eoN st.done t := by
  unfold eoN
  rcases firstN_cases (fun i => (stZ st.done i).p == t && decide (2 < (stZ st.done i).k)) st.done.length with ⟨e, _⟩ | ⟨k, hk, e, hf, _⟩
  · rw [e]; exact hj
  · rw [e]
    show j < k
    simp only [Bool.and_eq_true, beq_iff_eq, decide_eq_true_eq] at hf
    rcases Nat.lt_trichotomy j k with hl | he | hg
    · exact hl
    · subst he; omega
    · exact absurd (h1.trans hf.1.symm) (h.nxt k j hg hj hf.2)
/-- TWO PHASES: of two that clash the one ahead is over first. -/
theorem LkI.clash (h : LkI p n st) {i j : Nat} (hij : i < j) (hj : j < st.done.length) (hi3 : (stZ st.done i).k < 3) (hj3 : (stZ st.done j).k < 3) (hm : (stZ st.done i).m = (stZ st.done j).m) (hk : 2 < (stZ st.done i).k + (stZ st.done j).k) (hp : (stZ st.done i).p ≠ (stZ st.done j).p) :
    eoN st.done (stZ st.done i).p < eoN st.done (stZ st.done j).p := by
  obtain ⟨e, e1, e2, e3, e4⟩ := h.tp i j hij hj (by unfold agB; simp [hm, hk, hi3]) hj3 hp
  have h1 := eoN_le (t := (stZ st.done i).p) (j := e) (by omega) e3 e4
  have h2 := h.eo_gt hj rfl hj3
  omega
theorem bef_atL {α : Type} {a b : α} : ∀ {l : List α} {p q : Nat} (hq : q < l.length) (hp : p < q), l[p]'(by omega) = a → l[q] = b → Bef l a b
  | x :: l, 0, q + 1, hq, _, h1, h2 => by
    rw [bef_cons]
    exact .inl ⟨h1.symm, by rw [← h2]; exact List.getElem_mem _⟩
  | x :: l, p + 1, q + 1, hq, hp, h1, h2 => by
    rw [bef_cons]
    exact .inr (bef_atL (l := l) (p := p) (q := q) (by simpa using hq) (by omega) h1 h2)
theorem bef_pos {α : Type} {a b : α} : ∀ {l : List α}, Bef l a b → ∃ i j, ∃ (hj : j < l.length) (hij : i < j), l[i]'(by omega) = a ∧ l[j] = b
  | [], h => by cases h
  | x :: l, h => by
    rw [bef_cons] at h
    rcases h with ⟨rfl, hb⟩ | h
    · obtain ⟨j, hj, e⟩ := List.getElem_of_mem hb
      exact ⟨0, j + 1, by simpa using hj, by omega, rfl, by simpa using e⟩
    · obtain ⟨i, j, hj, hij, h1, h2⟩ := bef_pos h
      exact ⟨i + 1, j + 1, by simpa using hj, by omega, by simpa using h1, by simpa using h2⟩
/-- The same, of the steps that are kept. -/
theorem LkI.clash_in (h : LkI p n st) {f : Stp → Bool} (hf : ∀ s, f s = true → s.k < 3) {x y : Nat} (hxy : x < y) (hy : y < (st.done.filter f).length) (hm : (stZ (st.done.filter f) x).m = (stZ (st.done.filter f) y).m) (hk : 2 < (stZ (st.done.filter f) x).k + (stZ (st.done.filter f) y).k) (hp : (stZ (st.done.filter f) x).p ≠ (stZ (st.done.filter f) y).p) :
    eoN st.done (stZ (st.done.filter f) x).p < eoN st.done (stZ (st.done.filter f) y).p := by
  have hx : x < (st.done.filter f).length := by omega
  rw [stZ_at hx, stZ_at hy] at *
  have hb : Bef st.done (st.done.filter f)[x] (st.done.filter f)[y] := (bef_atL (l := st.done.filter f) hy hxy rfl rfl).trans List.filter_sublist
  have fx := hf _ (List.mem_filter.1 (List.getElem_mem hx)).2
  have fy := hf _ (List.mem_filter.1 (List.getElem_mem hy)).2
  obtain ⟨i, j, hj, hij, e1, e2⟩ := bef_pos hb
  have := h.clash hij hj
  rw [stZ_at hj, stZ_at (show i < st.done.length by omega), e1, e2] at this
  exact this fx fy hm hk hp
/-- Where a number rises along all roads, nothing goes round. -/
theorem rises {R : Nat → Nat → Bool} {m : Nat} {f : Nat → Nat} (h : ∀ i k, i < m → k < m → R i k = true → f i < f k) {i k : Nat} (hw : Way R m i k) : f i < f k := by
  induction hw with
  | one hi hk h1 => exact h _ _ hi hk h1
  | more h0 hk h1 ih => exact Nat.lt_trans ih (h _ _ h0.lt.2 hk h1)
/-- What one that is over did. -/
theorem LkI.own_over (h : LkI p n st) {t : Nat} (ht : t < n) (ho : st.ov t = true) : ownL st.done t = (plN p t).take (st.pos t) ++ [⟨(t : Int), if t ∈ st.vic then 4 else 3, 0⟩] := by
  rw [h.own t ht]
  unfold endT
  rw [if_pos ho]
end
end Go.Proofs.Ythmiocbihhbdpaa
