/-
  Registers run in an order, key by key: what a read tells is what was written last; so an order that keeps each process' own leaves nothing that can't be.
-/
import Derived.Test.YtfojmbbhcmeejaaDoorZnPZ
import Derived.Test.YtfojmbbhcmeejaaDoorBrP
namespace Go.Proofs.YtfojmbbhcmeejaaDoor

/-- An order of all ops, run on registers: each is fine. -/
structure RunK (l : List Opn) (ord : List Nat) : Prop where
  perm : ord.Perm (List.range l.length)
  fine : ∀ j, j < ord.length → fineAt 1 l (iL ord) j = true

/-- What was written to a key last, ahead of a place; 0: nothing. -/
def lastK (l : List Opn) (ord : List Nat) (q : Int) : Nat → Int
  | 0 => 0
  | j + 1 => if (opZ l (ord.getD j 0)).d = 2 ∧ (opZ l (ord.getD j 0)).k = q then (opZ l (ord.getD j 0)).a else lastK l ord q j

section
variable {l : List Opn} {ord : List Nat} (ok : KOk l) (h : RunK l ord)

theorem lastK_spec : ∀ j q, (lastK l ord q j = 0 ∧ ∀ p, p < j → ¬ ((opZ l (ord.getD p 0)).d = 2 ∧ (opZ l (ord.getD p 0)).k = q)) ∨
    ∃ p, p < j ∧ (opZ l (ord.getD p 0)).d = 2 ∧ (opZ l (ord.getD p 0)).k = q ∧ lastK l ord q j = (opZ l (ord.getD p 0)).a ∧ ∀ p', p < p' → p' < j → ¬ ((opZ l (ord.getD p' 0)).d = 2 ∧ (opZ l (ord.getD p' 0)).k = q)
  | 0, q => .inl ⟨rfl, fun p hp => absurd hp (by omega)⟩
  | j + 1, q => by
    unfold lastK
    by_cases e : (opZ l (ord.getD j 0)).d = 2 ∧ (opZ l (ord.getD j 0)).k = q
    · rw [if_pos e]
      exact .inr ⟨j, by omega, e.1, e.2, rfl, fun p' h1 h2 => absurd h2 (by omega)⟩
    · rw [if_neg e]
      rcases lastK_spec j q with ⟨h1, h2⟩ | ⟨p, hp, h1, h2, h3, h4⟩
      · refine .inl ⟨h1, fun p hp => ?_⟩
        by_cases e' : p = j
        · subst e'; exact e
        · exact h2 p (by omega)
      · refine .inr ⟨p, by omega, h1, h2, h3, fun p' g1 g2 => ?_⟩
        by_cases e' : p' = j
        · subst e'; exact e
        · exact h4 p' g1 (by omega)

include h

theorem RunK.len : ord.length = l.length := by have := h.perm.length_eq; simpa using this
theorem RunK.lt {j : Nat} (hj : j < ord.length) : ord[j] < l.length := List.mem_range.1 (h.perm.mem_iff.1 (List.getElem_mem hj))
omit h in
theorem getD_ord {j : Nat} (hj : j < ord.length) : ord.getD j 0 = ord[j] := by rw [List.getD_eq_getElem?_getD, List.getElem?_eq_getElem hj]; rfl
theorem RunK.at_ {n : Nat} (hn : n < l.length) : ∃ p, ∃ hp : p < ord.length, ord[p] = n := by
  obtain ⟨p, hp, e⟩ := List.getElem_of_mem (h.perm.mem_iff.2 (List.mem_range.2 hn))
  exact ⟨p, hp, e⟩
theorem RunK.one {p q : Nat} (hp : p < ord.length) (hq : q < ord.length) (e : ord[p] = ord[q]) : p = q := by
  have hn : ord.Nodup := h.perm.nodup_iff.2 List.nodup_range
  exact (List.getElem_inj hn).1 e

include ok

theorem run_step {j : Nat} (hj : j < ord.length) (hs : ∀ q, sAt 1 l (iL ord) j q = [lastK l ord q j]) :
    ((opZ l ord[j]).d = 1 → (opZ l ord[j]).r = lastK l ord (opZ l ord[j]).k j) ∧ ∀ q, sAt 1 l (iL ord) (j + 1) q = [lastK l ord q (j + 1)] := by
  have hl := h.lt hj
  have hat := at_of (ops := l) hj hl
  have hf := h.fine j hj
  have hx : opN l ord[j] = opZ l ord[j] := by rw [opN_at hl, opZ_at hl]
  rw [hx] at hat
  rw [fineAt_some hat] at hf
  rw [sAt_succ hat]
  have hb := (ok.back _ hl)
  have hg := getD_ord hj
  generalize hxx : opZ l ord[j] = x at *
  have hlast : ∀ q, lastK l ord q (j + 1) = if x.d = 2 ∧ x.k = q then x.a else lastK l ord q j := fun q => by
    show (if (opZ l (ord.getD j 0)).d = 2 ∧ (opZ l (ord.getD j 0)).k = q then (opZ l (ord.getD j 0)).a else lastK l ord q j) = _
    rw [hg, hxx]
  rcases ok.kind _ hl with hd | hd
  · rw [hxx] at hd
    have e : stepM 1 (sAt 1 l (iL ord) j x.k) x.d x.a x.b = some ([lastK l ord x.k j], lastK l ord x.k j) := by
      rw [hs, stepM_reg (by rw [hd]; decide), hd]; simp [regM]
    refine ⟨fun _ => ?_, fun q => ?_⟩
    · unfold opFine at hf
      rw [e] at hf
      have hneg : ¬ x.e < 0 := by omega
      simp [hneg] at hf
      exact hf
    · unfold after
      rw [e, hlast, if_neg (by omega)]
      simp only
      by_cases eq : q = x.k
      · subst eq; rw [setK_same]
      · rw [setK_other _ _ _ _ eq, hs]
  · rw [hxx] at hd
    have e : stepM 1 (sAt 1 l (iL ord) j x.k) x.d x.a x.b = some ([x.a], 0) := by
      rw [hs, stepM_reg (by rw [hd]; decide), hd]; simp [regM]
    refine ⟨fun h1 => absurd h1 (by omega), fun q => ?_⟩
    unfold after
    rw [e, hlast]
    simp only
    by_cases eq : x.k = q
    · subst eq; rw [setK_same, if_pos ⟨hd, rfl⟩]
    · rw [setK_other _ _ _ _ (Ne.symm eq), hs, if_neg (fun h => eq h.2)]

theorem run_all : ∀ j, j ≤ ord.length → ∀ q, sAt 1 l (iL ord) j q = [lastK l ord q j]
  | 0, _, _ => rfl
  | j + 1, hj, q => (run_step ok h (by omega) (run_all j (by omega))).2 q
theorem run_read {j : Nat} (hj : j < ord.length) (hd : (opZ l ord[j]).d = 1) : (opZ l ord[j]).r = lastK l ord (opZ l ord[j]).k j := (run_step ok h hj (run_all ok h j (by omega))).1 hd

/-- Who reads something reads what stands ahead, and no one writes its key between. -/
theorem run_src {j : Nat} (hj : j < ord.length) (hd : (opZ l ord[j]).d = 1) (hr : (opZ l ord[j]).r ≠ 0) :
    ∃ p, ∃ hp : p < j, srcK l (opZ l ord[j]) = (ord[p]'(Nat.lt_trans hp hj) : Nat) ∧ ∀ p', p < p' → (hp' : p' < j) → ¬ ((opZ l (ord[p']'(Nat.lt_trans hp' hj))).d = 2 ∧ (opZ l (ord[p']'(Nat.lt_trans hp' hj))).k = (opZ l ord[j]).k) := by
  have e := run_read ok h hj hd
  rcases lastK_spec (l := l) (ord := ord) j (opZ l ord[j]).k with ⟨h1, _⟩ | ⟨p, hp, h1, h2, h3, h4⟩
  · exact absurd (e.trans h1) hr
  · have hpl : p < ord.length := Nat.lt_trans hp hj
    rw [getD_ord hpl] at h1 h2 h3
    refine ⟨p, hp, srcK_is ok (h.lt hpl) h1 h2 (by rw [← h3, e]), fun p' g1 g2 => ?_⟩
    have := h4 p' g1 g2
    rwa [getD_ord (Nat.lt_trans g2 hj)] at this
/-- Who reads 0 has no write of its key ahead. -/
theorem run_zero {j p : Nat} (hj : j < ord.length) (hd : (opZ l ord[j]).d = 1) (hr : (opZ l ord[j]).r = 0) (hp : p < j) : ¬ ((opZ l (ord[p]'(Nat.lt_trans hp hj))).d = 2 ∧ (opZ l (ord[p]'(Nat.lt_trans hp hj))).k = (opZ l ord[j]).k) := by
  have e := run_read ok h hj hd
  have hpl : p < ord.length := Nat.lt_trans hp hj
  rcases lastK_spec (l := l) (ord := ord) j (opZ l ord[j]).k with ⟨_, h2⟩ | ⟨p', hp', h1, h2, h3, _⟩
  · have := h2 p hp
    rwa [getD_ord hpl] at this
  · have hpl' : p' < ord.length := Nat.lt_trans hp' hj
    rw [getD_ord hpl'] at h1 h3
    exact absurd (h3.symm.trans (e.symm.trans hr)) (ok.write _ (h.lt hpl') h1).1

/-- WHAT IS RUN IN AN ORDER THAT KEEPS EACH PROCESS' OWN LEAVES NOTHING THAT CAN'T BE. -/
theorem weaker (ht : ∀ i j, (hij : i < j) → (hj : j < ord.length) → ¬ ((opZ l ord[j]).p = (opZ l (ord[i]'(Nat.lt_trans hij hj))).p ∧ (opZ l ord[j]).c < (opZ l (ord[i]'(Nat.lt_trans hij hj))).c)) :
    (findsK l).1 = 0 := by
  have hkind : ∀ {i}, i < l.length → (opZ l i).r ≠ 0 → (opZ l i).d = 1 := fun {i} hi hr => by
    rcases ok.kind i hi with hd | hd
    · exact hd
    · exact absurd (ok.write i hi hd).2 hr
  have hthin : firstN (thinB l) l.length = none := firstN_none fun i hi => by
    obtain ⟨p, hp, e⟩ := h.at_ hi
    unfold thinB
    by_cases hr : (opZ l i).r = 0
    · simp [hr]
    · subst e
      obtain ⟨q, hq, hs, _⟩ := run_src ok h hp (hkind hi hr) hr
      rw [hs]
      simp
  have hsrc : ∀ {i k p q : Nat} (hp : p < ord.length) (hq : q < ord.length), ord[p] = i → ord[q] = k → srcK l (opZ l k) = (i : Nat) → p < q := fun {i k p q} hp hq ep eq hs => by
    subst ep eq
    have hl := h.lt hq
    have hr : (opZ l ord[q]).r ≠ 0 := fun hr => by rw [srcK_zero ok hr] at hs; omega
    obtain ⟨q', hq', hs', _⟩ := run_src ok h hq (hkind hl hr) hr
    have e : ord[p] = ord[q'] := by rw [hs] at hs'; omega
    have := h.one hp (Nat.lt_trans hq' hq) e
    omega
  have hroad : ∀ {i k p q : Nat} (hp : p < ord.length) (hq : q < ord.length), ord[p] = i → ord[q] = k → roadB l i k = true → p < q := fun {i k p q} hp hq ep eq hr => by
    unfold roadB at hr
    simp only [Bool.or_eq_true, Bool.and_eq_true, beq_iff_eq, decide_eq_true_eq] at hr
    rcases hr with ⟨h1, h2⟩ | hs
    · subst ep eq
      rcases Nat.lt_trichotomy p q with g | g | g
      · exact g
      · subst g; omega
      · exact absurd ⟨h1, h2⟩ (ht q p g hp)
    · exact hsrc hp hq ep eq hs
  have hway : ∀ {i k : Nat}, Way (roadB l) l.length i k → ∀ {p q : Nat} (hp : p < ord.length) (hq : q < ord.length), ord[p] = i → ord[q] = k → p < q := fun {i k} hw => by
    induction hw with
    | one _ _ hr => exact fun hp hq ep eq => hroad hp hq ep eq hr
    | more h1 hk hr ih =>
      intro p q hp hq ep eq
      obtain ⟨m, hm, em⟩ := h.at_ h1.lt.2
      exact Nat.lt_trans (ih hp hm ep em) (hroad hm hq em eq hr)
  have hah : ∀ {p q : Nat} (hp : p < ord.length) (hq : q < ord.length), aheadK l ord[p] ord[q] = true → p < q := fun {p q} hp hq ha =>
    hway ((war_iff (h.lt hp) (h.lt hq)).1 ha) hp hq rfl rfl
  have hround : firstN (fun i => aheadK l i i) l.length = none := firstN_none fun i hi => by
    obtain ⟨p, hp, e⟩ := h.at_ hi
    subst e
    cases ha : aheadK l ord[p] ord[p]
    · rfl
    · exact absurd (hah hp hp ha) (Nat.lt_irrefl _)
  have hemp : firstP (empB l (aheadK l)) l.length = none := firstP_none fun i hi k hk => by
    obtain ⟨p, hp, e⟩ := h.at_ hi
    obtain ⟨q, hq, e'⟩ := h.at_ hk
    subst e e'
    cases hx : empB l (aheadK l) ord[p] ord[q]
    · rfl
    · exfalso
      unfold empB rwB at hx
      simp only [Bool.and_eq_true, beq_iff_eq] at hx
      obtain ⟨⟨h1, h2, h3⟩, h4, h5⟩ := hx
      exact run_zero ok h hp h1 h4 (hah hq hp h5) ⟨h2, h3⟩
  have hsta : firstP (staB l (aheadK l)) l.length = none := firstP_none fun i hi k hk => by
    obtain ⟨p, hp, e⟩ := h.at_ hi
    obtain ⟨q, hq, e'⟩ := h.at_ hk
    subst e e'
    cases hx : staB l (aheadK l) ord[p] ord[q]
    · rfl
    · exfalso
      unfold staB rwB at hx
      simp only [Bool.and_eq_true, beq_iff_eq, bne_iff_ne] at hx
      obtain ⟨⟨h1, h2, h3⟩, h4, h5, h6⟩ := hx
      have hr : (opZ l ord[p]).r ≠ 0 := fun hr => h4 (srcK_zero ok hr)
      obtain ⟨m, hm, hs, hno⟩ := run_src ok h hp h1 hr
      rw [hs, Int.toNat_natCast] at h5
      exact hno q (hah (Nat.lt_trans hm hp) hq h5) (hah hq hp h6) ⟨h2, h3⟩
  unfold findsK
  rw [hthin]
  simp only
  rw [hround]
  simp only
  rw [hemp]
  simp only
  rw [hsta]
end

end Go.Proofs.YtfojmbbhcmeejaaDoor
