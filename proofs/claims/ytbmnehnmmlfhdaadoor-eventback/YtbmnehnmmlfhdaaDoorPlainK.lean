/-
  What a history makes, sorted by calls, may be: plain facts.
-/
import Derived.Test.YtbmnehnmmlfhdaaDoorPlainH
namespace Go.Proofs.YtbmnehnmmlfhdaaDoor

/-- What a history makes: those that are over, and those that have no end; in order of their calls. -/
def OpsOf (s : Hs) (L : List Opn) : Prop :=
  ∃ qs : List Int, qs.Nodup ∧ (∀ q, q ∈ qs ↔ (s.busy q).isSome = true) ∧ L.Perm (s.done ++ qs.filterMap s.busy) ∧ L.Pairwise (fun x y => x.c ≤ y.c)

theorem mem_pending {s : Hs} {qs : List Int} {x : Opn} (h : x ∈ qs.filterMap s.busy) : ∃ p, s.busy p = some x := by
  obtain ⟨p, _, hp⟩ := List.mem_filterMap.1 h
  exact ⟨p, hp⟩

theorem opsOf_good {l : List Ev} {n : Nat} {s : Hs} {L : List Opn} (I : Inv l n s) (h : OpsOf s L) : ∀ x ∈ L, Good l n x := by
  obtain ⟨qs, _, _, hp, _⟩ := h
  intro x hx
  rcases List.mem_append.1 ((hp.mem_iff).1 hx) with hx | hx
  · exact I.good x hx
  · obtain ⟨p, hp⟩ := mem_pending hx
    exact (I.goodB p x hp).1

theorem opsOf_apart {l : List Ev} {n : Nat} {s : Hs} {L : List Opn} (I : Inv l n s) (h : OpsOf s L) : L.Pairwise Apart := by
  obtain ⟨qs, hn, _, hp, _⟩ := h
  refine (hp.pairwise_iff (fun {_ _} h => h.symm)).2 (List.pairwise_append.2 ⟨I.apart, ?_, ?_⟩)
  · refine List.pairwise_filterMap.2 (List.Pairwise.imp ?_ hn)
    intro p q hpq x hx y hy
    exact I.apartBB p q x y hpq hx hy
  · intro x hx y hy
    obtain ⟨p, hp⟩ := mem_pending hy
    exact I.apartB x hx p y hp

theorem opsOf_rising {l : List Ev} {n : Nat} {s : Hs} {L : List Opn} (I : Inv l n s) (h : OpsOf s L) : L.Pairwise (fun x y => x.c < y.c ∧ Apart x y) := by
  have h1 := opsOf_apart I h
  obtain ⟨qs, _, _, _, hs⟩ := h
  refine (List.pairwise_and_iff.2 ⟨hs, h1⟩).imp ?_
  intro x y ⟨a, b⟩
  exact ⟨by have := b.1; omega, b⟩

theorem any_take_false {L : List Opn} {R : Opn → Opn → Prop} (h : L.Pairwise R) (f : Opn → Opn → Bool) (hf : ∀ x y, R x y → f x y = false) (j : Nat) (hj : j < L.length) : (L.take j).any (fun x => f x L[j]) = false := by
  rw [List.any_eq_false]
  intro x hx
  obtain ⟨i, hi, rfl⟩ := List.getElem_of_mem hx
  rw [List.getElem_take]
  have hij : i < j := by simp at hi; omega
  simp [hf _ _ (List.pairwise_iff_getElem.1 h i j (by omega) hj hij)]

theorem opsOf_fine {l : List Ev} {n : Nat} {s : Hs} {L : List Opn} (I : Inv l n s) (hn : n ≤ 200) (h : OpsOf s L) (j : Nat) (hj : j < L.length) : opFaultN (L.take j) L[j] = 0 := by
  have hr := opsOf_rising I h
  have hg := opsOf_good I h
  have g := hg L[j] (List.getElem_mem hj)
  have g1 := g.lo
  have g2 := g.hi
  have g3 := g.ret
  have g4 := g.fit
  obtain ⟨i, hi, e1, e2, e3, e4, e5, e6, e7, e8⟩ := g.made
  obtain ⟨f1, _, _, f4, _⟩ := fault_parts e3
  have hin : inB L[j].p L[j].k L[j].a L[j].b L[j].r = true := by
    rw [e4, e5, e7, e8] at f1
    simp [inB] at f1 ⊢
    exact ⟨f1.1, g.num⟩
  have hrange : rangeB L[j] = true := by
    unfold rangeB
    rw [hin]
    have : numB L[j].c = true := by simp [numB]; omega
    have : numB L[j].e = true := by simp [numB]; omega
    simp_all
  have hkind : kindB L[j].d = true := by rw [← e6]; exact f4
  have hlast : lastOk (L.take j) L[j] = true := by
    unfold lastOk
    split
    · rfl
    · rename_i y hy
      have hm := List.mem_of_getLast? hy
      obtain ⟨m, hm2, hm3⟩ := List.getElem_of_mem hm
      have hm4 : m < min j L.length := by rw [← List.length_take]; exact hm2
      have hmj : m < j := by omega
      have := (List.pairwise_iff_getElem.1 hr m j (by omega) hj hmj).1
      rw [← hm3, List.getElem_take]
      simp [this]
  have horder : orderB (L.take j) L[j] = true := by
    unfold orderB
    rw [hlast]
    by_cases k : L[j].e = -1
    · rw [if_pos k]
      have : L[j].r = 0 := by
        rcases g4 with h | h
        · exact h.2
        · omega
      simp [g1, this]
    · rw [if_neg k]
      have : L[j].c < L[j].e := by
        rcases g4 with h | h
        · exact absurd h.1 k
        · exact h
      simp [g1, this]
  have hshare : (L.take j).any (fun y => shareB y L[j]) = false := by
    refine any_take_false (opsOf_apart I h) shareB ?_ j hj
    intro x y ⟨a1, a2, a3, a4, _⟩
    unfold shareB hasB
    have b1 : (x.c == y.c) = false := by simpa using a1
    have b2 : (x.e == y.c) = false := by simpa using a3
    have b3 : (x.c == y.e) = false := by simpa using a2
    rw [b1, b2, b3]
    by_cases k : y.e = -1
    · simp [k]
    · have : (x.e == y.e) = false := by
        rcases a4 with h | h
        · rw [h]; simpa using fun h => k h.symm
        · simpa using h
      rw [this]; simp
  have hclash : (L.take j).any (fun y => clashB y L[j]) = false := by
    have hr2 : L.Pairwise (fun x y => clashB x y = false) := by
      refine List.pairwise_iff_getElem.2 fun a b ha hb hab => ?_
      have hr' := List.pairwise_iff_getElem.1 hr a b ha hb hab
      have ga := hg L[a] (List.getElem_mem ha)
      have gb := hg L[b] (List.getElem_mem hb)
      cases k : clashB L[a] L[b]
      · rfl
      · exfalso
        simp [clashB] at k
        obtain ⟨kp, kb⟩ := k
        rcases hr'.2.2.2.2.2 kp with h | h
        · rw [h] at kb; exact absurd kb (by decide)
        · simp [beforeB] at h
          have b1 := gb.fit
          have b2 := gb.lo
          have b3 := hr'.1
          omega
    exact any_take_false hr2 clashB (fun x y h => h) j hj
  unfold opFaultN
  rw [hrange, hkind, horder, hshare, hclash]
  rfl

end Go.Proofs.YtbmnehnmmlfhdaaDoor
