/-
  Chapter 17 in plain Lean: the ops that are made of what is seen are shown by an order, as chapter 3 says.
-/
import Derived.Test.YtncnojgemmcplaaGreatDoorAbLZ
import Derived.Test.YtncnojgemmcplaaGreatDoorPlainTZ
namespace Go.Proofs.YtncnojgemmcplaaGreatDoor

theorem atK_succ (k : Nat → Int) (wr : Nat → Bool) (v : Nat → Int) (ord : List Nat) (q : Nat) (key : Int) : atK k wr v ord (q + 1) key = if wr (ord.getD q 0) = true ∧ k (ord.getD q 0) = key then v (ord.getD q 0) else atK k wr v ord q key := rfl
theorem regs_step (x d a b : Int) (h : d = 1 ∨ d = 2) : stepM 1 [x] d a b = if d = 2 then some ([a], 0) else some ([x], x) := by
  rcases h with rfl | rfl <;> rfl
/-- An order in which each read tells what was written last shows ops of registers. -/
theorem shows_of_ordK {ops : List Opn} {ord : List Nat} (hk : ∀ i, i < ops.length → (opN ops i).d = 1 ∨ (opN ops i).d = 2) (hz : ∀ i, i < ops.length → (opN ops i).d = 2 → 0 ≤ (opN ops i).e → (opN ops i).r = 0)
    (h : OrdK ops.length (fun i => (opN ops i).c) (fun i => (opN ops i).e) (fun i => (opN ops i).k) (fun i => if (opN ops i).d = 2 then (opN ops i).a else (opN ops i).r) (fun i => decide ((opN ops i).d = 2)) ord) : ShowsM 1 ops (iL ord) := by
  have hgd : ∀ q (hq : q < ord.length), ord.getD q 0 = ord[q] := fun q hq => by rw [List.getD_eq_getElem?_getD, List.getElem?_eq_getElem hq]; rfl
  have hlt : ∀ q (hq : q < ord.length), ord[q] < ops.length := fun q hq => h.rng _ (List.getElem_mem hq)
  have hat : ∀ q (hq : q < ord.length), ((iL ord)[q]?).bind (opOf ops) = some (opN ops ord[q]) := fun q hq => by
    rw [iL_get hq]; exact opOf_nat (hlt q hq)
  have hst : ∀ q, q ≤ ord.length → ∀ key, sAt 1 ops (iL ord) q key = [atK (fun i => (opN ops i).k) (fun i => decide ((opN ops i).d = 2)) (fun i => if (opN ops i).d = 2 then (opN ops i).a else (opN ops i).r) ord q key] := by
    intro q
    induction q with
    | zero => intro _ key; rfl
    | succ q ih =>
      intro hq key
      have hq' : q < ord.length := by omega
      rw [sAt_succ (hat q hq')]
      unfold after
      rw [ih (by omega), regs_step _ _ _ _ (hk _ (hlt q hq'))]
      rw [atK_succ, hgd q hq']
      by_cases e : (opN ops ord[q]).d = 2
      · rw [if_pos e]
        simp only
        by_cases e2 : (opN ops ord[q]).k = key
        · subst e2
          rw [setK_same, if_pos ⟨decide_eq_true e, rfl⟩, if_pos e]
        · rw [setK_other _ _ _ _ (Ne.symm e2), if_neg (fun h => e2 h.2)]
          exact ih (by omega) key
      · rw [if_neg e]
        simp only
        rw [if_neg (fun h => e (of_decide_eq_true h.1))]
        by_cases e2 : key = (opN ops ord[q]).k
        · subst e2; rw [setK_same]
        · rw [setK_other _ _ _ _ e2]; exact ih (by omega) key
  refine ⟨fun n hn => ?_, ?_, fun n hn he => ?_, fun j hj i hi => ?_, fun j hj => ?_⟩
  · obtain ⟨m, hm, rfl⟩ := List.mem_map.1 hn
    have := h.rng m hm
    exact ⟨by omega, by omega⟩
  · unfold iL
    exact List.Pairwise.map _ (fun a b hab e => hab (by omega)) h.once
  · exact List.mem_map.2 ⟨n, h.whole n hn he, rfl⟩
  · have hj' : j < ord.length := by rw [iL_length] at hj; exact hj
    have := h.timely i j hi hj'
    rw [hgd j hj', hgd i (by omega)] at this
    simp only [iL, List.getElem_map, opI, Int.toNat_natCast]
    unfold beforeB
    by_cases e1 : 0 ≤ (opN ops ord[j]).e
    · have e2 : ¬ (opN ops ord[j]).e < (opN ops ord[i]).c := fun e2 => this ⟨e1, e2⟩
      simp [e2]
    · simp [e1]
  · have hj' : j < ord.length := by rw [iL_length] at hj; exact hj
    rw [fineAt_some (hat j hj')]
    unfold opFine
    rw [hst j (by omega), regs_step _ _ _ _ (hk _ (hlt j hj'))]
    by_cases e : (opN ops ord[j]).d = 2
    · rw [if_pos e]
      simp only
      by_cases e1 : (opN ops ord[j]).e < 0
      · simp [e1]
      · rw [hz _ (hlt j hj') e (by omega)]; simp
    · rw [if_neg e]
      simp only
      have := h.last j hj' (by rw [hgd j hj']; exact decide_eq_false e)
      rw [hgd j hj', if_neg e] at this
      rw [this]; simp

/-- ATTIYA, BAR-NOY, DOLEV, in chapter 3's words. -/
theorem abd_shows {S : Sto} (h : SAll S) (hb : S.back = true) {L : List Opn} (hL : OpsOf (histS S) L) : ∃ ord : List Nat, ShowsM 1 L (iL ord) := by
  obtain ⟨ord, ho⟩ := abd_ops h hb hL
  obtain ⟨G, h1, h2⟩ := h
  have hI : Inv (S.seen.map evS) S.seen.length (histS S) := inv_hist _ _ (by simp) h2.fine
  obtain ⟨qs, _, hqs, hperm, _⟩ := hL
  have hin : ∀ x ∈ L, (x.d = 1 ∨ x.d = 2) ∧ (x.d = 2 → 0 ≤ x.e → x.r = 0) := fun x hx => by
    rcases List.mem_append.1 (hperm.mem_iff.1 hx) with hx | hx
    · refine ⟨h2.kinds x hx, fun hd he => ?_⟩
      obtain ⟨r, hr, hop⟩ := h2.done x hx he
      refine hop.r0 ?_
      cases e : r.write with
      | true => rfl
      | false => have := hop.d; rw [e, hd] at this; exact absurd this (by decide)
    · obtain ⟨p, hp⟩ := mem_pending hx
      have hg := hI.goodB p x hp
      refine ⟨?_, fun _ _ => hg.2.2.2⟩
      cases hbz : (S.cl p).busy with
      | false => rw [h2.idle p hbz] at hp; cases hp
      | true =>
        rw [h2.busy p hbz] at hp
        obtain rfl := Option.some.inj hp
        cases hw : (S.cl p).write <;> simp [opC, hw]
  have hN : ∀ i, i < L.length → opN L i ∈ L := fun i hi => by
    unfold opN
    rw [List.getD_eq_getElem?_getD, List.getElem?_eq_getElem hi]
    exact List.getElem_mem hi
  exact ⟨ord, shows_of_ordK (fun i hi => (hin _ (hN i hi)).1) (fun i hi => (hin _ (hN i hi)).2) ho⟩
end Go.Proofs.YtncnojgemmcplaaGreatDoor
