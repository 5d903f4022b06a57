/-
  That zones fit is what Gibbons and Korach ask; that nothing is found of a queue is what an order of it asks.
-/
import Derived.Test.YtelndpbkheoeaaaDoorZnPZ
import Derived.Test.YtelndpbkheoeaaaDoorGkPZ
namespace Go.Proofs.YtelndpbkheoeaaaDoor

/-- Ops as values and times. -/
def rgI (l : List Opn) (d : Int) : Rg where
  n := l.length
  c := fun i => (opZ l i).c
  e := fun i => (opZ l i).e
  w := fun i => (opZ l i).d == d
  v := fun i => if (opZ l i).d == d then (opZ l i).a else (opZ l i).r

section
variable {l : List Opn}

theorem rgI_val (i : Nat) : (rgI l 2).v i = valO (opZ l i) := by
  show (if (opZ l i).d == 2 then (opZ l i).a else (opZ l i).r) = valO (opZ l i)
  unfold valO
  by_cases h : (opZ l i).d = 2 <;> simp [h]
theorem rgI_w (i : Nat) (d : Int) : (rgI l d).w i = true ↔ (opZ l i).d = d := by simp [rgI]
theorem rgI_nw (i : Nat) (d : Int) : (rgI l d).w i = false ↔ (opZ l i).d ≠ d := by simp [rgI]

theorem rg_ok (ok : ZOk l) : (rgI l 2).Ok := by
  refine ⟨by have := ok.few; show l.length ≤ 64; omega, ok.back, ok.rise, fun i j hi hj => ?_, fun i hi => ?_, fun i j hi hj hw hw' e => ?_, fun i hi hw => ?_⟩
  · show (opZ l i).e ≠ (opZ l j).c
    by_cases e : i = j
    · subst e; have := ok.back i hi; omega
    · exact (ok.ce j i hj hi (Ne.symm e)).symm
  · rw [rgI_val]
    have := ok.num i hi
    unfold valO
    split
    · exact this.1
    · exact this.2.1
  · rw [rgI_val, rgI_val] at e
    rw [rgI_w] at hw hw'
    unfold valO at e
    rw [if_pos hw, if_pos hw'] at e
    exact ok.once i j hi hj hw hw' e
  · rw [rgI_val]
    rw [rgI_w] at hw
    unfold valO
    rw [if_pos hw]
    exact (ok.write i hi hw).1

/-- No two values' spans are each ahead of the other one. -/
def apartS (l : List Opn) : Prop := ∀ u v s t, u ≠ v → spanO l u = some s → spanO l v = some t → ¬ (s.e < t.b ∧ t.e < s.b)

theorem span_src (ok : ZOk l) (hs : ∀ j, j < l.length → (opZ l j).d = 1 → noneB (spW l l.length) (opZ l j) = false) (i : Nat) (hi : i < l.length) : ∃ s, spanO l (valO (opZ l i)) = some s := by
  have hw : ∃ s, spW l l.length (valO (opZ l i)) = some s := by
    rcases ok.kind i hi with hd | hd
    · have h := hs i hi hd
      unfold noneB at h
      have e : valO (opZ l i) = (opZ l i).r := by unfold valO; rw [if_neg (by omega)]
      rw [e]
      cases hx : spW l l.length (opZ l i).r with
      | none => rw [hx] at h; cases h
      | some s => exact ⟨s, rfl⟩
    · refine ⟨⟨(opZ l i).c, (opZ l i).e, (opZ l i).c⟩, (spW_iff ok l.length (Nat.le_refl _) _ _).2 (.inr ⟨i, hi, hd, ?_, rfl⟩)⟩
      unfold valO; rw [if_pos hd]
  obtain ⟨s, hw⟩ := hw
  unfold spanO
  rw [spR_eq ok l.length (Nat.le_refl _), hw]
  exact ⟨_, rfl⟩

theorem src_iff (ok : ZOk l) : (rgI l 2).Src ↔ ∀ j, j < l.length → (opZ l j).d = 1 → noneB (spW l l.length) (opZ l j) = false := by
  constructor
  · intro h j hj hd
    have e : valO (opZ l j) = (opZ l j).r := by unfold valO; rw [if_neg (by omega)]
    unfold noneB
    by_cases h0 : (opZ l j).r = 0
    · have : spW l l.length (opZ l j).r = some ⟨-2, -1, -2⟩ := (spW_iff ok l.length (Nat.le_refl _) _ _).2 (.inl ⟨h0, rfl⟩)
      rw [this]
      have := ok.back j hj
      simp; omega
    · obtain ⟨i, hi, hw, hv, hc⟩ := h j hj ((rgI_nw j 2).2 (by omega)) (by rw [rgI_val, e]; exact h0)
      rw [rgI_w] at hw
      rw [rgI_val, rgI_val, e] at hv
      have hv' : (opZ l i).a = (opZ l j).r := by unfold valO at hv; rwa [if_pos hw] at hv
      have : spW l l.length (opZ l j).r = some ⟨(opZ l i).c, (opZ l i).e, (opZ l i).c⟩ := (spW_iff ok l.length (Nat.le_refl _) _ _).2 (.inr ⟨i, hi, hw, hv', rfl⟩)
      rw [this]
      have hc' : (opZ l i).c ≤ (opZ l j).e := hc
      simp; omega
  · intro h i hi hw hv
    rw [rgI_nw] at hw
    have hd : (opZ l i).d = 1 := by rcases ok.kind i hi with h | h <;> omega
    have e : valO (opZ l i) = (opZ l i).r := by unfold valO; rw [if_neg hw]
    rw [rgI_val, e] at hv
    have hn := h i hi hd
    unfold noneB at hn
    cases hx : spW l l.length (opZ l i).r with
    | none => rw [hx] at hn; cases hn
    | some s =>
      rw [hx] at hn
      rcases (spW_iff ok l.length (Nat.le_refl _) _ _).1 hx with ⟨e0, _⟩ | ⟨j, hj, hdj, ha, rfl⟩
      · exact absurd e0 hv
      · refine ⟨j, hj, (rgI_w j 2).2 hdj, ?_, ?_⟩
        · rw [rgI_val, rgI_val, e]; unfold valO; rw [if_pos hdj]; exact ha
        · simp at hn; exact hn

theorem apart_iff (ok : ZOk l) (hs : ∀ j, j < l.length → (opZ l j).d = 1 → noneB (spW l l.length) (opZ l j) = false) : (rgI l 2).Apart ↔ apartS l := by
  constructor
  · intro h u v s t hne hu hv ⟨h1, h2⟩
    have a := edges_span ok hu
    have b := edges_span ok hv
    have two : ∀ i j k m, i < l.length → j < l.length → k < l.length → m < l.length → valO (opZ l i) = valO (opZ l m) → valO (opZ l j) = valO (opZ l k) → valO (opZ l i) ≠ valO (opZ l j) → ¬ ((opZ l i).e < (opZ l j).c ∧ (opZ l k).e < (opZ l m).c) := fun i j k m hi hj hk hm e1 e2 e3 => by
      have := h.two i j k m hi hj hk hm
      rw [rgI_val, rgI_val, rgI_val, rgI_val] at this
      exact this e1 e2 e3
    have nought : ∀ k m, k < l.length → m < l.length → valO (opZ l k) ≠ 0 → valO (opZ l m) = 0 → ¬ (opZ l k).e < (opZ l m).c := fun k m hk hm e1 e2 => by
      have := h.nought k m hk hm
      rw [rgI_val, rgI_val] at this
      exact this e1 e2
    rcases a.e with ⟨u0, ea⟩ | ⟨u0, i, hi, vi, ea⟩ <;> rcases b.e with ⟨v0, eb⟩ | ⟨v0, k, hk, vk, eb⟩
    · exact absurd (u0.trans v0.symm) hne
    · rcases a.b with ⟨_, ba⟩ | ⟨m, hm, vm, ba⟩
      · have := ok.back k hk; omega
      · exact nought k m hk hm (by rw [vk]; exact v0) (by rw [vm]; exact u0) (by omega)
    · rcases b.b with ⟨_, bb⟩ | ⟨m, hm, vm, bb⟩
      · have := ok.back i hi; omega
      · exact nought i m hi hm (by rw [vi]; exact u0) (by rw [vm]; exact v0) (by omega)
    · rcases a.b with ⟨u0', _⟩ | ⟨m, hm, vm, ba⟩
      · exact absurd u0' u0
      · rcases b.b with ⟨v0', _⟩ | ⟨j, hj, vj, bb⟩
        · exact absurd v0' v0
        · exact two i j k m hi hj hk hm (vi.trans vm.symm) (vj.trans vk.symm) (by rw [vi, vj]; exact hne) ⟨by omega, by omega⟩
  · intro h
    refine ⟨fun i j k m hi hj hk hm e1 e2 e3 ⟨h1, h2⟩ => ?_, fun k m hk hm e1 e2 h1 => ?_⟩
    · rw [rgI_val, rgI_val] at e1 e2 e3
      obtain ⟨s, hu⟩ := span_src ok hs i hi
      obtain ⟨t, hv⟩ := span_src ok hs j hj
      have a := edges_span ok hu
      have b := edges_span ok hv
      refine h _ _ s t e3 hu hv ⟨?_, ?_⟩
      · have x := a.eAt i hi rfl; have y := b.bAt j hj rfl; have z : (opZ l i).e < (opZ l j).c := h1; omega
      · have x := b.eAt k hk e2.symm; have y := a.bAt m hm e1.symm; have z : (opZ l k).e < (opZ l m).c := h2; omega
    · rw [rgI_val] at e1 e2
      obtain ⟨s, hu⟩ := span_src ok hs k hk
      obtain ⟨t, hv⟩ := span_src ok hs m hm
      have a := edges_span ok hu
      have b := edges_span ok hv
      rw [e2] at hv b
      have z : (opZ l k).e < (opZ l m).c := h1
      refine h _ _ t s (Ne.symm e1) hv hu ⟨?_, ?_⟩
      · rcases b.e with ⟨_, eb⟩ | ⟨h0, _⟩
        · have x := a.bAt k hk rfl; have := ok.back k hk; omega
        · exact absurd rfl h0
      · have x := a.eAt k hk rfl; have y := b.bAt m hm e2; omega

theorem clash_iff (_ok : ZOk l) {u v : Int} {s t : Span} (_hu : spanO l u = some s) (_hv : spanO l v = some t) (hlo : (zonOf u s).lo < (zonOf v t).lo) : clashZ (zonOf u s) (zonOf v t) = true ↔ s.e < t.b ∧ t.e < s.b := by
  unfold clashZ zonOf at *
  simp only [Bool.and_eq_true, decide_eq_true_eq] at *
  by_cases h : t.e < t.b
  · rw [if_pos (by simpa using h)]
    simp only [decide_eq_true_eq]
    constructor
    · rintro ⟨h1, h2⟩; omega
    · rintro ⟨h1, h2⟩; omega
  · rw [if_neg (by simpa using h)]
    simp only [decide_eq_true_eq]
    constructor
    · rintro ⟨h1, h2⟩; omega
    · rintro ⟨h1, h2⟩; omega

theorem fits_iff (ok : ZOk l) {L : List Zon} (hL : ZList l L) {fit : Bool} {a b : Int} (hf : FTold L fit a b) : fit = true ↔ apartS l := by
  have at_ : ∀ i, i < L.length → ∃ s, spanO l (zonI L i).v = some s ∧ zonI L i = zonOf (zonI L i).v s := fun i hi => (hL.mem _).1 (by rw [zonI_at hi]; exact List.getElem_mem hi)
  have lt_ : ∀ i k, i < k → k < L.length → (zonI L i).lo < (zonI L k).lo := fun i k hik hk => by
    rw [zonI_at hk, zonI_at (Nat.lt_trans hik hk)]
    exact (List.pairwise_iff_getElem.1 hL.sorted) i k (Nat.lt_trans hik hk) hk hik
  have noC : (∀ i k, i < k → k < L.length → clashZ (zonI L i) (zonI L k) = false) ↔ apartS l := by
    constructor
    · intro h u v s t hne hu hv hm
      have hz1 : zonOf u s ∈ L := (hL.mem _).2 ⟨s, hu, rfl⟩
      have hz2 : zonOf v t ∈ L := (hL.mem _).2 ⟨t, hv, rfl⟩
      obtain ⟨i, hi, e1⟩ := List.getElem_of_mem hz1
      obtain ⟨k, hk, e2⟩ := List.getElem_of_mem hz2
      have e1' : zonI L i = zonOf u s := by rw [zonI_at hi]; exact e1
      have e2' : zonI L k = zonOf v t := by rw [zonI_at hk]; exact e2
      rcases Nat.lt_trichotomy i k with hlt | heq | hgt
      · have := h i k hlt hk
        have hlo := lt_ i k hlt hk
        rw [e1', e2'] at this hlo
        rw [(clash_iff ok hu hv hlo).2 hm] at this; cases this
      · subst heq
        exact hne (congrArg Zon.v (e1'.symm.trans e2'))
      · have := h k i hgt hi
        have hlo := lt_ k i hgt hi
        rw [e1', e2'] at this hlo
        rw [(clash_iff ok hv hu hlo).2 ⟨hm.2, hm.1⟩] at this; cases this
    · intro h i k hik hk
      obtain ⟨s, hs, e1⟩ := at_ i (Nat.lt_trans hik hk)
      obtain ⟨t, ht, e2⟩ := at_ k hk
      have hlo := lt_ i k hik hk
      cases hc : clashZ (zonI L i) (zonI L k)
      · rfl
      · rw [e1, e2] at hc hlo
        have hne : (zonI L i).v ≠ (zonI L k).v := fun e => by
          have h3 := lt_ i k hik hk
          rw [e] at hs
          have := Option.some.inj (hs.symm.trans ht)
          subst this
          rw [e1, e2, e] at h3
          omega
        exact absurd ((clash_iff ok hs ht hlo).1 hc) (h _ _ s t hne hs ht)
  rcases hf with ⟨rfl, _, _, h⟩ | ⟨i, k, hik, hk, hc, _, _, rfl, _⟩
  · exact ⟨fun _ => noC.1 h, fun _ => rfl⟩
  · refine ⟨fun h => (by cases h), fun h => ?_⟩
    rw [noC.2 h i k hik hk] at hc; cases hc

/-- Zones fit just if an order can be: the two conditions. -/
theorem zone_just {n : Int} {L : List Zon} {fit : Bool} {a b : Int} (hz : ZTold l n L) (hn : n = 0 ∨ n = 8) (hc : CTold zFormB 2 l 0) (hf : n = 0 → FTold L fit a b) (h8 : n ≠ 0 → fit = false) :
    fit = true ↔ (rgI l 2).Src ∧ (rgI l 2).Apart := by
  have ok := zOk_of hc
  obtain ⟨m, hm, hz⟩ := hz
  obtain rfl := hm.one hc
  rcases hz with ⟨h0, _⟩ | ⟨_, ⟨j, hj, hd, hx⟩, rfl, _⟩ | ⟨_, hs, rfl, hL⟩
  · exact absurd rfl h0
  · rw [h8 (by decide)]
    refine ⟨fun h => (by cases h), fun ⟨h, _⟩ => ?_⟩
    rw [(src_iff ok).1 h j hj hd] at hx; cases hx
  · rw [fits_iff ok hL (hf rfl), apart_iff ok hs, src_iff ok]
    exact ⟨fun h => ⟨hs, h⟩, fun h => h.2⟩

/-! ### a queue -/

theorem rgQ_val (i : Nat) (h : (opZ l i).d = 9 ∨ (opZ l i).d = 10) : (rgI l 9).v i = valQ (opZ l i) := by
  show (if (opZ l i).d == 9 then (opZ l i).a else (opZ l i).r) = valQ (opZ l i)
  unfold valQ
  rcases h with h | h <;> simp [h]

theorem fine_iff (ok : QOk l) (hpos : ∀ i, i < l.length → 0 ≤ (opZ l i).e) : (rgI l 9).Fine ↔ ∀ c : Int, 1 ≤ c → c ≤ 4 → noBad l c := by
  have vPush : ∀ i, (opZ l i).d = 9 → (rgI l 9).v i = (opZ l i).a := fun i h => by show (if (opZ l i).d == 9 then (opZ l i).a else (opZ l i).r) = _; simp [h]
  have vPop : ∀ i, (opZ l i).d = 10 → (rgI l 9).v i = (opZ l i).r := fun i h => by show (if (opZ l i).d == 9 then (opZ l i).a else (opZ l i).r) = _; simp [h]
  have isPop : ∀ i, i < l.length → (rgI l 9).w i = false → (opZ l i).d = 10 := fun i hi h => by
    rw [rgI_nw] at h
    rcases ok.kind i hi with h' | h' <;> omega
  have bef : ∀ i k, i < l.length → (beforeB (opZ l i) (opZ l k) = true ↔ (opZ l i).e < (opZ l k).c) := fun i k hi => by
    have := hpos i hi
    unfold beforeB
    simp; omega
  constructor
  · intro h c h1 h4 i k hi hk hb
    unfold badP at hb
    split at hb
    · obtain ⟨rfl, hd, hn⟩ := hb
      obtain ⟨j, hj, hw, hv⟩ := h.thin i hi ((rgI_nw i 9).2 (by omega))
      rw [rgI_w] at hw
      rw [vPush j hw, vPop i hd] at hv
      exact hn j hj ⟨hw, hv⟩
    · split at hb
      · obtain ⟨hik, hd, hd', hr⟩ := hb
        have := h.twice i k hi hk ((rgI_nw i 9).2 (by omega)) ((rgI_nw k 9).2 (by omega)) (by rw [vPop i hd, vPop k hd']; exact hr)
        omega
      · split at hb
        · obtain ⟨hd, hd', hr, hbf⟩ := hb
          exact h.early k i hk hi ((rgI_nw k 9).2 (by omega)) ((rgI_w i 9).2 hd) (by rw [vPop k hd', vPush i hd]; exact hr) ((bef k i hk).1 hbf)
        · obtain ⟨hd, hd', hbf, q, hq, pq, hlast, hx⟩ := hb
          obtain ⟨x, hx1, hx2, hx3, hx4⟩ := h.crossed i k q hi hk hq ((rgI_w i 9).2 hd) ((rgI_w k 9).2 hd') ((rgI_nw q 9).2 (by have := pq.1; omega)) (by rw [vPop q pq.1, vPush k hd']; exact pq.2) ((bef i k hi).1 hbf)
          have dx := isPop x hx1 hx2
          rw [vPop x dx, vPush i hd] at hx3
          rcases hx with hx | ⟨x', hx', px', _, hb'⟩
          · exact hx x hx1 ⟨dx, hx3⟩
          · have e : x = x' := h.twice x x' hx1 hx' hx2 ((rgI_nw x' 9).2 (by have := px'.1; omega)) (by rw [vPop x dx, vPop x' px'.1, hx3, px'.2])
            subst e
            exact hx4 ((bef q x hq).1 hb')
  · intro h
    have tw : ∀ i k, i < l.length → k < l.length → (opZ l i).d = 10 → (opZ l k).d = 10 → (opZ l i).r = (opZ l k).r → i = k := fun i k hi hk d1 d2 e => by
      have hne : ∀ i k, i < l.length → k < l.length → (opZ l i).d = 10 → (opZ l k).d = 10 → (opZ l i).r = (opZ l k).r → ¬ i < k := fun i k hi hk d1 d2 e hik => by
        refine h 2 (by decide) (by decide) i k hi hk ?_
        unfold badP
        rw [if_neg (by decide), if_pos rfl]
        exact ⟨hik, d1, d2, e⟩
      have := hne i k hi hk d1 d2 e
      have := hne k i hk hi d2 d1 e.symm
      omega
    refine ⟨fun i hi hw => ?_, fun i k hi hk hw hw' e => ?_, fun i j hi hj hw hw' e hb => ?_, fun a b q ha hb hq wa wb wq e hab => ?_⟩
    · have hd := isPop i hi hw
      refine Classical.byContradiction fun hn => h 1 (by decide) (by decide) i i hi hi ?_
      unfold badP
      rw [if_pos rfl]
      refine ⟨rfl, hd, fun j hj hp => hn ⟨j, hj, (rgI_w j 9).2 hp.1, ?_⟩⟩
      rw [vPush j hp.1, vPop i hd]; exact hp.2
    · have d1 := isPop i hi hw
      have d2 := isPop k hk hw'
      rw [vPop i d1, vPop k d2] at e
      exact tw i k hi hk d1 d2 e
    · have d1 := isPop i hi hw
      rw [rgI_w] at hw'
      rw [vPop i d1, vPush j hw'] at e
      refine h 3 (by decide) (by decide) j i hj hi ?_
      unfold badP
      rw [if_neg (by decide), if_neg (by decide), if_pos rfl]
      exact ⟨hw', d1, e, (bef i j hi).2 hb⟩
    · rw [rgI_w] at wa wb
      have dq := isPop q hq wq
      rw [vPop q dq, vPush b wb] at e
      refine Classical.byContradiction fun hn => h 4 (by decide) (by decide) a b ha hb ?_
      unfold badP
      rw [if_neg (by decide), if_neg (by decide), if_neg (by decide)]
      refine ⟨wa, wb, (bef a b ha).2 hab, q, hq, ⟨dq, e⟩, fun m hm hqm hp => ?_, ?_⟩
      · have := tw q m hq hm dq hp.1 (e.trans hp.2.symm); omega
      · by_cases hx : ∃ x, x < l.length ∧ PopOf l (opZ l a).a x
        · obtain ⟨x, hx, px⟩ := hx
          refine .inr ⟨x, hx, px, fun m hm hxm hp => ?_, ?_⟩
          · have := tw x m hx hm px.1 hp.1 (px.2.trans hp.2.symm); omega
          · refine (bef q x hq).2 ?_
            refine Classical.byContradiction fun hc => hn ⟨x, hx, (rgI_nw x 9).2 (by have := px.1; omega), ?_, hc⟩
            rw [vPop x px.1, vPush a wa]; exact px.2
        · exact .inl fun x hx' px => hx ⟨x, hx', px⟩

theorem finds_zero {c a b : Int} (h : FindsT l c a b) : c = 0 ↔ ∀ c : Int, 1 ≤ c → c ≤ 4 → noBad l c := by
  rcases h with ⟨rfl, _, _, h⟩ | ⟨h1, h4, _, i, k, hi, hk, _, _, hb, _⟩
  · exact ⟨fun _ => h, fun _ => rfl⟩
  · exact ⟨fun e => by omega, fun h => absurd hb (h c h1 h4 i k hi hk)⟩

end

end Go.Proofs.YtelndpbkheoeaaaDoor
