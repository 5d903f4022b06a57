/-
  What an order shows of a register's ops, and of a queue's, by their values and times alone: there is an order just if the conditions of Gibbons and Korach are kept, or none of a queue's four is found.
-/
import Derived.Test.YtfojmbbhcmeejaaDoorRefUZ
import Derived.Test.YtfojmbbhcmeejaaDoorGkPZ
namespace Go.Proofs.YtfojmbbhcmeejaaDoor

/-- Ops as values and times: d is the kind of those who bring a value. -/
def rgOf (ops : List Opn) (d : Int) : Rg where
  n := ops.length
  c := fun i => (opN ops i).c
  e := fun i => (opN ops i).e
  w := fun i => (opN ops i).d == d
  v := fun i => if (opN ops i).d == d then (opN ops i).a else (opN ops i).r

theorem perm_of_shows {o : Int} {ops : List Opn} {ord : List Nat} (h : ShowsM o ops (iL ord)) (he : ∀ i, i < ops.length → 0 ≤ (opN ops i).e) : ord.Perm (List.range ops.length) := by
  have honce : ord.Nodup := by
    have := h.once
    unfold iL at this
    exact (List.pairwise_map.1 this).imp (fun hab e => hab (by rw [e]))
  refine (List.perm_ext_iff_of_nodup honce List.nodup_range).2 fun n => ⟨fun hn => ?_, fun hn => ?_⟩
  · have := (h.range (n : Int) (List.mem_map.2 ⟨n, hn, rfl⟩)).2
    exact List.mem_range.2 (by omega)
  · have hn := List.mem_range.1 hn
    obtain ⟨m, hm, e⟩ := List.mem_map.1 (h.whole n hn (he n hn))
    have : m = n := by omega
    rw [← this]; exact hm

theorem time_of_shows {o : Int} {ops : List Opn} {ord : List Nat} (h : ShowsM o ops (iL ord)) (he : ∀ i, i < ops.length → 0 ≤ (opN ops i).e) {p q : Nat} (hpq : p < q) (hq : q < ord.length) :
    ¬ (opN ops ord[q]).e < (opN ops (ord[p]'(Nat.lt_trans hpq hq))).c := by
  intro hb
  have := h.timely q (by rw [iL_length]; exact hq) p hpq
  simp only [iL, List.getElem_map, opI, Int.toNat_natCast] at this
  have hl : ord[q] < ops.length := by
    have := (h.range (ord[q] : Int) (List.mem_map.2 ⟨_, List.getElem_mem hq, rfl⟩)).2; omega
  have h0 := he _ hl
  simp [beforeB, h0, hb] at this

theorem shows_of {o : Int} {ops : List Opn} {ord : List Nat} (hp : ord.Perm (List.range ops.length)) (ht : ∀ p q, (hpq : p < q) → (hq : q < ord.length) → ¬ (opN ops ord[q]).e < (opN ops (ord[p]'(Nat.lt_trans hpq hq))).c)
    (hf : ∀ j, j < ord.length → fineAt o ops (iL ord) j = true) : ShowsM o ops (iL ord) where
  range := by
    intro n hn
    obtain ⟨m, hm, rfl⟩ := List.mem_map.1 hn
    have := List.mem_range.1 (hp.mem_iff.1 hm)
    exact ⟨by omega, by omega⟩
  once := by
    have : ord.Nodup := hp.nodup_iff.2 List.nodup_range
    unfold iL
    exact List.Pairwise.map _ (fun a b hab e => hab (by omega)) this
  whole := fun n hn _ => List.mem_map.2 ⟨n, hp.mem_iff.2 (List.mem_range.2 hn), rfl⟩
  timely := by
    intro j hj i hi
    have hj' : j < ord.length := by rw [iL_length] at hj; exact hj
    have := ht i j hi hj'
    simp only [iL, List.getElem_map, opI, Int.toNat_natCast]
    simp [beforeB, this]
  fine := fun j hj => hf j (by rw [iL_length] at hj; exact hj)

theorem at_of {ops : List Opn} {ord : List Nat} {p : Nat} (hp : p < ord.length) (hl : ord[p] < ops.length) : ((iL ord)[p]?).bind (opOf ops) = some (opN ops ord[p]) := by
  rw [iL_get hp]; exact opOf_nat hl

/-! ### a register -/

structure RegOps (ops : List Opn) (k0 : Int) : Prop where
  key : ∀ i, i < ops.length → (opN ops i).k = k0
  kind : ∀ i, i < ops.length → (opN ops i).d = 1 ∨ (opN ops i).d = 2
  back : ∀ i, i < ops.length → 0 ≤ (opN ops i).e
  zero : ∀ i, i < ops.length → (opN ops i).d = 2 → (opN ops i).r = 0

theorem reg_step {ops : List Opn} {k0 : Int} (hr : RegOps ops k0) {ord : List Nat} {p : Nat} (hp : p < ord.length) (hl : ord[p] < ops.length)
    (hs : sAt 1 ops (iL ord) p k0 = [(rgOf ops 2).at ord p]) :
    (fineAt 1 ops (iL ord) p = true ↔ ((rgOf ops 2).w (ord.getD p 0) = false → (rgOf ops 2).v (ord.getD p 0) = (rgOf ops 2).at ord p)) ∧
    (fineAt 1 ops (iL ord) p = true → sAt 1 ops (iL ord) (p + 1) k0 = [(rgOf ops 2).at ord (p + 1)]) := by
  have hat := at_of hp hl
  have hg : ord.getD p 0 = ord[p] := by rw [List.getD_eq_getElem?_getD, List.getElem?_eq_getElem hp]; rfl
  rw [fineAt_some hat, sAt_succ hat, hg]
  have hk := hr.key _ hl
  have hb := hr.back _ hl
  have hz := hr.zero _ hl
  have hn : (rgOf ops 2).at ord (p + 1) = (rgOf ops 2).v ord[p] := by simp only [Rg.at, hg]
  rw [hn]
  simp only [rgOf, opFine, after, hk, hs]
  rcases hr.kind _ hl with hd | hd
  · have e : stepM 1 [(rgOf ops 2).at ord p] (opN ops ord[p]).d (opN ops ord[p]).a (opN ops ord[p]).b = some ([(rgOf ops 2).at ord p], (rgOf ops 2).at ord p) := by
      rw [stepM_reg (by rw [hd]; decide), hd]; simp [regM]
    rw [show (rgOf ops 2).at ord p = (Rg.at { n := ops.length, c := fun i => (opN ops i).c, e := fun i => (opN ops i).e, w := fun i => (opN ops i).d == 2, v := fun i => if (opN ops i).d == 2 then (opN ops i).a else (opN ops i).r } ord p) from rfl] at e
    rw [e]
    have hneg : ¬ (opN ops ord[p]).e < 0 := by omega
    simp [hd, hneg, setK_same]
    exact fun h => h.symm
  · have e : ∀ x, stepM 1 [x] (opN ops ord[p]).d (opN ops ord[p]).a (opN ops ord[p]).b = some ([(opN ops ord[p]).a], 0) := fun x => by
      rw [stepM_reg (by rw [hd]; decide), hd]; simp [regM]
    rw [e]
    simp [hd, hz hd, setK_same]

theorem reg_shows {ops : List Opn} {k0 : Int} (hr : RegOps ops k0) (ok : (rgOf ops 2).Ok) : (∃ ord, ShowsM 1 ops (iL ord)) ↔ (rgOf ops 2).Src ∧ (rgOf ops 2).Apart := by
  have hgd : ∀ {ord : List Nat} {p : Nat} (hp : p < ord.length), ord.getD p 0 = ord[p] := fun hp => by rw [List.getD_eq_getElem?_getD, List.getElem?_eq_getElem hp]; rfl
  constructor
  · rintro ⟨ord, h⟩
    have hp := perm_of_shows h hr.back
    have hl : ∀ p, (hpl : p < ord.length) → ord[p] < ops.length := fun p hpl => List.mem_range.1 (hp.mem_iff.1 (List.getElem_mem hpl))
    have hs : ∀ p, p ≤ ord.length → sAt 1 ops (iL ord) p k0 = [(rgOf ops 2).at ord p] := by
      intro p
      induction p with
      | zero => intro _; rfl
      | succ p ih =>
        intro hpl
        have hpl : p < ord.length := by omega
        exact (reg_step hr hpl (hl p hpl) (ih (by omega))).2 (h.fine p (by rw [iL_length]; exact hpl))
    refine gk_only ok (ord := ord) ⟨hp, ?_, ?_⟩
    · intro p q hpq hq
      rw [hgd hq, hgd (Nat.lt_trans hpq hq)]
      exact time_of_shows h hr.back hpq hq
    · intro p hpl
      exact (reg_step hr hpl (hl p hpl) (hs p (by omega))).1.1 (h.fine p (by rw [iL_length]; exact hpl))
  · rintro ⟨h1, h2⟩
    obtain ⟨ord, h⟩ := gk_if ok h1 h2
    have hl : ∀ p, (hpl : p < ord.length) → ord[p] < ops.length := fun p hpl => List.mem_range.1 (h.perm.mem_iff.1 (List.getElem_mem hpl))
    have hs : ∀ p, p ≤ ord.length → sAt 1 ops (iL ord) p k0 = [(rgOf ops 2).at ord p] := by
      intro p
      induction p with
      | zero => intro _; rfl
      | succ p ih =>
        intro hpl
        have hpl : p < ord.length := by omega
        have := reg_step hr hpl (hl p hpl) (ih (by omega))
        exact this.2 (this.1.2 (h.last p hpl))
    refine ⟨ord, shows_of h.perm ?_ ?_⟩
    · intro p q hpq hq
      have := h.time p q hpq hq
      rwa [hgd hq, hgd (Nat.lt_trans hpq hq)] at this
    · intro p hpl
      exact (reg_step hr hpl (hl p hpl) (hs p (by omega))).1.2 (h.last p hpl)

/-! ### a queue -/

structure QueOps (ops : List Opn) (k0 : Int) : Prop where
  key : ∀ i, i < ops.length → (opN ops i).k = k0
  kind : ∀ i, i < ops.length → (opN ops i).d = 9 ∨ (opN ops i).d = 10
  back : ∀ i, i < ops.length → 0 ≤ (opN ops i).e
  zero : ∀ i, i < ops.length → (opN ops i).d = 9 → (opN ops i).r = 0
  full : ∀ i, i < ops.length → (opN ops i).d = 10 → (opN ops i).r ≠ -1

theorem que_step {ops : List Opn} {k0 : Int} (hr : QueOps ops k0) {ord : List Nat} {p : Nat} {st : List Int} (hp : p < ord.length) (hl : ord[p] < ops.length)
    (hs : sAt 4 ops (iL ord) p k0 = st) :
    ((rgOf ops 9).w ord[p] = true → fineAt 4 ops (iL ord) p = true ∧ sAt 4 ops (iL ord) (p + 1) k0 = st ++ [(rgOf ops 9).v ord[p]]) ∧
    ((rgOf ops 9).w ord[p] = false → (fineAt 4 ops (iL ord) p = true ↔ ∃ s, st = (rgOf ops 9).v ord[p] :: s) ∧ ∀ s, st = (rgOf ops 9).v ord[p] :: s → sAt 4 ops (iL ord) (p + 1) k0 = s) := by
  have hat := at_of hp hl
  rw [fineAt_some hat, sAt_succ hat]
  have hk := hr.key _ hl
  have hb := hr.back _ hl
  have hneg : ¬ (opN ops ord[p]).e < 0 := by omega
  simp only [rgOf, opFine, after, hk, hs]
  rcases hr.kind _ hl with hd | hd
  · have hz := hr.zero _ hl hd
    rw [stepM_que (by rw [hd]; decide), hd]
    simp [queM, hz, setK_same]
  · have hf := hr.full _ hl hd
    rw [stepM_que (by rw [hd]; decide), hd]
    cases st with
    | nil => simp [queM, hneg, hf]
    | cons x s =>
      simp only [queM, hneg, setK_same]
      simp
      exact ⟨fun h => h.symm, fun h => h.symm⟩

theorem fifo_snoc {g : Rg} {l : List Nat} {i : Nat} {st : List Int} (h : g.Fifo (l ++ [i]) st) : (g.w i = true ∧ ∃ s, g.Fifo l s ∧ st = s ++ [g.v i]) ∨ (g.w i = false ∧ g.Fifo l (g.v i :: st)) := by
  generalize hx : l ++ [i] = x at h
  cases h with
  | nil => simp at hx
  | @push l' s j h hw =>
    obtain ⟨rfl, e⟩ := List.append_inj' hx rfl
    cases e
    exact .inl ⟨hw, s, h, rfl⟩
  | @pop l' s j h hw =>
    obtain ⟨rfl, e⟩ := List.append_inj' hx rfl
    cases e
    exact .inr ⟨hw, h⟩

theorem que_shows {ops : List Opn} {k0 : Int} (hr : QueOps ops k0) (ok : (rgOf ops 9).QOk) : (∃ ord, ShowsM 4 ops (iL ord)) ↔ (rgOf ops 9).Fine := by
  constructor
  · rintro ⟨ord, h⟩
    have hp := perm_of_shows h hr.back
    have hl : ∀ p, (hpl : p < ord.length) → ord[p] < ops.length := fun p hpl => List.mem_range.1 (hp.mem_iff.1 (List.getElem_mem hpl))
    have hs : ∀ p, p ≤ ord.length → (rgOf ops 9).Fifo (ord.take p) (sAt 4 ops (iL ord) p k0) := by
      intro p
      induction p with
      | zero => intro _; exact .nil
      | succ p ih =>
        intro hpl
        have hpl : p < ord.length := by omega
        have ih := ih (by omega)
        have hst := que_step hr hpl (hl p hpl) rfl
        have hfi := h.fine p (by rw [iL_length]; exact hpl)
        rw [← List.take_append_getElem hpl]
        cases hw : (rgOf ops 9).w ord[p] with
        | true => rw [(hst.1 hw).2]; exact .push ih hw
        | false =>
          obtain ⟨s, e⟩ := (hst.2 hw).1.1 hfi
          rw [(hst.2 hw).2 s e]
          rw [e] at ih
          exact .pop ih hw
    refine qu_only ok (ord := ord) ⟨hp, ?_, sAt 4 ops (iL ord) ord.length k0, ?_⟩
    · exact fun p q hpq hq => time_of_shows h hr.back hpq hq
    · have := hs ord.length (Nat.le_refl _)
      rwa [List.take_of_length_le (Nat.le_refl _)] at this
  · intro hf
    obtain ⟨ord, h⟩ := qu_if ok hf
    have hl : ∀ p, (hpl : p < ord.length) → ord[p] < ops.length := fun p hpl => List.mem_range.1 (h.perm.mem_iff.1 (List.getElem_mem hpl))
    obtain ⟨st, hfi⟩ := h.fifo
    have hs : ∀ p, p ≤ ord.length → ∀ s, (rgOf ops 9).Fifo (ord.take p) s → sAt 4 ops (iL ord) p k0 = s ∧ ∀ j, j < p → fineAt 4 ops (iL ord) j = true := by
      intro p
      induction p with
      | zero =>
        intro _ s hs
        have := fifo_sum hs
        simp [Rg.ins, Rg.outs] at this
        exact ⟨by rw [this]; rfl, fun j hj => by omega⟩
      | succ p ih =>
        intro hpl s hs
        have hpl : p < ord.length := by omega
        rw [← List.take_append_getElem hpl] at hs
        rcases fifo_snoc hs with ⟨hw, s0, h0, rfl⟩ | ⟨hw, h0⟩
        · obtain ⟨e, hfs⟩ := ih (by omega) _ h0
          have hst := (que_step hr hpl (hl p hpl) e).1 hw
          refine ⟨hst.2, fun j hj => ?_⟩
          by_cases ej : j = p
          · rw [ej]; exact hst.1
          · exact hfs j (by omega)
        · obtain ⟨e, hfs⟩ := ih (by omega) _ h0
          have hst := (que_step hr hpl (hl p hpl) e).2 hw
          refine ⟨hst.2 _ rfl, fun j hj => ?_⟩
          by_cases ej : j = p
          · rw [ej]; exact hst.1.2 ⟨_, rfl⟩
          · exact hfs j (by omega)
    refine ⟨ord, shows_of h.perm (fun p q hpq hq => h.time p q hpq hq) ?_⟩
    exact (hs ord.length (Nat.le_refl _) st (by rw [List.take_of_length_le (Nat.le_refl _)]; exact hfi)).2

end Go.Proofs.YtfojmbbhcmeejaaDoor
