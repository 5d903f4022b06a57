/-
  Chapter 13 in plain Lean: transactions that go on under locks; each round brings them further, so all are over at last.
  Chapter 13 in plain Lean: what is kept while transactions go on under locks: two phases.
  Chapter 13.1 in plain Lean: what is wrong with a plan.
  Chapter 13 in plain Lean: how much a step brings; rounds, counted.
-/
import Derived.Test.YthmiocbihhbdpaaDoorCsPZ
import Derived.Test.YthmiocbihhbdpaaDoorGhPZ
namespace Go.Proofs.YthmiocbihhbdpaaDoor

def upd {α : Type} (f : Nat → α) (t : Nat) (x : α) : Nat → α := fun k => if k = t then x else f k
theorem upd_same {α : Type} (f : Nat → α) (t : Nat) (x : α) : upd f t x t = x := if_pos rfl
theorem upd_ne {α : Type} (f : Nat → α) {t k : Nat} (x : α) (h : k ≠ t) : upd f t x k = f k := if_neg h
/-- What was done, who is over, how far each one is, who waits for whom, how often each one waited, who was ended. -/
structure LkS where
  done : List Stp
  ov : Nat → Bool
  pos : Nat → Nat
  wt : Nat → Nat → Bool
  cnt : Nat → Nat
  vic : List Nat
def lk0 : LkS := ⟨[], fun _ => false, fun _ => 0, fun _ _ => false, fun _ => 0, []⟩
def plN (p : List (List Stp)) (t : Nat) : List Stp := p.getD t []
/-- Does what was done stand against a step? -/
def agB (d s : Stp) : Bool := d.m == s.m && decide (d.k < 3) && decide (2 < d.k + s.k)
/-- Does another one, not over, stand against it? -/
def agst (st : LkS) (t : Nat) (s : Stp) (u : Nat) : Bool := st.done.any fun d => d.p == (u : Int) && (decide (u ≠ t) && !st.ov u) && agB d s
def endS (st : LkS) (t : Nat) (kd : Int) : LkS := { st with done := st.done ++ [⟨(t : Int), kd, 0⟩], ov := upd st.ov t true, wt := upd st.wt t fun _ => false }
def doS (st : LkS) (t : Nat) (s : Stp) : LkS := { st with done := st.done ++ [s], pos := upd st.pos t (st.pos t + 1), wt := upd st.wt t fun _ => false }
def waS (st : LkS) (t : Nat) (s : Stp) : LkS := { st with wt := upd st.wt t (agst st t s), cnt := upd st.cnt t (st.cnt t + 1) }
def viS (st : LkS) (v : Nat) : LkS := endS { st with vic := st.vic ++ [v] } v 4
/-- The next step of one. -/
def nxS (p : List (List Stp)) (st : LkS) (t : Nat) : Stp := stZ (plN p t) (st.pos t)
def onB (st : LkS) (n t v : Nat) : Bool := war st.wt n t v && war st.wt n v t
/-- One goes on. -/
def goS (p : List (List Stp)) (n : Nat) (st : LkS) (t : Nat) : LkS :=
  if st.ov t = true then st
  else if st.pos t = (plN p t).length then endS st t 3
  else if (List.range n).any (agst st t (nxS p st t)) = false then doS st t (nxS p st t)
  else if war (waS st t (nxS p st t)).wt n t t = true then
    match lastN (onB (waS st t (nxS p st t)) n t) n with
    | some v => viS (waS st t (nxS p st t)) v
    | none => waS st t (nxS p st t)
  else waS st t (nxS p st t)
/-- All go on, in order. -/
def rnS (p : List (List Stp)) (n : Nat) (st : LkS) : LkS := (List.range n).foldl (goS p n) st
def allO (n : Nat) (st : LkS) : Bool := (List.range n).all st.ov
def plS (p : List (List Stp)) (n : Nat) : Nat → LkS → LkS
  | 0, st => st
  | f + 1, st => if allO n st = true then st else plS p n f (rnS p n st)
def lefT (p : List (List Stp)) (st : LkS) (t : Nat) : Nat := if st.ov t = true then 0 else (plN p t).length - st.pos t + 1
def sumN (f : Nat → Nat) : Nat → Nat
  | 0 => 0
  | n + 1 => sumN f n + f n
theorem sumN_le {f g : Nat → Nat} : ∀ {n : Nat}, (∀ i, i < n → f i ≤ g i) → sumN f n ≤ sumN g n
  | 0, _ => Nat.le_refl _
  | n + 1, h => Nat.add_le_add (sumN_le fun i hi => h i (by omega)) (h n (by omega))
theorem sumN_lt {f g : Nat → Nat} : ∀ {n : Nat}, (∀ i, i < n → f i ≤ g i) → ∀ {k : Nat}, k < n → f k < g k → sumN f n < sumN g n
  | n + 1, h, k, hk, hl => by
    unfold sumN
    by_cases e : k = n
    · subst e
      have := sumN_le (f := f) (g := g) (n := k) fun i hi => h i (by omega)
      omega
    · have h1 := sumN_lt (n := n) (fun i hi => h i (by omega)) (k := k) (by omega) hl
      have h2 := h n (by omega)
      omega
/-- How much is left. -/
def lefN (p : List (List Stp)) (n : Nat) (st : LkS) : Nat := sumN (lefT p st) n
/-- What one that goes on may do: nothing that counts, or something. -/
def Idl (p : List (List Stp)) (n : Nat) (st : LkS) (t : Nat) : Prop :=
  (st.ov t = true ∧ goS p n st t = st) ∨
  (st.ov t = false ∧ st.pos t ≠ (plN p t).length ∧ (List.range n).any (agst st t (nxS p st t)) = true ∧ war (waS st t (nxS p st t)).wt n t t = false ∧ goS p n st t = waS st t (nxS p st t))
/-- The places are below the ends. -/
def PosOk (p : List (List Stp)) (st : LkS) : Prop := ∀ t, st.pos t ≤ (plN p t).length
theorem lastN_is {f : Nat → Bool} {n m : Nat} (hm : m < n) (h : f m = true) : ∃ v, lastN f n = some v := by
  cases e : lastN f n with
  | some v => exact ⟨v, rfl⟩
  | none => rw [lastN_none e m hm] at h; cases h
theorem go_cases {p : List (List Stp)} {n : Nat} {st : LkS} {t : Nat} (ht : t < n) :
    Idl p n st t ∨ (st.ov t = false ∧ ((st.pos t = (plN p t).length ∧ goS p n st t = endS st t 3) ∨
      (st.pos t ≠ (plN p t).length ∧ (List.range n).any (agst st t (nxS p st t)) = false ∧ goS p n st t = doS st t (nxS p st t)) ∨
      (st.pos t ≠ (plN p t).length ∧ (List.range n).any (agst st t (nxS p st t)) = true ∧ ∃ v, v < n ∧ war (waS st t (nxS p st t)).wt n v t = true ∧ war (waS st t (nxS p st t)).wt n t v = true ∧ lastN (onB (waS st t (nxS p st t)) n t) n = some v ∧ goS p n st t = viS (waS st t (nxS p st t)) v))) := by
  cases ho : st.ov t
  · by_cases hp : st.pos t = (plN p t).length
    · refine .inr ⟨rfl, .inl ⟨hp, ?_⟩⟩
      unfold goS
      rw [if_neg (by rw [ho]; simp), if_pos hp]
    · cases ha : (List.range n).any (agst st t (nxS p st t))
      · refine .inr ⟨rfl, .inr (.inl ⟨hp, rfl, ?_⟩)⟩
        unfold goS
        rw [if_neg (by rw [ho]; simp), if_neg hp, if_pos ha]
      · cases hw : war (waS st t (nxS p st t)).wt n t t
        · refine .inl (.inr ⟨ho, hp, ha, hw, ?_⟩)
          unfold goS
          rw [if_neg (by rw [ho]; simp), if_neg hp, if_neg (by rw [ha]; simp), if_neg (by rw [hw]; simp)]
        · obtain ⟨v, hv⟩ := lastN_is (f := onB (waS st t (nxS p st t)) n t) ht (by unfold onB; rw [hw]; rfl)
          obtain ⟨hvn, hvb, _⟩ := lastN_some hv
          unfold onB at hvb
          rw [Bool.and_eq_true] at hvb
          refine .inr ⟨rfl, .inr (.inr ⟨hp, rfl, v, hvn, hvb.2, hvb.1, hv, ?_⟩)⟩
          unfold goS
          rw [if_neg (by rw [ho]; simp), if_neg hp, if_neg (by rw [ha]; simp), if_pos hw, hv]
  · refine .inl (.inl ⟨ho, ?_⟩)
    unfold goS
    rw [if_pos ho]
/-- Who waits, and is waited for, is not over. -/
structure WtOk (n : Nat) (st : LkS) : Prop where
  no : ∀ t, st.ov t = true → ∀ u, st.wt t u = false
theorem way_from {R : Nat → Nat → Bool} {n i k : Nat} (h : Way R n i k) : ∃ j, R i j = true := by
  induction h with
  | one _ _ h => exact ⟨_, h⟩
  | more _ _ _ ih => exact ih
theorem WtOk.wa {n : Nat} {st : LkS} (h : WtOk n st) {t : Nat} (ht : st.ov t = false) (s : Stp) : WtOk n (waS st t s) := ⟨fun u hu k => by
  have hu' : st.ov u = true := hu
  have hne : u ≠ t := fun e => by rw [e, ht] at hu'; cases hu'
  show upd st.wt t _ u k = false
  rw [upd_ne _ _ hne]
  exact h.no u hu' k⟩
theorem WtOk.en {n : Nat} {st : LkS} (h : WtOk n st) (t : Nat) (kd : Int) : WtOk n (endS st t kd) := ⟨fun u hu k => by
  show upd st.wt t _ u k = false
  by_cases e : u = t
  · rw [e, upd_same]
  · rw [upd_ne _ _ e]
    have hu' : upd st.ov t true u = true := hu
    rw [upd_ne _ _ e] at hu'
    exact h.no u hu' k⟩
theorem WtOk.dn {n : Nat} {st : LkS} (h : WtOk n st) (t : Nat) (s : Stp) : WtOk n (doS st t s) := ⟨fun u hu k => by
  show upd st.wt t _ u k = false
  by_cases e : u = t
  · rw [e, upd_same]
  · rw [upd_ne _ _ e]
    exact h.no u hu k⟩
theorem WtOk.vi {n : Nat} {st : LkS} (h : WtOk n st) (v : Nat) : WtOk n (viS st v) := WtOk.en (st := { st with vic := st.vic ++ [v] }) ⟨h.no⟩ v 4
/-- Who is ended was not over. -/
theorem vi_open {p : List (List Stp)} {n : Nat} {st : LkS} (h : WtOk n st) {t v : Nat} (ht : t < n) (hv : v < n) (ho : st.ov t = false) (hw : war (waS st t (nxS p st t)).wt n v t = true) : st.ov v = false := by
  cases e : st.ov v
  · rfl
  · obtain ⟨j, hj⟩ := way_from ((war_iff hv ht).1 hw)
    rw [(h.wa ho _).no v e j] at hj
    cases hj
theorem go_ok {p : List (List Stp)} {n : Nat} {st : LkS} {t : Nat} (ht : t < n) (h : WtOk n st) (hp : PosOk p st) :
    WtOk n (goS p n st t) ∧ PosOk p (goS p n st t) ∧ (∀ u, lefT p (goS p n st t) u ≤ lefT p st u) ∧ (Idl p n st t ∨ ∃ u, u < n ∧ lefT p (goS p n st t) u < lefT p st u) := by
  rcases go_cases (p := p) (n := n) (st := st) ht with hi | ⟨ho, ⟨hl, e⟩ | ⟨hl, ha, e⟩ | ⟨hl, ha, v, hv, hw, _, _, e⟩⟩
  · rcases hi with ⟨ho, e⟩ | ⟨ho, hl, ha, hw, e⟩
    · have hI : Idl p n st t := .inl ⟨ho, e⟩
      rw [e]
      exact ⟨h, hp, fun u => Nat.le_refl _, .inl hI⟩
    · have hI : Idl p n st t := .inr ⟨ho, hl, ha, hw, e⟩
      rw [e]
      exact ⟨h.wa ho _, hp, fun u => Nat.le_refl _, .inl hI⟩
  · rw [e]
    have hle : ∀ u, lefT p (endS st t 3) u ≤ lefT p st u := fun u => by
      show (if upd st.ov t true u = true then 0 else (plN p u).length - st.pos u + 1) ≤ _
      by_cases eu : u = t
      · rw [eu, upd_same, if_pos rfl]; exact Nat.zero_le _
      · rw [upd_ne _ _ eu]; exact Nat.le_refl _
    refine ⟨h.en t 3, hp, hle, .inr ⟨t, ht, ?_⟩⟩
    show (if upd st.ov t true t = true then 0 else (plN p t).length - st.pos t + 1) < (if st.ov t = true then 0 else (plN p t).length - st.pos t + 1)
    rw [upd_same, if_pos rfl, ho, if_neg (by simp)]
    omega
  · rw [e]
    have hlt : st.pos t < (plN p t).length := by have := hp t; omega
    have hle : ∀ u, lefT p (doS st t (nxS p st t)) u ≤ lefT p st u := fun u => by
      show (if st.ov u = true then 0 else (plN p u).length - upd st.pos t (st.pos t + 1) u + 1) ≤ (if st.ov u = true then 0 else (plN p u).length - st.pos u + 1)
      by_cases eu : u = t
      · rw [eu, upd_same]
        split
        · exact Nat.le_refl _
        · omega
      · rw [upd_ne _ _ eu]; exact Nat.le_refl _
    refine ⟨h.dn t _, fun u => ?_, hle, .inr ⟨t, ht, ?_⟩⟩
    · show upd st.pos t (st.pos t + 1) u ≤ _
      by_cases eu : u = t
      · rw [eu, upd_same]; omega
      · rw [upd_ne _ _ eu]; exact hp u
    · show (if st.ov t = true then 0 else (plN p t).length - upd st.pos t (st.pos t + 1) t + 1) < (if st.ov t = true then 0 else (plN p t).length - st.pos t + 1)
      rw [ho, if_neg (by simp), if_neg (by simp), upd_same]
      omega
  · rw [e]
    have hov := vi_open h ht hv ho hw
    have hle : ∀ u, lefT p (viS (waS st t (nxS p st t)) v) u ≤ lefT p st u := fun u => by
      show (if upd st.ov v true u = true then 0 else (plN p u).length - st.pos u + 1) ≤ _
      by_cases eu : u = v
      · rw [eu, upd_same, if_pos rfl]; exact Nat.zero_le _
      · rw [upd_ne _ _ eu]; exact Nat.le_refl _
    refine ⟨(h.wa ho _).vi v, hp, hle, .inr ⟨v, hv, ?_⟩⟩
    show (if upd st.ov v true v = true then 0 else (plN p v).length - st.pos v + 1) < (if st.ov v = true then 0 else (plN p v).length - st.pos v + 1)
    rw [upd_same, if_pos rfl, hov, if_neg (by simp)]
    omega
/-- The first of a round. -/
def rnK (p : List (List Stp)) (n : Nat) (st : LkS) (k : Nat) : LkS := (List.range k).foldl (goS p n) st
theorem rnK_zero (p : List (List Stp)) (n : Nat) (st : LkS) : rnK p n st 0 = st := rfl
theorem rnK_succ (p : List (List Stp)) (n : Nat) (st : LkS) (k : Nat) : rnK p n st (k + 1) = goS p n (rnK p n st k) k := by
  unfold rnK
  rw [List.range_succ, List.foldl_append]
  rfl
theorem rnK_ok {p : List (List Stp)} {n : Nat} {st : LkS} (h : WtOk n st) (hp : PosOk p st) : ∀ {k : Nat}, k ≤ n → WtOk n (rnK p n st k) ∧ PosOk p (rnK p n st k) ∧ (∀ u, lefT p (rnK p n st k) u ≤ lefT p st u) ∧ ((∀ t, t < k → Idl p n (rnK p n st t) t) ∨ ∃ u, u < n ∧ lefT p (rnK p n st k) u < lefT p st u)
  | 0, _ => ⟨h, hp, fun _ => Nat.le_refl _, .inl fun t ht => absurd ht (by omega)⟩
  | k + 1, hk => by
    obtain ⟨h1, h2, h3, h4⟩ := rnK_ok h hp (k := k) (by omega)
    obtain ⟨g1, g2, g3, g4⟩ := go_ok (p := p) (t := k) (by omega) h1 h2
    rw [rnK_succ]
    refine ⟨g1, g2, fun u => Nat.le_trans (g3 u) (h3 u), ?_⟩
    rcases h4 with h4 | ⟨u, hu, h4⟩
    · rcases g4 with g4 | ⟨u, hu, g4⟩
      · refine .inl fun t ht => ?_
        by_cases e : t = k
        · subst e; exact g4
        · exact h4 t (by omega)
      · exact .inr ⟨u, hu, Nat.lt_of_lt_of_le g4 (h3 u)⟩
    · exact .inr ⟨u, hu, Nat.lt_of_le_of_lt (g3 u) h4⟩
/-- What idle ones leave. -/
theorem idl_same {p : List (List Stp)} {n : Nat} {st : LkS} {t : Nat} (h : Idl p n st t) : (goS p n st t).done = st.done ∧ (goS p n st t).ov = st.ov ∧ (goS p n st t).pos = st.pos ∧ (∀ u, u ≠ t → (goS p n st t).wt u = st.wt u) ∧
    (st.ov t = false → (goS p n st t).wt t = agst st t (nxS p st t) ∧ (List.range n).any (agst st t (nxS p st t)) = true ∧ war (goS p n st t).wt n t t = false) := by
  rcases h with ⟨ho, e⟩ | ⟨ho, _, ha, hw, e⟩
  · rw [e]
    exact ⟨rfl, rfl, rfl, fun _ _ => rfl, fun h => by rw [ho] at h; cases h⟩
  · rw [e]
    exact ⟨rfl, rfl, rfl, fun u hu => upd_ne _ _ hu, fun _ => ⟨upd_same _ _ _, ha, hw⟩⟩
/-- Where nodes lead on and on, an order can't be. -/
theorem ord_ends {g : Nat → Nat → Bool} {n : Nat} {L : List Nat} (h : ordG g n n = some L) {P : Nat → Prop} (hP : ∀ t, t < n → P t → ∃ u, u < n ∧ P u ∧ g t u = true) : ∀ t, t < n → ¬ P t := by
  obtain ⟨hl, ok⟩ := ordG_ok h
  have key : ∀ d a (ha : a < L.length), L.length - a ≤ d → ¬ P L[a] := fun d => by
    induction d with
    | zero => intro a ha hd; omega
    | succ d ih =>
      intro a ha hd hp
      obtain ⟨u, hu, hpu, hg⟩ := hP _ (ok.lt _ (List.getElem_mem ha)) hp
      obtain ⟨b, hb, rfl⟩ := idx_of_mem (full_mem hl ok.nd ok.lt hu)
      have := ord_keeps h ha hb hg
      exact ih b hb (by omega) hpu
  intro t ht hp
  obtain ⟨a, ha, rfl⟩ := idx_of_mem (full_mem hl ok.nd ok.lt ht)
  exact key _ a ha (Nat.le_refl _) hp
/-- A round that brings nobody further finds all over. -/
theorem idle_over {p : List (List Stp)} {n : Nat} {st : LkS} (hI : ∀ t, t < n → Idl p n (rnK p n st t) t) : ∀ t, t < n → st.ov t = true := by
  have same : ∀ k, k ≤ n → (rnK p n st k).done = st.done ∧ (rnK p n st k).ov = st.ov ∧ (rnK p n st k).pos = st.pos ∧ ∀ t, t < k → st.ov t = false → (rnK p n st k).wt t = agst st t (nxS p st t) ∧ (List.range n).any (agst st t (nxS p st t)) = true := fun k => by
    induction k with
    | zero => exact fun _ => ⟨rfl, rfl, rfl, fun t ht => absurd ht (by omega)⟩
    | succ k ih =>
      intro hk
      obtain ⟨i1, i2, i3, i4⟩ := ih (by omega)
      obtain ⟨s1, s2, s3, s4, s5⟩ := idl_same (hI k (by omega))
      rw [rnK_succ]
      refine ⟨s1.trans i1, s2.trans i2, s3.trans i3, fun t ht ho => ?_⟩
      have eA : agst (rnK p n st k) k (nxS p (rnK p n st k) k) = agst st k (nxS p st k) := by
        unfold agst nxS
        rw [i1, i2, i3]
      by_cases e : t = k
      · subst e
        obtain ⟨a1, a2, _⟩ := s5 (by rw [i2]; exact ho)
        rw [eA] at a1 a2
        exact ⟨a1, a2⟩
      · rw [s4 t e]
        exact i4 t (by omega) ho
  -- no way round among the first ones
  have acy : ∀ k, k ≤ n → ∀ x, ¬ Way (fun i j => (rnK p n st k).wt i j && (decide (i < k ∧ st.ov i = false) && decide (j < k))) n x x := fun k => by
    induction k with
    | zero =>
      intro _ x hx
      obtain ⟨j, hj⟩ := way_from hx
      simp at hj
    | succ k ih =>
      intro hk x hx
      obtain ⟨i1, i2, i3, i4⟩ := same k (by omega)
      obtain ⟨s1, s2, s3, s4, s5⟩ := idl_same (hI k (by omega))
      have hsub : ∀ i j, (fun i j => (rnK p n st (k + 1)).wt i j && (decide (i < k + 1 ∧ st.ov i = false) && decide (j < k + 1))) i j = true → orR (fun i j => (rnK p n st k).wt i j && (decide (i < k ∧ st.ov i = false) && decide (j < k))) (fun i j => (rnK p n st (k + 1)).wt i j && (decide (st.ov i = false) && decide (i = k ∨ j = k))) i j = true := fun i j hij => by
        simp only [Bool.and_eq_true, decide_eq_true_eq] at hij
        obtain ⟨h1, ⟨h2, h2'⟩, h3⟩ := hij
        unfold orR
        dsimp only
        by_cases ei : i = k ∨ j = k
        · rw [h1]
          simp [h2', ei]
        · have hne : i ≠ k := fun e => ei (.inl e)
          rw [rnK_succ, s4 i hne] at h1
          rw [h1]
          have a1 : i < k := by omega
          have a2 : j < k := by
            have : j ≠ k := fun e => ei (.inr e)
            omega
          simp [a1, a2, h2']
      have hx' := Way.mono hsub hx
      rcases way_or hx' with hw | ⟨a, b, hab, ha, hb, h1, h2⟩
      · exact ih (by omega) x hw
      · -- a way round over the newest one
        have hkk : Way (fun i j => (rnK p n st (k + 1)).wt i j && decide (st.ov i = false)) n k k := by
          have up : ∀ {i j}, Way (orR (fun i j => (rnK p n st k).wt i j && (decide (i < k ∧ st.ov i = false) && decide (j < k))) (fun i j => (rnK p n st (k + 1)).wt i j && (decide (st.ov i = false) && decide (i = k ∨ j = k)))) n i j → Way (fun i j => (rnK p n st (k + 1)).wt i j && decide (st.ov i = false)) n i j := fun {i j} hw => Way.mono (fun i j hij => by
            unfold orR at hij
            dsimp only at hij ⊢
            simp only [Bool.or_eq_true, Bool.and_eq_true, decide_eq_true_eq] at hij
            rcases hij with ⟨h1, ⟨h2, h2'⟩, h3⟩ | ⟨h1, h2, _⟩
            · have hne : i ≠ k := by omega
              rw [rnK_succ, s4 i hne, h1]
              simp [h2']
            · rw [h1]
              simp [h2]) hw
          simp only [Bool.and_eq_true, decide_eq_true_eq] at hab
          obtain ⟨e1, e2, e3⟩ := hab
          have hedge : Way (fun i j => (rnK p n st (k + 1)).wt i j && decide (st.ov i = false)) n a b := .one ha hb (by simp [e1, e2])
          have back : b = a ∨ Way (fun i j => (rnK p n st (k + 1)).wt i j && decide (st.ov i = false)) n b a := by
            rcases h2 with rfl | h2
            · rcases h1 with rfl | h1
              · exact .inl rfl
              · exact .inr (up h1)
            · rcases h1 with rfl | h1
              · exact .inr (up h2)
              · exact .inr ((up h2).trans (up h1))
          rcases e3 with rfl | rfl
          · rcases back with rfl | hb'
            · exact hedge
            · exact hedge.trans hb'
          · rcases back with rfl | hb'
            · exact hedge
            · exact hb'.trans hedge
        have hk0 : st.ov k = false := by
          obtain ⟨j, hj⟩ := way_from hkk
          simp only [Bool.and_eq_true, decide_eq_true_eq] at hj
          exact hj.2
        obtain ⟨_, _, a3⟩ := s5 (by rw [i2]; exact hk0)
        have hfull : Way (rnK p n st (k + 1)).wt n k k := Way.mono (fun i j hij => by
          simp only [Bool.and_eq_true] at hij
          exact hij.1) hkk
        rw [rnK_succ] at hfull
        rw [(war_iff (by omega) (by omega)).2 hfull] at a3
        cases a3
  obtain ⟨i1, i2, i3, i4⟩ := same n (Nat.le_refl _)
  obtain ⟨L, hL⟩ := ord_iff.2 (acy n (Nat.le_refl _))
  intro t ht
  cases ho : st.ov t
  · exfalso
    refine ord_ends hL (P := fun t => st.ov t = false) (fun t ht ho => ?_) t ht ho
    obtain ⟨a1, a2⟩ := i4 t ht ho
    obtain ⟨u, hu, hau⟩ := List.any_eq_true.1 a2
    rw [List.mem_range] at hu
    refine ⟨u, hu, ?_, ?_⟩
    · unfold agst at hau
      obtain ⟨d, _, hd⟩ := List.any_eq_true.1 hau
      simp only [Bool.and_eq_true, Bool.not_eq_true'] at hd
      exact hd.1.2.2
    · show ((rnK p n st n).wt t u && (decide (t < n ∧ st.ov t = false) && decide (u < n))) = true
      rw [a1, hau]
      simp [ht, ho, hu]
  · rfl
/-- A round brings them further, where not all are over. -/
theorem round_less {p : List (List Stp)} {n : Nat} {st : LkS} (h : WtOk n st) (hp : PosOk p st) (ha : allO n st = false) : lefN p n (rnS p n st) < lefN p n st := by
  obtain ⟨_, _, h3, h4⟩ := rnK_ok (p := p) h hp (k := n) (Nat.le_refl _)
  rcases h4 with h4 | ⟨u, hu, h4⟩
  · have := idle_over h4
    have e : allO n st = true := List.all_eq_true.2 fun t ht => this t (List.mem_range.1 ht)
    rw [ha] at e
    cases e
  · exact sumN_lt (fun i _ => h3 i) hu h4
end Go.Proofs.YthmiocbihhbdpaaDoor

namespace Go.Proofs.YthmiocbihhbdpaaDoor

theorem stZ_lt {l : List Stp} {x : Stp} {i : Nat} (h : i < l.length) : stZ (l ++ [x]) i = stZ l i := by
  rw [stZ_at h, stZ_at (by rw [List.length_append]; exact Nat.lt_add_right _ h), List.getElem_append_left h]
theorem stZ_new (l : List Stp) (x : Stp) : stZ (l ++ [x]) l.length = x := by
  rw [stZ_at (by simp), List.getElem_append_right (Nat.le_refl _)]
  simp
/-- A plan that may be. -/
structure PlOk (p : List (List Stp)) : Prop where
  few : p.length ≤ 8
  step : ∀ t, t < p.length → ∀ i, i < (plN p t).length → (stZ (plN p t) i).p = (t : Int) ∧ ((stZ (plN p t) i).k = 1 ∨ (stZ (plN p t) i).k = 2) ∧ 0 ≤ (stZ (plN p t) i).m ∧ (stZ (plN p t) i).m ≤ 7
def ownL (l : List Stp) (t : Nat) : List Stp := l.filter fun d => d.p == (t : Int)
theorem ownL_app (l : List Stp) (x : Stp) (t : Nat) : ownL (l ++ [x]) t = if x.p = (t : Int) then ownL l t ++ [x] else ownL l t := by
  unfold ownL
  rw [List.filter_append]
  by_cases h : x.p = (t : Int)
  · rw [if_pos h, List.filter_cons_of_pos (by simp [h])]
    rfl
  · rw [if_neg h, List.filter_cons_of_neg (by simp [h])]
    simp
def endT (st : LkS) (t : Nat) : List Stp := if st.ov t = true then [⟨(t : Int), if t ∈ st.vic then 4 else 3, 0⟩] else []
/-- What is kept. -/
structure LkI (p : List (List Stp)) (n : Nat) (st : LkS) : Prop where
  wt : WtOk n st
  pos : PosOk p st
  dp : ∀ i, i < st.done.length → ∃ t : Nat, t < n ∧ (stZ st.done i).p = (t : Int)
  ok : ∀ i, i < st.done.length → fltR (stZ st.done i) = 0
  nxt : ∀ e i, e < i → i < st.done.length → 2 < (stZ st.done e).k → (stZ st.done i).p ≠ (stZ st.done e).p
  eov : ∀ e, e < st.done.length → 2 < (stZ st.done e).k → ∀ t : Nat, (stZ st.done e).p = (t : Int) → st.ov t = true
  ove : ∀ t, t < n → st.ov t = true → ∃ e, e < st.done.length ∧ (stZ st.done e).p = (t : Int) ∧ 2 < (stZ st.done e).k
  own : ∀ t, t < n → ownL st.done t = (plN p t).take (st.pos t) ++ endT st t
  fin : ∀ t, t < n → st.ov t = true → t ∉ st.vic → st.pos t = (plN p t).length
  vov : ∀ t ∈ st.vic, st.ov t = true ∧ t < n
  tp : ∀ i j, i < j → j < st.done.length → agB (stZ st.done i) (stZ st.done j) = true → (stZ st.done j).k < 3 → (stZ st.done i).p ≠ (stZ st.done j).p → ∃ e, i < e ∧ e < j ∧ (stZ st.done e).p = (stZ st.done i).p ∧ 2 < (stZ st.done e).k
  len : st.done.length + lefN p n st ≤ lefN p n lk0
theorem LkI.start {p : List (List Stp)} {n : Nat} : LkI p n lk0 where
  wt := ⟨fun _ h => by cases h⟩
  pos := fun _ => Nat.zero_le _
  dp := fun i h => absurd h (by simp [lk0])
  ok := fun i h => absurd h (by simp [lk0])
  nxt := fun e i _ h => absurd h (by simp [lk0])
  eov := fun e h => absurd h (by simp [lk0])
  ove := fun t _ h => by cases h
  own := fun t _ => by simp [lk0, ownL, endT]
  fin := fun t _ h => by cases h
  vov := fun t h => by simp [lk0] at h
  tp := fun i j _ h => absurd h (by simp [lk0])
  len := by simp [lk0]
section
variable {p : List (List Stp)} {n : Nat} {st : LkS}
theorem LkI.wa (h : LkI p n st) {t : Nat} (ho : st.ov t = false) (s : Stp) : LkI p n (waS st t s) :=
  ⟨h.wt.wa ho s, h.pos, h.dp, h.ok, h.nxt, h.eov, h.ove, h.own, h.fin, h.vov, h.tp, h.len⟩
/-- One is over: by its commit, or ended. -/
theorem LkI.en (h : LkI p n st) (hn : n ≤ 8) {t : Nat} (ht : t < n) (ho : st.ov t = false) {kd : Int} {vc : List Nat} (hk : (kd = 3 ∧ vc = st.vic ∧ st.pos t = (plN p t).length) ∨ (kd = 4 ∧ vc = st.vic ++ [t])) :
    LkI p n (endS { st with vic := vc } t kd) := by
  have hk2 : 2 < kd := by rcases hk with ⟨rfl, _⟩ | ⟨rfl, _⟩ <;> decide
  have htv : t ∉ st.vic := fun hm => by rw [(h.vov t hm).1] at ho; cases ho
  have hno : ∀ i, i < st.done.length → 2 < (stZ st.done i).k → (stZ st.done i).p ≠ (t : Int) := fun i hi hk e => by
    rw [h.eov i hi hk t e] at ho; cases ho
  have hlen : (st.done ++ [(⟨(t : Int), kd, 0⟩ : Stp)]).length = st.done.length + 1 := by simp
  have hvc : ∀ u, u ≠ t → (u ∈ vc ↔ u ∈ st.vic) := fun u hu => by
    rcases hk with ⟨_, rfl, _⟩ | ⟨_, rfl⟩
    · exact Iff.rfl
    · simp [hu]
  refine ⟨WtOk.en (st := { st with vic := vc }) ⟨h.wt.no⟩ t kd, h.pos, ?_, ?_, ?_, ?_, ?_, ?_, ?_, ?_, ?_, ?_⟩
  · intro i hi
    show ∃ t', t' < n ∧ (stZ (st.done ++ [⟨(t : Int), kd, 0⟩]) i).p = (t' : Int)
    have hi' : i < st.done.length + 1 := by rw [← hlen]; exact hi
    by_cases e : i < st.done.length
    · rw [stZ_lt e]; exact h.dp i e
    · obtain rfl : i = st.done.length := by omega
      rw [stZ_new]; exact ⟨t, ht, rfl⟩
  · intro i hi
    show fltR (stZ (st.done ++ [⟨(t : Int), kd, 0⟩]) i) = 0
    have hi' : i < st.done.length + 1 := by rw [← hlen]; exact hi
    by_cases e : i < st.done.length
    · rw [stZ_lt e]; exact h.ok i e
    · obtain rfl : i = st.done.length := by omega
      rw [stZ_new]
      unfold fltR
      dsimp only
      rcases hk with ⟨rfl, _⟩ | ⟨rfl, _⟩
      · rw [if_neg (by omega), if_neg (by omega)]
      · rw [if_neg (by omega), if_neg (by omega)]
  · intro e i hei hi
    show 2 < (stZ (st.done ++ [⟨(t : Int), kd, 0⟩]) e).k → (stZ (st.done ++ [⟨(t : Int), kd, 0⟩]) i).p ≠ (stZ (st.done ++ [⟨(t : Int), kd, 0⟩]) e).p
    have hi' : i < st.done.length + 1 := by rw [← hlen]; exact hi
    by_cases e1 : i < st.done.length
    · rw [stZ_lt e1, stZ_lt (by omega)]; exact h.nxt e i hei e1
    · obtain rfl : i = st.done.length := by omega
      rw [stZ_new, stZ_lt hei]
      exact fun hk he => hno e hei hk he.symm
  · intro e he hke u hu
    have hke : 2 < (stZ (st.done ++ [⟨(t : Int), kd, 0⟩]) e).k := hke
    have hu : (stZ (st.done ++ [⟨(t : Int), kd, 0⟩]) e).p = (u : Int) := hu
    show upd st.ov t true u = true
    have he' : e < st.done.length + 1 := by rw [← hlen]; exact he
    by_cases eu : u = t
    · rw [eu, upd_same]
    · rw [upd_ne _ _ eu]
      by_cases e1 : e < st.done.length
      · rw [stZ_lt e1] at hke hu; exact h.eov e e1 hke u hu
      · obtain rfl : e = st.done.length := by omega
        rw [stZ_new] at hu
        exact absurd (by have : (t : Int) = u := hu; omega) eu
  · intro u hu hou
    have hou : upd st.ov t true u = true := hou
    show ∃ e, e < (st.done ++ [(⟨(t : Int), kd, 0⟩ : Stp)]).length ∧ (stZ (st.done ++ [⟨(t : Int), kd, 0⟩]) e).p = (u : Int) ∧ 2 < (stZ (st.done ++ [⟨(t : Int), kd, 0⟩]) e).k
    by_cases eu : u = t
    · subst eu
      exact ⟨st.done.length, by simp, by rw [stZ_new], by rw [stZ_new]; exact hk2⟩
    · rw [upd_ne _ _ eu] at hou
      obtain ⟨e, h1, h2, h3⟩ := h.ove u hu hou
      exact ⟨e, by simp; omega, by rw [stZ_lt h1]; exact h2, by rw [stZ_lt h1]; exact h3⟩
  · intro u hu
    show ownL (st.done ++ [⟨(t : Int), kd, 0⟩]) u = (plN p u).take (st.pos u) ++ (if upd st.ov t true u = true then [⟨(u : Int), if u ∈ vc then 4 else 3, 0⟩] else [])
    rw [ownL_app]
    by_cases eu : u = t
    · subst eu
      rw [if_pos rfl, upd_same, if_pos rfl, h.own u hu]
      have e0 : endT st u = [] := by unfold endT; rw [ho]; rfl
      rw [e0, List.append_nil]
      congr 3
      rcases hk with ⟨rfl, rfl, _⟩ | ⟨rfl, rfl⟩
      · rw [if_neg htv]
      · rw [if_pos (by simp)]
    · rw [if_neg (by show ¬ (t : Int) = (u : Int); omega), upd_ne _ _ eu, h.own u hu]
      unfold endT
      by_cases hm : u ∈ st.vic
      · rw [if_pos hm, if_pos ((hvc u eu).2 hm)]
      · rw [if_neg hm, if_neg (fun h => hm ((hvc u eu).1 h))]
  · intro u hu hou hnv
    have hou : upd st.ov t true u = true := hou
    have hnv : u ∉ vc := hnv
    show st.pos u = _
    by_cases eu : u = t
    · subst eu
      rcases hk with ⟨_, _, hp⟩ | ⟨_, rfl⟩
      · exact hp
      · exact absurd (List.mem_append_right _ (List.mem_singleton.2 rfl)) hnv
    · rw [upd_ne _ _ eu] at hou
      exact h.fin u hu hou fun hm => hnv ((hvc u eu).2 hm)
  · intro u hu
    have hu : u ∈ vc := hu
    show upd st.ov t true u = true ∧ u < n
    by_cases eu : u = t
    · subst eu; exact ⟨upd_same _ _ _, ht⟩
    · rw [upd_ne _ _ eu]; exact h.vov u ((hvc u eu).1 hu)
  · intro i j hij hj
    show agB (stZ (st.done ++ [⟨(t : Int), kd, 0⟩]) i) (stZ (st.done ++ [⟨(t : Int), kd, 0⟩]) j) = true → (stZ (st.done ++ [⟨(t : Int), kd, 0⟩]) j).k < 3 → (stZ (st.done ++ [⟨(t : Int), kd, 0⟩]) i).p ≠ (stZ (st.done ++ [⟨(t : Int), kd, 0⟩]) j).p → ∃ e, i < e ∧ e < j ∧ (stZ (st.done ++ [⟨(t : Int), kd, 0⟩]) e).p = (stZ (st.done ++ [⟨(t : Int), kd, 0⟩]) i).p ∧ 2 < (stZ (st.done ++ [⟨(t : Int), kd, 0⟩]) e).k
    have hj' : j < st.done.length + 1 := by rw [← hlen]; exact hj
    by_cases e1 : j < st.done.length
    · rw [stZ_lt e1, stZ_lt (by omega)]
      intro ha hk hne
      obtain ⟨e, a1, a2, a3, a4⟩ := h.tp i j hij e1 ha hk hne
      exact ⟨e, a1, a2, by rw [stZ_lt (by omega)]; exact a3, by rw [stZ_lt (by omega)]; exact a4⟩
    · obtain rfl : j = st.done.length := by omega
      rw [stZ_new]
      intro _ hk
      have : kd < 3 := hk
      omega
  · show (st.done ++ [(⟨(t : Int), kd, 0⟩ : Stp)]).length + lefN p n (endS { st with vic := vc } t kd) ≤ _
    have hl := h.len
    have h1 : lefN p n (endS { st with vic := vc } t kd) < lefN p n st := by
      refine sumN_lt (fun u _ => ?_) ht ?_
      · show (if upd st.ov t true u = true then 0 else (plN p u).length - st.pos u + 1) ≤ (if st.ov u = true then 0 else (plN p u).length - st.pos u + 1)
        by_cases eu : u = t
        · rw [eu, upd_same, if_pos rfl]; exact Nat.zero_le _
        · rw [upd_ne _ _ eu]; exact Nat.le_refl _
      · show (if upd st.ov t true t = true then 0 else (plN p t).length - st.pos t + 1) < (if st.ov t = true then 0 else (plN p t).length - st.pos t + 1)
        rw [upd_same, if_pos rfl, ho, if_neg (by simp)]
        omega
    rw [hlen]
    omega
/-- A step is done that nobody stands against. -/
theorem LkI.dn (h : LkI p n st) (hpl : PlOk p) (hn : n = p.length) {t : Nat} (ht : t < n) (ho : st.ov t = false) (hp : st.pos t < (plN p t).length) (ha : (List.range n).any (agst st t (nxS p st t)) = false) :
    LkI p n (doS st t (nxS p st t)) := by
  obtain ⟨s1, s2, s3, s4⟩ := hpl.step t (by omega) (st.pos t) hp
  have es : nxS p st t = stZ (plN p t) (st.pos t) := rfl
  rw [← es] at s1 s2 s3 s4
  have e8 := hpl.few
  have hno : ∀ i, i < st.done.length → 2 < (stZ st.done i).k → (stZ st.done i).p ≠ (t : Int) := fun i hi hk e => by
    rw [h.eov i hi hk t e] at ho; cases ho
  have hfree : ∀ i, i < st.done.length → agB (stZ st.done i) (nxS p st t) = true → (stZ st.done i).p ≠ (t : Int) → ∀ u : Nat, u < n → (stZ st.done i).p = (u : Int) → st.ov u = true := fun i hi hag hne u hu hpu => by
    have h1 := List.any_eq_false.1 ha u (List.mem_range.2 hu)
    cases hov : st.ov u
    · exfalso
      apply h1
      unfold agst
      refine List.any_eq_true.2 ⟨stZ st.done i, by rw [stZ_at hi]; exact List.getElem_mem hi, ?_⟩
      have hut : u ≠ t := fun e => hne (by rw [hpu, e])
      simp [hpu, hut, hov, hag]
    · rfl
  generalize nxS p st t = s at *
  have hlen : (st.done ++ [s]).length = st.done.length + 1 := by simp
  refine ⟨h.wt.dn t s, ?_, ?_, ?_, ?_, ?_, ?_, ?_, ?_, h.vov, ?_, ?_⟩
  · intro u
    show upd st.pos t (st.pos t + 1) u ≤ _
    by_cases eu : u = t
    · rw [eu, upd_same]; omega
    · rw [upd_ne _ _ eu]; exact h.pos u
  · intro i hi
    show ∃ t', t' < n ∧ (stZ (st.done ++ [s]) i).p = (t' : Int)
    have hi' : i < st.done.length + 1 := by rw [← hlen]; exact hi
    by_cases e : i < st.done.length
    · rw [stZ_lt e]; exact h.dp i e
    · obtain rfl : i = st.done.length := by omega
      rw [stZ_new]; exact ⟨t, ht, s1⟩
  · intro i hi
    show fltR (stZ (st.done ++ [s]) i) = 0
    have hi' : i < st.done.length + 1 := by rw [← hlen]; exact hi
    by_cases e : i < st.done.length
    · rw [stZ_lt e]; exact h.ok i e
    · obtain rfl : i = st.done.length := by omega
      rw [stZ_new]
      unfold fltR
      rw [if_neg (by omega), if_neg (by omega)]
  · intro e i hei hi
    show 2 < (stZ (st.done ++ [s]) e).k → (stZ (st.done ++ [s]) i).p ≠ (stZ (st.done ++ [s]) e).p
    have hi' : i < st.done.length + 1 := by rw [← hlen]; exact hi
    by_cases e1 : i < st.done.length
    · rw [stZ_lt e1, stZ_lt (by omega)]; exact h.nxt e i hei e1
    · obtain rfl : i = st.done.length := by omega
      rw [stZ_new, stZ_lt hei]
      exact fun hk he => hno e hei hk (by rw [← he]; exact s1)
  · intro e he hke u hu
    have hke : 2 < (stZ (st.done ++ [s]) e).k := hke
    have hu : (stZ (st.done ++ [s]) e).p = (u : Int) := hu
    show st.ov u = true
    have he' : e < st.done.length + 1 := by rw [← hlen]; exact he
    by_cases e1 : e < st.done.length
    · rw [stZ_lt e1] at hke hu; exact h.eov e e1 hke u hu
    · obtain rfl : e = st.done.length := by omega
      rw [stZ_new] at hke
      omega
  · intro u hu hou
    obtain ⟨e, h1, h2, h3⟩ := h.ove u hu hou
    show ∃ e, e < (st.done ++ [s]).length ∧ (stZ (st.done ++ [s]) e).p = (u : Int) ∧ 2 < (stZ (st.done ++ [s]) e).k
    exact ⟨e, by omega, by rw [stZ_lt h1]; exact h2, by rw [stZ_lt h1]; exact h3⟩
  · intro u hu
    show ownL (st.done ++ [s]) u = (plN p u).take (upd st.pos t (st.pos t + 1) u) ++ endT st u
    rw [ownL_app, s1]
    by_cases eu : u = t
    · subst eu
      have e0 : endT st u = [] := by unfold endT; rw [ho]; rfl
      rw [if_pos rfl, upd_same, h.own u hu, e0, List.append_nil, List.append_nil, List.take_add_one, List.getElem?_eq_getElem hp]
      rw [stZ_at hp] at es
      rw [es]
      rfl
    · rw [if_neg (by omega), upd_ne _ _ eu, h.own u hu]
  · intro u hu hou hnv
    have hou : st.ov u = true := hou
    show upd st.pos t (st.pos t + 1) u = _
    have eu : u ≠ t := fun e => by rw [e, ho] at hou; cases hou
    rw [upd_ne _ _ eu]
    exact h.fin u hu hou hnv
  · intro i j hij hj
    show agB (stZ (st.done ++ [s]) i) (stZ (st.done ++ [s]) j) = true → (stZ (st.done ++ [s]) j).k < 3 → (stZ (st.done ++ [s]) i).p ≠ (stZ (st.done ++ [s]) j).p → ∃ e, i < e ∧ e < j ∧ (stZ (st.done ++ [s]) e).p = (stZ (st.done ++ [s]) i).p ∧ 2 < (stZ (st.done ++ [s]) e).k
    have hj' : j < st.done.length + 1 := by rw [← hlen]; exact hj
    by_cases e1 : j < st.done.length
    · rw [stZ_lt e1, stZ_lt (by omega)]
      intro ha hk hne
      obtain ⟨e, a1, a2, a3, a4⟩ := h.tp i j hij e1 ha hk hne
      exact ⟨e, a1, a2, by rw [stZ_lt (by omega)]; exact a3, by rw [stZ_lt (by omega)]; exact a4⟩
    · obtain rfl : j = st.done.length := by omega
      rw [stZ_new, stZ_lt hij]
      intro hag _ hne
      obtain ⟨u, hu, hpu⟩ := h.dp i hij
      have hou := hfree i hij hag (by rw [← s1]; exact hne) u hu hpu
      obtain ⟨e, b1, b2, b3⟩ := h.ove u hu hou
      have hk3 : (stZ st.done i).k < 3 := by
        unfold agB at hag
        simp only [Bool.and_eq_true, decide_eq_true_eq] at hag
        exact hag.1.2
      refine ⟨e, ?_, b1, by rw [stZ_lt b1, b2, hpu], by rw [stZ_lt b1]; exact b3⟩
      rcases Nat.lt_trichotomy e i with hlt | heq | hgt
      · exact absurd (hpu.trans b2.symm) (h.nxt e i hlt hij b3)
      · subst heq; omega
      · exact hgt
  · show (st.done ++ [s]).length + lefN p n (doS st t s) ≤ _
    have hl := h.len
    have h1 : lefN p n (doS st t s) < lefN p n st := by
      refine sumN_lt (fun u _ => ?_) ht ?_
      · show (if st.ov u = true then 0 else (plN p u).length - upd st.pos t (st.pos t + 1) u + 1) ≤ (if st.ov u = true then 0 else (plN p u).length - st.pos u + 1)
        by_cases eu : u = t
        · rw [eu, upd_same]
          split
          · exact Nat.le_refl _
          · omega
        · rw [upd_ne _ _ eu]; exact Nat.le_refl _
      · show (if st.ov t = true then 0 else (plN p t).length - upd st.pos t (st.pos t + 1) t + 1) < (if st.ov t = true then 0 else (plN p t).length - st.pos t + 1)
        rw [ho, if_neg (by simp), if_neg (by simp), upd_same]
        omega
    rw [hlen]
    omega
theorem LkI.go (h : LkI p n st) (hpl : PlOk p) (hn : n = p.length) {t : Nat} (ht : t < n) : LkI p n (goS p n st t) := by
  have e8 := hpl.few
  rcases go_cases (p := p) (n := n) (st := st) ht with hi | ⟨ho, ⟨hl, e⟩ | ⟨hl, ha, e⟩ | ⟨hl, ha, v, hv, hw, _, _, e⟩⟩
  · rcases hi with ⟨_, e⟩ | ⟨ho, _, _, _, e⟩
    · rw [e]; exact h
    · rw [e]; exact h.wa ho _
  · rw [e]
    exact h.en (by omega) ht ho (.inl ⟨rfl, rfl, hl⟩)
  · rw [e]
    exact h.dn hpl hn ht ho (by have := h.pos t; omega) ha
  · rw [e]
    have hov := vi_open h.wt ht hv ho hw
    exact (h.wa ho (nxS p st t)).en (by omega) hv hov (.inr ⟨rfl, rfl⟩)
theorem LkI.rn (h : LkI p n st) (hpl : PlOk p) (hn : n = p.length) : ∀ {k : Nat}, k ≤ n → LkI p n (rnK p n st k)
  | 0, _ => h
  | k + 1, hk => by rw [rnK_succ]; exact (LkI.rn h hpl hn (k := k) (by omega)).go hpl hn (by omega)
end
/-- The picks. -/
def pkS (p : List (List Stp)) (n : Nat) (st : LkS) (ks : List Int) : LkS := ks.foldl (fun (st : LkS) (t : Int) => if 0 ≤ t ∧ t < n then goS p n st t.toNat else st) st
theorem pkS_app (p : List (List Stp)) (n : Nat) (st : LkS) (ks : List Int) (t : Int) : pkS p n st (ks ++ [t]) = if 0 ≤ t ∧ t < n then goS p n (pkS p n st ks) t.toNat else pkS p n st ks := by
  unfold pkS
  rw [List.foldl_append]
  rfl
theorem LkI.pk {p : List (List Stp)} {n : Nat} (hpl : PlOk p) (hn : n = p.length) : ∀ {ks : List Int} {st : LkS}, LkI p n st → LkI p n (pkS p n st ks)
  | [], _, h => h
  | t :: ks, st, h => by
    show LkI p n (pkS p n (if 0 ≤ t ∧ t < n then goS p n st t.toNat else st) ks)
    by_cases ht : 0 ≤ t ∧ t < n
    · rw [if_pos ht]; exact LkI.pk hpl hn (h.go hpl hn (by omega))
    · rw [if_neg ht]; exact LkI.pk hpl hn h
/-- Rounds, till all are over. -/
theorem pl_over {p : List (List Stp)} {n : Nat} (hpl : PlOk p) (hn : n = p.length) : ∀ {f : Nat} {st : LkS}, LkI p n st → lefN p n st ≤ f → LkI p n (plS p n f st) ∧ allO n (plS p n f st) = true
  | 0, st, h, hf => by
    refine ⟨h, ?_⟩
    cases ha : allO n st
    · have := round_less h.wt h.pos ha
      omega
    · exact ha
  | f + 1, st, h, hf => by
    unfold plS
    cases ha : allO n st
    · rw [if_neg (by simp)]
      have := round_less h.wt h.pos ha
      exact pl_over hpl hn (h.rn hpl hn (k := n) (Nat.le_refl _)) (by show lefN p n (rnS p n st) ≤ f; omega)
    · rw [if_pos rfl]
      exact ⟨h, ha⟩
/-- All of 13.2. -/
def lkP (p : List (List Stp)) (ks : List Int) : LkS := plS p p.length (lefN p p.length lk0) (pkS p p.length lk0 ks)
theorem lkP_ok {p : List (List Stp)} (hpl : PlOk p) (ks : List Int) : LkI p p.length (lkP p ks) ∧ allO p.length (lkP p ks) = true := by
  have h0 := LkI.pk hpl rfl (ks := ks) (LkI.start (p := p) (n := p.length))
  exact pl_over hpl rfl h0 (by have := h0.len; omega)
end Go.Proofs.YthmiocbihhbdpaaDoor

namespace Go.Proofs.YthmiocbihhbdpaaDoor

/-- A step that may not be in that list. -/
def badT (t : Nat) (s : Stp) : Bool := decide (s.p ≠ (t : Int)) || (decide (s.k ≠ 1) && decide (s.k ≠ 2)) || decide (s.m < 0) || decide (7 < s.m)
def badL (p : List (List Stp)) (t : Nat) : Bool := (plN p t).any (badT t)
def badP (p : List (List Stp)) : Bool := (List.range p.length).any (badL p)
/-- Steps and lists together. -/
def totK (p : List (List Stp)) (k : Nat) : Nat := p.length + sumN (fun t => (plN p t).length) k
def fltL (p : List (List Stp)) : Int := if badP p = true then 1 else if 8 < p.length ∨ 60 < totK p p.length then 4 else 0
theorem totK_zero (p : List (List Stp)) : totK p 0 = p.length := rfl
theorem totK_succ (p : List (List Stp)) (k : Nat) : totK p (k + 1) = totK p k + (plN p k).length := by
  unfold totK
  show p.length + (sumN (fun t => (plN p t).length) k + (plN p k).length) = _
  omega
theorem sum_le {f : Nat → Nat} {B : Nat} : ∀ {n : Nat}, (∀ i, i < n → f i ≤ B) → sumN f n ≤ n * B
  | 0, _ => by simp [sumN]
  | n + 1, h => by
    have h1 := sum_le (n := n) fun i hi => h i (by omega)
    have h2 := h n (by omega)
    show sumN f n + f n ≤ (n + 1) * B
    rw [Nat.succ_mul]
    omega
theorem lef_tot (p : List (List Stp)) : ∀ k, sumN (lefT p lk0) k = k + sumN (fun t => (plN p t).length) k
  | 0 => rfl
  | k + 1 => by
    show sumN (lefT p lk0) k + lefT p lk0 k = k + 1 + (sumN (fun t => (plN p t).length) k + (plN p k).length)
    have e : lefT p lk0 k = (plN p k).length + 1 := by
      unfold lefT lk0
      simp
    rw [lef_tot p k, e]
    omega
theorem badP_no {p : List (List Stp)} (h : badP p = false) {t : Nat} (ht : t < p.length) {i : Nat} (hi : i < (plN p t).length) : (stZ (plN p t) i).p = (t : Int) ∧ ((stZ (plN p t) i).k = 1 ∨ (stZ (plN p t) i).k = 2) ∧ 0 ≤ (stZ (plN p t) i).m ∧ (stZ (plN p t) i).m ≤ 7 := by
  have h1 := List.any_eq_false.1 h t (List.mem_range.2 ht)
  have h2 : badL p t = false := by simpa using h1
  have h3 := List.any_eq_false.1 h2 (stZ (plN p t) i) (by rw [stZ_at hi]; exact List.getElem_mem hi)
  unfold badT at h3
  simp at h3
  omega
/-- A plan that Check finds well. -/
theorem fltL_ok {p : List (List Stp)} (h : fltL p = 0) : PlOk p ∧ lefN p p.length lk0 ≤ 60 := by
  unfold fltL at h
  split at h
  · cases h
  · rename_i hb
    split at h
    · cases h
    · rename_i hc
      have hb' : badP p = false := by simpa using hb
      refine ⟨⟨by omega, fun t ht i hi => badP_no hb' ht hi⟩, ?_⟩
      unfold lefN
      rw [lef_tot]
      have : totK p p.length = p.length + sumN (fun t => (plN p t).length) p.length := rfl
      omega
theorem fltL_bad {p : List (List Stp)} {t i : Nat} (ht : t < p.length) (hi : i < (plN p t).length) (hb : badT t (stZ (plN p t) i) = true) : fltL p = 1 := by
  unfold fltL
  rw [if_pos]
  exact List.any_eq_true.2 ⟨t, List.mem_range.2 ht, List.any_eq_true.2 ⟨_, by rw [stZ_at hi]; exact List.getElem_mem hi, hb⟩⟩
theorem fltL_good {p : List (List Stp)} (h : ∀ t, t < p.length → ∀ i, i < (plN p t).length → badT t (stZ (plN p t) i) = false) : fltL p = if 8 < p.length ∨ 60 < totK p p.length then 4 else 0 := by
  have hb : badP p = false := by
    refine List.any_eq_false.2 fun t ht => ?_
    rw [List.mem_range] at ht
    have : badL p t = false := List.any_eq_false.2 fun s hs => by
      obtain ⟨i, hi, e⟩ := List.getElem_of_mem hs
      have := h t ht i hi
      rw [stZ_at hi, e] at this
      rw [this]; simp
    rw [this]; simp
  unfold fltL
  rw [if_neg (by rw [hb]; simp)]
end Go.Proofs.YthmiocbihhbdpaaDoor

namespace Go.Proofs.YthmiocbihhbdpaaDoor

theorem go_grow {p : List (List Stp)} {n : Nat} {st : LkS} {t : Nat} (ht : t < n) :
    st.done.length ≤ (goS p n st t).done.length ∧ (Idl p n st t ∨ st.done.length < (goS p n st t).done.length) ∧ (∀ u, (goS p n st t).cnt u ≤ st.cnt u + (if u = t then 1 else 0)) ∧ (goS p n st t).vic.length + st.done.length ≤ st.vic.length + (goS p n st t).done.length := by
  have hc : ∀ (s : Stp) u, (waS st t s).cnt u ≤ st.cnt u + (if u = t then 1 else 0) := fun s u => by
    show upd st.cnt t (st.cnt t + 1) u ≤ _
    by_cases e : u = t
    · rw [e, upd_same, if_pos rfl]; exact Nat.le_refl _
    · rw [upd_ne _ _ e]; exact Nat.le_add_right _ _
  rcases go_cases (p := p) (n := n) (st := st) ht with hi | ⟨ho, ⟨hl, e⟩ | ⟨hl, ha, e⟩ | ⟨hl, ha, v, hv, hw, _, _, e⟩⟩
  · rcases hi with ⟨ho, e⟩ | ⟨ho, hl, ha, hw, e⟩
    · have hI : Idl p n st t := .inl ⟨ho, e⟩
      rw [e]
      exact ⟨Nat.le_refl _, .inl hI, fun u => Nat.le_add_right _ _, Nat.le_refl _⟩
    · have hI : Idl p n st t := .inr ⟨ho, hl, ha, hw, e⟩
      rw [e]
      exact ⟨Nat.le_refl _, .inl hI, hc _, Nat.le_refl _⟩
  · rw [e]
    have h1 : (endS st t 3).done.length = st.done.length + 1 := by simp [endS]
    refine ⟨by omega, .inr (by omega), fun u => Nat.le_add_right _ _, ?_⟩
    show st.vic.length + _ ≤ _
    omega
  · rw [e]
    have h1 : (doS st t (nxS p st t)).done.length = st.done.length + 1 := by simp [doS]
    refine ⟨by omega, .inr (by omega), fun u => Nat.le_add_right _ _, ?_⟩
    show st.vic.length + _ ≤ _
    omega
  · rw [e]
    have h1 : (viS (waS st t (nxS p st t)) v).done.length = st.done.length + 1 := by simp [viS, endS, waS]
    have h2 : (viS (waS st t (nxS p st t)) v).vic.length = st.vic.length + 1 := by simp [viS, endS, waS]
    exact ⟨by omega, .inr (by omega), hc (nxS p st t), by omega⟩
/-- What is kept by count: who waited, who was ended. -/
structure CtI (m : Nat) (st : LkS) : Prop where
  cnt : ∀ u, st.cnt u ≤ m
  vic : st.vic.length ≤ st.done.length
theorem CtI.go {p : List (List Stp)} {n m : Nat} {st : LkS} (h : CtI m st) {t : Nat} (ht : t < n) : CtI (m + 1) (goS p n st t) := by
  obtain ⟨_, _, g3, g4⟩ := go_grow (p := p) (st := st) ht
  refine ⟨fun u => ?_, by have := h.vic; omega⟩
  have h1 := g3 u
  have h2 := h.cnt u
  split at h1 <;> omega
theorem ct_pk {p : List (List Stp)} {n : Nat} : ∀ {ks : List Int} {m : Nat} {st : LkS}, CtI m st → CtI (m + ks.length) (pkS p n st ks)
  | [], _, _, h => h
  | t :: ks, m, st, h => by
    show CtI (m + (ks.length + 1)) (pkS p n (if 0 ≤ t ∧ t < n then goS p n st t.toNat else st) ks)
    rw [show m + (ks.length + 1) = m + 1 + ks.length by omega]
    by_cases ht : 0 ≤ t ∧ t < n
    · rw [if_pos ht]; exact ct_pk (h.go (by omega))
    · rw [if_neg ht]; exact ct_pk ⟨fun u => Nat.le_succ_of_le (h.cnt u), h.vic⟩
theorem ct_rn {p : List (List Stp)} {n m : Nat} {st : LkS} (h : CtI m st) : ∀ {k : Nat}, k ≤ n → (∀ u, (rnK p n st k).cnt u ≤ st.cnt u + (if u < k then 1 else 0)) ∧ (rnK p n st k).vic.length ≤ (rnK p n st k).done.length ∧ st.done.length ≤ (rnK p n st k).done.length ∧ ((∀ t, t < k → Idl p n (rnK p n st t) t) ∨ st.done.length < (rnK p n st k).done.length)
  | 0, _ => ⟨fun u => Nat.le_add_right _ _, h.vic, Nat.le_refl _, .inl fun t ht => absurd ht (by omega)⟩
  | k + 1, hk => by
    obtain ⟨h1, h2, h3, h4⟩ := ct_rn (p := p) (n := n) h (k := k) (by omega)
    obtain ⟨g1, g2, g3, g4⟩ := go_grow (p := p) (n := n) (st := rnK p n st k) (t := k) (by omega)
    rw [rnK_succ]
    refine ⟨fun u => ?_, by omega, by omega, ?_⟩
    · have a1 := h1 u
      have a2 := g3 u
      by_cases e : u = k
      · rw [if_pos e] at a2
        rw [if_neg (by omega)] at a1
        rw [if_pos (by omega)]
        omega
      · rw [if_neg e] at a2
        by_cases e2 : u < k
        · rw [if_pos e2] at a1
          rw [if_pos (by omega)]
          omega
        · rw [if_neg e2] at a1
          omega
    · rcases h4 with h4 | h4
      · rcases g2 with g2 | g2
        · refine .inl fun t ht => ?_
          by_cases e : t = k
          · subst e; exact g2
          · exact h4 t (by omega)
        · exact .inr (by omega)
      · exact .inr (by omega)
/-- Within a round. -/
theorem CtI.mid {p : List (List Stp)} {n m : Nat} {st : LkS} (h : CtI m st) {k : Nat} (hk : k ≤ n) : CtI (m + 1) (rnK p n st k) := by
  obtain ⟨h1, h2, _, _⟩ := ct_rn (p := p) h hk
  refine ⟨fun u => ?_, h2⟩
  have a1 := h1 u
  have a2 := h.cnt u
  split at a1 <;> omega
/-- A round does something, where not all are over. -/
theorem round_more {p : List (List Stp)} {n m : Nat} {st : LkS} (h : CtI m st) (ha : allO n st = false) : st.done.length < (rnS p n st).done.length := by
  obtain ⟨_, _, _, h4⟩ := ct_rn (p := p) h (Nat.le_refl n)
  rcases h4 with h4 | h4
  · have := idle_over h4
    have e : allO n st = true := List.all_eq_true.2 fun t ht => this t (List.mem_range.1 ht)
    rw [ha] at e
    cases e
  · exact h4
theorem plS_stop {p : List (List Stp)} {n : Nat} {st : LkS} (ha : allO n st = true) : ∀ f, plS p n f st = st
  | 0 => rfl
  | f + 1 => by unfold plS; rw [if_pos ha]
theorem plS_go {p : List (List Stp)} {n f : Nat} {st : LkS} (ha : allO n st = false) : plS p n (f + 1) st = plS p n f (rnS p n st) := by
  show (if allO n st = true then st else plS p n f (rnS p n st)) = _
  rw [if_neg (by rw [ha]; simp)]
/-- The first ones are over. -/
def lftB (st : LkS) (k : Nat) : Bool := (List.range k).any fun t => !st.ov t
theorem lftB_succ (st : LkS) (k : Nat) : lftB st (k + 1) = (lftB st k || !st.ov k) := by simp [lftB, List.range_succ, List.any_append]
theorem lftB_all (st : LkS) (n : Nat) : lftB st n = !allO n st := by
  unfold lftB allO
  rw [List.not_all_eq_any_not]
end Go.Proofs.YthmiocbihhbdpaaDoor
