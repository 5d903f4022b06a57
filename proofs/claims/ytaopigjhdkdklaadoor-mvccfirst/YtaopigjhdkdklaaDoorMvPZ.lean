/-
  Chapter 14 in plain Lean: a base on snapshots; what is kept whatever is asked.
  Chapter 14 in plain Lean: what leads to what on snapshots, by times; FEKETE: what goes round has a pivot; a careful base has none.
  Chapter 14 in plain Lean: the story of a base: it may be; what is found in it; Fekete's pivot; a careful base is serial.
-/
import Derived.Test.YtaopigjhdkdklaaDoorGhPZ
import Derived.Test.YtaopigjhdkdklaaDoorKvPZ
namespace Go.Proofs.YtaopigjhdkdklaaDoor

def updM {α : Type} (f : Nat → α) (t : Nat) (x : α) : Nat → α := fun k => if k = t then x else f k
theorem updM_same {α : Type} (f : Nat → α) (t : Nat) (x : α) : updM f t x t = x := if_pos rfl
theorem updM_ne {α : Type} (f : Nat → α) {t k : Nat} (x : α) (h : k ≠ t) : updM f t x k = f k := if_neg h
/-- How often a key is written. -/
def wrN (l : List IOp) (key : Int) : Nat := l.countP fun o => o.wr && o.key == key
theorem wrN_app (l : List IOp) (o : IOp) (key : Int) : wrN (l ++ [o]) key = wrN l key + if o.wr = true ∧ o.key = key then 1 else 0 := by
  unfold wrN
  rw [List.countP_append]
  congr 1
  by_cases h : o.wr = true ∧ o.key = key
  · rw [if_pos h]
    simp [h.1, h.2]
  · rw [if_neg h, List.countP_eq_zero]
    intro a ha
    rw [List.mem_singleton] at ha
    subst ha
    simpa using h
theorem wrN_pos {l : List IOp} {key : Int} : 0 < wrN l key ↔ ∃ o ∈ l, o.wr = true ∧ o.key = key := by
  unfold wrN
  rw [List.countP_pos_iff]
  constructor
  · rintro ⟨o, ho, h⟩
    simp at h
    exact ⟨o, ho, h⟩
  · rintro ⟨o, ho, h1, h2⟩
    exact ⟨o, ho, by simp [h1, h2]⟩
/-- Of each transaction what it did, whether it commits, whether it is over, when it began and committed (-1: not); of each key who committed it, in order; the time. -/
structure MvS where
  ops : Nat → List IOp
  com : Nat → Bool
  ov : Nat → Bool
  bg : Nat → Int
  en : Nat → Int
  ord : Nat → List Nat
  tm : Int
def mv0 : MvS := ⟨fun _ => [], fun _ => false, fun _ => false, fun _ => -1, fun _ => -1, fun _ => [], 0⟩
/-- The last one that committed a key ahead of one's begin. -/
def befM (st : MvS) (t key : Nat) : Option Nat := ((st.ord key).filter fun x => decide (st.en x < st.bg t)).getLast?
/-- What is read. -/
def rdM (st : MvS) (t key : Nat) : IOp :=
  if 0 < wrN (st.ops t) key then ⟨false, key, t, (wrN (st.ops t) key : Int) - 1⟩
  else match befM st t key with
    | some x => ⟨false, key, x, (wrN (st.ops x) key : Int) - 1⟩
    | none => ⟨false, key, -1, 0⟩
/-- Another one committed, behind one's begin, what one wrote. -/
def oldB (st : MvS) (t : Nat) : Bool := (List.range 8).any fun k => (st.ord k).any fun x => decide (0 < wrN (st.ops t) k) && decide (st.bg t < st.en x)
/-- One points at another one. -/
def ptsB (st : MvS) (en : Nat → Int) (i k : Nat) : Bool := (decide (i ≠ k) && (decide (0 ≤ en i) && decide (0 ≤ en k)) && (decide (st.bg k ≤ en i) && decide (st.bg i ≤ en k))) && (st.ops i).any fun o => !o.wr && decide (o.frm ≠ (i : Int)) && decide (0 < wrN (st.ops k) o.key)
def pivB (st : MvS) (en : Nat → Int) (n t : Nat) : Bool := (List.range n).any fun m => (decide (m = t) || ptsB st en t m || ptsB st en m t) && ((List.range n).any fun x => ptsB st en x m) && ((List.range n).any fun x => ptsB st en m x)
def begM (st : MvS) (t : Nat) : MvS := { st with bg := updM st.bg t (st.tm + 1), tm := st.tm + 1 }
def pushM (st : MvS) (t : Nat) (o : IOp) : MvS := { st with ops := updM st.ops t (st.ops t ++ [o]), tm := st.tm + 1 }
def aboM (st : MvS) (t : Nat) : MvS := { st with ov := updM st.ov t true, tm := st.tm + 1 }
def comM (st : MvS) (t : Nat) : MvS := { st with ov := updM st.ov t true, tm := st.tm + 1, en := updM st.en t (st.tm + 1), com := updM st.com t true, ord := fun k => if 0 < wrN (st.ops t) k then st.ord k ++ [t] else st.ord k }
/-- The fault of an ask, ahead of a commit's own. -/
def fltA (n : Nat) (st : MvS) (p k m : Int) : Int :=
  if p < 0 ∨ (n : Int) ≤ p ∨ m < 0 ∨ 7 < m then 2
  else if k < 1 ∨ 5 < k ∨ (k ≠ 2 ∧ k ≠ 3 ∧ m ≠ 0) then 1
  else if st.ov p.toNat = true ∨ (0 ≤ st.bg p.toNat ↔ k = 1) then 6
  else if (st.ops p.toNat).length = 60 ∧ (k = 2 ∨ k = 3) then 4 else 0
def refB (c : Bool) (n : Nat) (st : MvS) (t : Nat) : Bool := oldB st t || (c && pivB st (updM st.en t (st.tm + 1)) n t)
/-- What an ask tells, and makes. -/
def tellM (c : Bool) (n : Nat) (st : MvS) (p k m : Int) : Int := if fltA n st p k m ≠ 0 then fltA n st p k m else if k = 4 ∧ refB c n st p.toNat = true then 12 else 0
def doM (c : Bool) (n : Nat) (st : MvS) (p k m : Int) : MvS :=
  if fltA n st p k m ≠ 0 then st
  else if k = 1 then begM st p.toNat
  else if k = 2 then pushM st p.toNat (rdM st p.toNat m.toNat)
  else if k = 3 then pushM st p.toNat ⟨true, m, 0, 0⟩
  else if k = 4 then (if refB c n st p.toNat = true then aboM st p.toNat else comM st p.toNat)
  else aboM st p.toNat
/-- An op that may be. -/
def OpOk (st : MvS) (t : Nat) (o : IOp) : Prop := (0 ≤ o.key ∧ o.key ≤ 7) ∧ ((o.wr = true ∧ o.frm = 0 ∧ o.num = 0) ∨ (o.wr = false ∧
  ((o.frm = (t : Int) ∧ 0 ≤ o.num ∧ o.num < wrN (st.ops t) o.key) ∨ (o.frm = -1 ∧ o.num = 0 ∧ ∀ x ∈ st.ord o.key.toNat, st.bg t < st.en x) ∨
    ∃ x : Nat, o.frm = (x : Int) ∧ x ≠ t ∧ o.num + 1 = wrN (st.ops x) o.key ∧ ∃ A B, st.ord o.key.toNat = A ++ x :: B ∧ st.en x < st.bg t ∧ ∀ y ∈ B, st.bg t < st.en y)))
/-- What is kept. -/
structure MvI (n : Nat) (st : MvS) : Prop where
  tm0 : 0 ≤ st.tm
  bgl : ∀ t, st.bg t ≤ st.tm ∧ (st.bg t = -1 ∨ 0 < st.bg t)
  enl : ∀ t, st.en t ≤ st.tm ∧ (st.en t = -1 ∨ 0 < st.en t)
  com : ∀ t, st.com t = true ↔ 0 < st.en t
  cov : ∀ t, st.com t = true → st.ov t = true ∧ 0 < st.bg t ∧ st.bg t < st.en t ∧ t < n
  nob : ∀ t, st.bg t = -1 → st.ops t = []
  opl : ∀ t, (st.ops t).length ≤ 60
  rng : ∀ t, n ≤ t → st.ops t = []
  inj : ∀ t u, 0 < st.en t → st.en t ≠ st.bg u
  ordm : ∀ k, k < 8 → ∀ t, t ∈ st.ord k ↔ st.com t = true ∧ 0 < wrN (st.ops t) k
  ordp : ∀ k, k < 8 → (st.ord k).Pairwise fun a b => st.en a < st.bg b
  ops : ∀ t, ∀ o ∈ st.ops t, OpOk st t o
theorem MvI.start (n : Nat) : MvI n mv0 where
  tm0 := Int.le_refl _
  bgl := fun _ => ⟨by show (-1 : Int) ≤ 0; decide, .inl rfl⟩
  enl := fun _ => ⟨by show (-1 : Int) ≤ 0; decide, .inl rfl⟩
  com := fun _ => ⟨(fun h => by cases h), (fun h => absurd (show (0 : Int) < -1 from h) (by decide))⟩
  cov := fun _ h => by cases h
  nob := fun _ _ => rfl
  opl := fun _ => Nat.zero_le _
  rng := fun _ _ => rfl
  inj := fun _ _ h => absurd (show (0 : Int) < -1 from h) (by decide)
  ordm := fun k _ t => ⟨(fun h => by cases h), (fun h => by cases h.1)⟩
  ordp := fun _ _ => List.Pairwise.nil
  ops := fun _ _ h => by cases h
section
variable {n : Nat} {st : MvS}
/-- What is read may be. -/
theorem last_split {st : MvS} {t key : Nat} : (befM st t key = none → ∀ x ∈ st.ord key, ¬ st.en x < st.bg t) ∧ (∀ x, befM st t key = some x → ∃ A B, st.ord key = A ++ x :: B ∧ st.en x < st.bg t ∧ ∀ y ∈ B, ¬ st.en y < st.bg t) := by
  unfold befM
  generalize st.ord key = l
  constructor
  · intro h x hx hlt
    rw [List.getLast?_eq_none_iff] at h
    have : x ∈ l.filter fun x => decide (st.en x < st.bg t) := List.mem_filter.2 ⟨hx, by simpa using hlt⟩
    rw [h] at this
    cases this
  · intro x h
    have key : ∀ l : List Nat, ((l.filter fun x => decide (st.en x < st.bg t)).getLast? = some x → ∃ A B, l = A ++ x :: B ∧ st.en x < st.bg t ∧ ∀ y ∈ B, ¬ st.en y < st.bg t) := fun l => by
      rw [← l.reverse_reverse]
      induction l.reverse with
      | nil => intro h; simp at h
      | cons a r ih =>
        intro h
        rw [List.reverse_cons] at h ⊢
        rw [List.filter_append] at h
        by_cases ha : st.en a < st.bg t
        · rw [List.filter_cons_of_pos (by simpa using ha)] at h
          simp at h
          subst h
          exact ⟨r.reverse, [], rfl, ha, fun y hy => by cases hy⟩
        · rw [List.filter_cons_of_neg (by simpa using ha)] at h
          simp only [List.filter_nil, List.append_nil] at h
          obtain ⟨A, B, e, h1, h2⟩ := ih h
          refine ⟨A, B ++ [a], by rw [e]; simp, h1, fun y hy => ?_⟩
          rcases List.mem_append.1 hy with hy | hy
          · exact h2 y hy
          · rw [List.mem_singleton] at hy
            subst hy
            exact ha
    exact key l h
theorem MvI.pos_of_mem (h : MvI n st) {k x : Nat} (hk : k < 8) (hx : x ∈ st.ord k) : 0 < st.en x ∧ 0 < wrN (st.ops x) k ∧ st.com x = true := by
  obtain ⟨h1, h2⟩ := (h.ordm k hk x).1 hx
  exact ⟨(h.com x).1 h1, h2, h1⟩
theorem MvI.read (h : MvI n st) {t key : Nat} (hk : key < 8) : OpOk st t (rdM st t key) := by
  unfold rdM
  by_cases hw : 0 < wrN (st.ops t) key
  · rw [if_pos hw]
    exact ⟨by dsimp only; omega, .inr ⟨rfl, .inl ⟨rfl, by dsimp only; omega, by dsimp only; omega⟩⟩⟩
  · rw [if_neg hw]
    have lt : ∀ x ∈ st.ord key, ¬ st.en x < st.bg t → st.bg t < st.en x := fun x hx hn => by
      have h1 := h.inj x t (h.pos_of_mem hk hx).1
      omega
    obtain ⟨l1, l2⟩ := last_split (st := st) (t := t) (key := key)
    cases e : befM st t key with
    | none =>
      refine ⟨by dsimp only; omega, .inr ⟨rfl, .inr (.inl ⟨rfl, rfl, ?_⟩)⟩⟩
      dsimp only
      rw [Int.toNat_natCast]
      exact fun x hx => lt x hx (l1 e x hx)
    | some x =>
      obtain ⟨A, B, e1, h1, h2⟩ := l2 x e
      have hx : x ∈ st.ord key := by rw [e1]; simp
      have hp := (h.pos_of_mem hk hx).2.1
      refine ⟨by dsimp only; omega, .inr ⟨rfl, .inr (.inr ⟨x, rfl, fun ex => ?_, by dsimp only; omega, A, B, ?_, h1, fun y hy => lt y (by rw [e1]; simp [hy]) (h2 y hy)⟩)⟩⟩
      · subst ex; exact hw hp
      · dsimp only
        rw [Int.toNat_natCast]
        exact e1
/-- What a transaction that commits has done stays. -/
theorem OpOk.turn {st' : MvS} {t : Nat} {o : IOp} (h : OpOk st t o) (hw : wrN (st.ops t) o.key ≤ wrN (st'.ops t) o.key) (hb : st'.bg t = st.bg t) (ho : ∀ k, k < 8 → ∃ C, st'.ord k = st.ord k ++ C ∧ ∀ y ∈ C, st.bg t < st'.en y)
    (hx : ∀ k, k < 8 → ∀ x ∈ st.ord k, st'.en x = st.en x ∧ st'.ops x = st.ops x) : OpOk st' t o := by
  obtain ⟨hk, h⟩ := h
  have hk8 : o.key.toNat < 8 := by omega
  refine ⟨hk, h.imp id fun ⟨h1, h2⟩ => ⟨h1, ?_⟩⟩
  obtain ⟨C, eC, hC⟩ := ho _ hk8
  rcases h2 with ⟨a, b, c⟩ | ⟨a, b, c⟩ | ⟨x, a, b, c, A, B, d, e, f⟩
  · exact .inl ⟨a, b, by omega⟩
  · refine .inr (.inl ⟨a, b, fun x hxm => ?_⟩)
    rw [hb]
    rw [eC] at hxm
    rcases List.mem_append.1 hxm with hm | hm
    · rw [(hx _ hk8 x hm).1]; exact c x hm
    · exact hC x hm
  · have hxm : x ∈ st.ord o.key.toNat := by rw [d]; simp
    refine .inr (.inr ⟨x, a, b, by rw [(hx _ hk8 x hxm).2]; exact c, A, B ++ C, by rw [eC, d]; simp, by rw [hb, (hx _ hk8 x hxm).1]; exact e, fun y hy => ?_⟩)
    rw [hb]
    rcases List.mem_append.1 hy with hm | hm
    · rw [(hx _ hk8 y (by rw [d]; simp [hm])).1]; exact f y hm
    · exact hC y hm
theorem MvI.beg (h : MvI n st) {t : Nat} (hb : st.bg t = -1) : MvI n (begM st t) := by
  have t0 := h.tm0
  have hc : st.com t = false := by
    cases e : st.com t
    · rfl
    · have := (h.cov t e).2.1; omega
  have hbt : ∀ u, (begM st t).bg u = updM st.bg t (st.tm + 1) u := fun _ => rfl
  have hne : ∀ {u}, st.com u = true → u ≠ t := fun hu e => by rw [e, hc] at hu; cases hu
  refine ⟨by show 0 ≤ st.tm + 1; omega, fun u => ?_, fun u => ?_, h.com, fun u hu => ?_, fun u hu => ?_, h.opl, h.rng, fun u v hu => ?_, h.ordm, fun k hk => ?_, fun u o ho => ?_⟩
  · show updM st.bg t (st.tm + 1) u ≤ st.tm + 1 ∧ (updM st.bg t (st.tm + 1) u = -1 ∨ 0 < updM st.bg t (st.tm + 1) u)
    by_cases e : u = t
    · rw [e, updM_same]; omega
    · rw [updM_ne _ _ e]; have := h.bgl u; omega
  · show st.en u ≤ st.tm + 1 ∧ _
    have := h.enl u
    exact ⟨by omega, this.2⟩
  · obtain ⟨a, b, c, d⟩ := h.cov u hu
    rw [hbt, updM_ne _ _ (hne hu)]
    exact ⟨a, b, c, d⟩
  · rw [hbt] at hu
    by_cases e : u = t
    · rw [e, updM_same] at hu; omega
    · rw [updM_ne _ _ e] at hu; exact h.nob u hu
  · have hu : 0 < st.en u := hu
    show st.en u ≠ updM st.bg t (st.tm + 1) v
    by_cases e : v = t
    · rw [e, updM_same]; have := (h.enl u).1; omega
    · rw [updM_ne _ _ e]; exact h.inj u v hu
  · refine (h.ordp k hk).imp_of_mem fun {a b} ha hb' hab => ?_
    rw [hbt, updM_ne _ _ (hne ((h.ordm k hk b).1 hb').1)]
    exact hab
  · have ho : o ∈ st.ops u := ho
    have hu : u ≠ t := fun e => by rw [e, h.nob t hb] at ho; cases ho
    exact (h.ops u o ho).turn (Nat.le_refl _) (by rw [hbt, updM_ne _ _ hu]) (fun k _ => ⟨[], by simp [begM], fun y hy => by cases hy⟩) (fun _ _ x _ => ⟨rfl, rfl⟩)
theorem MvI.push (h : MvI n st) {t : Nat} (ht : t < n) (hb : st.bg t ≠ -1) (ho : st.ov t = false) (hl : (st.ops t).length < 60) {o : IOp} (hok : OpOk st t o) : MvI n (pushM st t o) := by
  have t0 := h.tm0
  have hc : st.com t = false := by
    cases e : st.com t
    · rfl
    · rw [(h.cov t e).1] at ho; cases ho
  have hop : ∀ u, u ≠ t → (pushM st t o).ops u = st.ops u := fun u hu => updM_ne _ _ hu
  have hot : (pushM st t o).ops t = st.ops t ++ [o] := updM_same _ _ _
  have hne : ∀ {u}, st.com u = true → u ≠ t := fun hu e => by rw [e, hc] at hu; cases hu
  have hwr : ∀ u key, wrN (st.ops u) key ≤ wrN ((pushM st t o).ops u) key := fun u key => by
    by_cases e : u = t
    · rw [e, hot, wrN_app]; omega
    · rw [hop u e]; exact Nat.le_refl _
  have hturn : ∀ u o', OpOk st u o' → OpOk (pushM st t o) u o' := fun u o' h' => h'.turn (hwr u _) rfl (fun k _ => ⟨[], by simp [pushM], fun y hy => by cases hy⟩) (fun k hk x hx => ⟨rfl, hop x (hne (h.pos_of_mem hk hx).2.2)⟩)
  refine ⟨by show 0 ≤ st.tm + 1; omega, fun u => ?_, fun u => ?_, h.com, h.cov, fun u hu => ?_, fun u => ?_, fun u hu => ?_, h.inj, fun k hk u => ?_, h.ordp, fun u o' ho' => ?_⟩
  · show st.bg u ≤ st.tm + 1 ∧ _
    have := h.bgl u
    exact ⟨by omega, this.2⟩
  · show st.en u ≤ st.tm + 1 ∧ _
    have := h.enl u
    exact ⟨by omega, this.2⟩
  · have hu : st.bg u = -1 := hu
    rw [hop u (fun e => by rw [e] at hu; exact hb hu)]
    exact h.nob u hu
  · by_cases e : u = t
    · rw [e, hot]; simp; omega
    · rw [hop u e]; exact h.opl u
  · rw [hop u (by omega)]; exact h.rng u hu
  · show u ∈ st.ord k ↔ st.com u = true ∧ _
    rw [h.ordm k hk u]
    by_cases e : u = t
    · rw [e, hc]; simp
    · rw [hop u e]
  · by_cases e : u = t
    · subst e
      rw [hot] at ho'
      rcases List.mem_append.1 ho' with hm | hm
      · exact hturn u o' (h.ops u o' hm)
      · rw [List.mem_singleton] at hm
        subst hm
        exact hturn u _ hok
    · rw [hop u e] at ho'
      exact hturn u o' (h.ops u o' ho')
theorem MvI.abo (h : MvI n st) (t : Nat) : MvI n (aboM st t) := by
  have t0 := h.tm0
  refine ⟨by show 0 ≤ st.tm + 1; omega, fun u => ?_, fun u => ?_, h.com, fun u hu => ?_, h.nob, h.opl, h.rng, h.inj, h.ordm, h.ordp, h.ops⟩
  · show st.bg u ≤ st.tm + 1 ∧ _
    have := h.bgl u
    exact ⟨by omega, this.2⟩
  · show st.en u ≤ st.tm + 1 ∧ _
    have := h.enl u
    exact ⟨by omega, this.2⟩
  · obtain ⟨a, b⟩ := h.cov u hu
    refine ⟨?_, b⟩
    show updM st.ov t true u = true
    by_cases e : u = t
    · rw [e, updM_same]
    · rw [updM_ne _ _ e]; exact a
theorem MvI.cmt (h : MvI n st) {t : Nat} (ht : t < n) (hb : st.bg t ≠ -1) (ho : st.ov t = false) (hold : oldB st t = false) : MvI n (comM st t) := by
  have t0 := h.tm0
  have hc : st.com t = false := by
    cases e : st.com t
    · rfl
    · rw [(h.cov t e).1] at ho; cases ho
  have hne : ∀ {u}, st.com u = true → u ≠ t := fun hu e => by rw [e, hc] at hu; cases hu
  have hen : ∀ u, u ≠ t → (comM st t).en u = st.en u := fun u hu => updM_ne _ _ hu
  have het : (comM st t).en t = st.tm + 1 := updM_same _ _ _
  have hord : ∀ k, (comM st t).ord k = if 0 < wrN (st.ops t) k then st.ord k ++ [t] else st.ord k := fun _ => rfl
  have hold' : ∀ k : Nat, k < 8 → 0 < wrN (st.ops t) k → ∀ x ∈ st.ord k, st.en x < st.bg t := fun k hk hw x hx => by
    have h1 := List.any_eq_false.1 hold k (List.mem_range.2 hk)
    simp only [List.any_eq_true, Bool.and_eq_true, decide_eq_true_eq, not_exists, not_and] at h1
    have h2 := h1 x hx hw
    have h3 := h.inj x t (h.pos_of_mem hk hx).1
    omega
  have hturn : ∀ u o', OpOk st u o' → OpOk (comM st t) u o' := fun u o' h' => h'.turn (Nat.le_refl _) rfl (fun k hk => by
    rw [hord]
    by_cases hw : 0 < wrN (st.ops t) k
    · rw [if_pos hw]
      refine ⟨[t], rfl, fun y hy => ?_⟩
      rw [List.mem_singleton] at hy
      subst hy
      rw [het]
      have := (h.bgl u).1
      omega
    · rw [if_neg hw]
      exact ⟨[], by simp, fun y hy => by cases hy⟩) (fun k hk x hx => ⟨hen x (hne (h.pos_of_mem hk hx).2.2), rfl⟩)
  have hbt : 0 < st.bg t := by have := (h.bgl t).2; omega
  refine ⟨by show 0 ≤ st.tm + 1; omega, fun u => ?_, fun u => ?_, fun u => ?_, fun u hu => ?_, h.nob, h.opl, h.rng, fun u v hu => ?_, fun k hk u => ?_, fun k hk => ?_, fun u o' ho' => hturn u o' (h.ops u o' ho')⟩
  · show st.bg u ≤ st.tm + 1 ∧ _
    have := h.bgl u
    exact ⟨by omega, this.2⟩
  · show (comM st t).en u ≤ st.tm + 1 ∧ _
    by_cases e : u = t
    · rw [e, het]; omega
    · rw [hen u e]
      have := h.enl u
      exact ⟨by omega, this.2⟩
  · show updM st.com t true u = true ↔ _
    by_cases e : u = t
    · rw [e, updM_same, het]
      exact ⟨fun _ => by omega, fun _ => rfl⟩
    · rw [updM_ne _ _ e, hen u e]
      exact h.com u
  · have hu : updM st.com t true u = true := hu
    show updM st.ov t true u = true ∧ 0 < st.bg u ∧ st.bg u < (comM st t).en u ∧ u < n
    by_cases e : u = t
    · rw [e, updM_same, het]
      have := (h.bgl t).1
      exact ⟨rfl, hbt, by omega, ht⟩
    · rw [updM_ne _ _ e] at hu ⊢
      rw [hen u e]
      exact h.cov u hu
  · show (comM st t).en u ≠ st.bg v
    by_cases e : u = t
    · rw [e, het]; have := (h.bgl v).1; omega
    · rw [hen u e] at hu ⊢; exact h.inj u v hu
  · rw [hord]
    show _ ↔ updM st.com t true u = true ∧ 0 < wrN (st.ops u) k
    by_cases e : u = t
    · subst e
      rw [updM_same]
      by_cases hw : 0 < wrN (st.ops u) k
      · rw [if_pos hw]; simp [hw]
      · rw [if_neg hw, h.ordm k hk u, hc]; simp [hw]
    · rw [updM_ne _ _ e, ← h.ordm k hk u]
      by_cases hw : 0 < wrN (st.ops t) k
      · rw [if_pos hw]; simp [e]
      · rw [if_neg hw]
  · rw [hord]
    have h1 : (st.ord k).Pairwise fun a b => (comM st t).en a < (comM st t).bg b := (h.ordp k hk).imp_of_mem fun {a b} ha hb' hab => by
      rw [hen a (hne (h.pos_of_mem hk ha).2.2)]
      exact hab
    by_cases hw : 0 < wrN (st.ops t) k
    · rw [if_pos hw, List.pairwise_append]
      refine ⟨h1, List.pairwise_singleton _ _, fun a ha b hb' => ?_⟩
      rw [List.mem_singleton] at hb'
      subst hb'
      rw [hen a (hne (h.pos_of_mem hk ha).2.2)]
      exact hold' k hk hw a ha
    · rw [if_neg hw]; exact h1
/-- Whatever is asked. -/
theorem MvI.step (h : MvI n st) (c : Bool) (p k m : Int) : MvI n (doM c n st p k m) := by
  unfold doM
  by_cases hf : fltA n st p k m = 0
  · rw [if_neg (by simp [hf])]
    unfold fltA at hf
    split at hf
    · cases hf
    rename_i h1
    split at hf
    · cases hf
    rename_i h2
    split at hf
    · cases hf
    rename_i h3
    split at hf
    · cases hf
    rename_i h4
    have hpn : p.toNat < n := by omega
    have ho : st.ov p.toNat = false := by
      cases e : st.ov p.toNat
      · rfl
      · exact absurd (.inl e) h3
    have hb := h.bgl p.toNat
    have hl := h.opl p.toNat
    by_cases k1 : k = 1
    · rw [if_pos k1]
      refine h.beg ?_
      have : ¬ 0 ≤ st.bg p.toNat := fun hx => h3 (.inr ⟨fun _ => k1, fun _ => hx⟩)
      omega
    · rw [if_neg k1]
      have hbg : st.bg p.toNat ≠ -1 := fun hx => h3 (.inr ⟨fun h0 => by omega, fun hk => absurd hk k1⟩)
      by_cases k2 : k = 2
      · rw [if_pos k2]
        exact h.push hpn hbg ho (by omega) (h.read (by omega))
      · rw [if_neg k2]
        by_cases k3 : k = 3
        · rw [if_pos k3]
          exact h.push hpn hbg ho (by omega) ⟨by dsimp only; omega, .inl ⟨rfl, rfl, rfl⟩⟩
        · rw [if_neg k3]
          by_cases k4 : k = 4
          · rw [if_pos k4]
            cases hr : refB c n st p.toNat
            · rw [if_neg (by simp)]
              refine h.cmt hpn hbg ho ?_
              unfold refB at hr
              simp at hr
              exact hr.1
            · rw [if_pos rfl]
              exact h.abo _
          · rw [if_neg k4]
            exact h.abo _
  · rw [if_pos hf]
    exact h
end
end Go.Proofs.YtaopigjhdkdklaaDoor

namespace Go.Proofs.YtaopigjhdkdklaaDoor

/-! ### by times -/
/-- Right behind each other in a key's list. -/
def OvM (st : MvS) (i k : Nat) : Prop := ∃ key, key < 8 ∧ ∃ j, (st.ord key)[j]? = some i ∧ (st.ord key)[j + 1]? = some k
def SeM (st : MvS) (i k : Nat) : Prop := st.com k = true ∧ i ≠ k ∧ ∃ o ∈ st.ops k, o.wr = false ∧ o.frm = (i : Int)
def AnM (st : MvS) (i k : Nat) : Prop := st.com i = true ∧ k ≠ i ∧ ∃ o ∈ st.ops i, o.wr = false ∧ ((o.frm = -1 ∧ (st.ord o.key.toNat)[0]? = some k) ∨ ∃ x : Nat, o.frm = (x : Int) ∧ ∃ j, (st.ord o.key.toNat)[j]? = some x ∧ (st.ord o.key.toNat)[j + 1]? = some k)
section
variable {n : Nat} {st : MvS}
theorem MvI.ord_lt (h : MvI n st) {key : Nat} (hk : key < 8) {a b j l : Nat} (hj : (st.ord key)[j]? = some a) (hl : (st.ord key)[l]? = some b) (hjl : j < l) : st.en a < st.bg b := by
  obtain ⟨h1, e1⟩ := List.getElem?_eq_some_iff.1 hj
  obtain ⟨h2, e2⟩ := List.getElem?_eq_some_iff.1 hl
  have := List.pairwise_iff_getElem.1 (h.ordp key hk) j l h1 h2 hjl
  rw [e1, e2] at this
  exact this
theorem MvI.mem_com (h : MvI n st) {key : Nat} (hk : key < 8) {a j : Nat} (hj : (st.ord key)[j]? = some a) : st.com a = true ∧ 0 < wrN (st.ops a) key :=
  (h.ordm key hk a).1 (List.mem_of_getElem? hj)
theorem MvI.ord_nodup (h : MvI n st) {key : Nat} (hk : key < 8) : (st.ord key).Nodup := by
  rw [List.nodup_iff_pairwise_ne]
  refine (h.ordp key hk).imp_of_mem fun {a b} ha hb hab e => ?_
  subst e
  have := (h.cov a ((h.ordm key hk a).1 ha).1).2.2.1
  omega
theorem MvI.ov_time (h : MvI n st) {i k : Nat} (he : OvM st i k) : st.com i = true ∧ st.com k = true ∧ st.en i < st.bg k := by
  obtain ⟨key, hk, j, h1, h2⟩ := he
  exact ⟨(h.mem_com hk h1).1, (h.mem_com hk h2).1, h.ord_lt hk h1 h2 (Nat.lt_succ_self j)⟩
/-- What is read of another one is what it wrote last, and it committed ahead. -/
theorem MvI.read_other (h : MvI n st) {t : Nat} {o : IOp} (ho : o ∈ st.ops t) (hw : o.wr = false) {x : Nat} (hx : o.frm = (x : Int)) (hne : x ≠ t) : st.com x = true ∧ st.en x < st.bg t ∧ o.num + 1 = wrN (st.ops x) o.key ∧ x ∈ st.ord o.key.toNat := by
  obtain ⟨hk, h1⟩ := h.ops t o ho
  have hk8 : o.key.toNat < 8 := by omega
  rcases h1 with ⟨h1, _⟩ | ⟨_, ⟨h2, _⟩ | ⟨h2, _⟩ | ⟨y, h2, _, h4, A, B, h5, h6, _⟩⟩
  · rw [hw] at h1; cases h1
  · omega
  · omega
  · obtain rfl : y = x := by omega
    have hm : y ∈ st.ord o.key.toNat := by rw [h5]; simp
    exact ⟨((h.ordm _ hk8 y).1 hm).1, h6, h4, hm⟩
theorem MvI.se_time (h : MvI n st) {i k : Nat} (he : SeM st i k) : st.com i = true ∧ st.com k = true ∧ st.en i < st.bg k := by
  obtain ⟨hc, hne, o, ho, hw, hf⟩ := he
  obtain ⟨h1, h2, _⟩ := h.read_other ho hw hf hne
  exact ⟨h1, hc, h2⟩
/-- One reads, of others, what another one writes. -/
def RdW (st : MvS) (i k : Nat) : Prop := ∃ o ∈ st.ops i, o.wr = false ∧ o.frm ≠ (i : Int) ∧ 0 < wrN (st.ops k) o.key
theorem MvI.an_time (h : MvI n st) {i k : Nat} (he : AnM st i k) : st.com i = true ∧ st.com k = true ∧ ((∃ key, key < 8 ∧ i ∈ st.ord key ∧ st.en i < st.bg k) ∨ (st.bg i < st.en k ∧ RdW st i k)) := by
  obtain ⟨hc, hne, o, ho, hw, hx⟩ := he
  obtain ⟨hk, h1⟩ := h.ops i o ho
  have hk8 : o.key.toNat < 8 := by omega
  have hkey : ((o.key.toNat : Nat) : Int) = o.key := by omega
  rcases hx with ⟨hf, hk0⟩ | ⟨x, hf, j, hj, hj1⟩
  · obtain ⟨m1, m2⟩ := h.mem_com hk8 hk0
    rw [hkey] at m2
    refine ⟨hc, m1, .inr ⟨?_, o, ho, hw, by omega, m2⟩⟩
    rcases h1 with ⟨h1, _⟩ | ⟨_, ⟨h2, _⟩ | ⟨_, _, h4⟩ | ⟨y, h2, _⟩⟩
    · rw [hw] at h1; cases h1
    · omega
    · exact h4 k (List.mem_of_getElem? hk0)
    · omega
  · obtain ⟨m1, m2⟩ := h.mem_com hk8 hj1
    rw [hkey] at m2
    by_cases exi : x = i
    · subst exi
      exact ⟨hc, m1, .inl ⟨_, hk8, List.mem_of_getElem? hj, h.ord_lt hk8 hj hj1 (Nat.lt_succ_self j)⟩⟩
    · refine ⟨hc, m1, .inr ⟨?_, o, ho, hw, by omega, m2⟩⟩
      rcases h1 with ⟨h1, _⟩ | ⟨_, ⟨h2, _⟩ | ⟨h2, _⟩ | ⟨y, h2, _, _, A, B, h5, _, h7⟩⟩
      · rw [hw] at h1; cases h1
      · omega
      · omega
      · obtain rfl : y = x := by omega
        have hnd := h.ord_nodup hk8
        have e1 : (st.ord o.key.toNat)[A.length]? = some y := by rw [h5]; simp
        obtain ⟨q1, q2⟩ := List.getElem?_eq_some_iff.1 hj
        obtain ⟨p1, p2⟩ := List.getElem?_eq_some_iff.1 e1
        have ej : j = A.length := (List.getElem_inj hnd).1 (q2.trans p2.symm)
        rw [ej, h5, List.getElem?_append_right (by omega), show A.length + 1 - A.length = 1 by omega] at hj1
        exact h7 k (List.mem_of_getElem? (l := B) (i := 0) (by simpa using hj1))
end
/-! ### going round -/
theorem way_rise {R : Nat → Nat → Bool} {n : Nat} {bg en : Nat → Int} (hR : ∀ i k, R i k = true → en i < bg k ∧ bg k < en k) {i k : Nat} (h : Way R n i k) : en i < bg k ∧ bg k < en k := by
  induction h with
  | one _ _ h1 => exact hR _ _ h1
  | more _ _ h1 ih => have := hR _ _ h1; omega
theorem rise_round {R : Nat → Nat → Bool} {n : Nat} {bg en : Nat → Int} (hR : ∀ i k, R i k = true → en i < bg k ∧ bg k < en k) (x : Nat) : ¬ Way R n x x := fun h => by
  have := way_rise hR h
  omega
theorem least_of {P : Nat → Prop} (f : Nat → Int) : ∀ n, (∃ x, x < n ∧ P x) → ∃ x, x < n ∧ P x ∧ ∀ y, y < n → P y → f x ≤ f y
  | 0, ⟨x, hx, _⟩ => absurd hx (by omega)
  | n + 1, ⟨x, hx, px⟩ => by
    by_cases hP : ∃ x, x < n ∧ P x
    · obtain ⟨z, hz, pz, lz⟩ := least_of f n hP
      by_cases hn : P n ∧ f n < f z
      · refine ⟨n, by omega, hn.1, fun y hy py => ?_⟩
        by_cases e : y = n
        · rw [e]; exact Int.le_refl _
        · have := lz y (by omega) py; omega
      · refine ⟨z, by omega, pz, fun y hy py => ?_⟩
        by_cases e : y = n
        · subst e
          refine Int.not_lt.1 fun hlt => hn ⟨py, hlt⟩
        · exact lz y (by omega) py
    · have e : x = n := Classical.byContradiction fun h => hP ⟨x, by omega, px⟩
      subst e
      refine ⟨x, by omega, px, fun y hy py => ?_⟩
      by_cases e : y = x
      · rw [e]; exact Int.le_refl _
      · exact absurd ⟨y, by omega, py⟩ hP
theorem way_last {R : Nat → Nat → Bool} {n x : Nat} (h : Way R n x x) : ∃ b, b < n ∧ R b x = true ∧ Way R n b b := by
  cases h with
  | one hi hk h1 => exact ⟨x, hi, h1, .one hi hk h1⟩
  | @more j _ hw hk h1 => exact ⟨j, hw.lt.2, h1, (Way.one hw.lt.2 hk h1).trans hw⟩
/-- FEKETE: what goes round goes twice in a row by what is read anew at the same time. -/
theorem fekete {R : Nat → Nat → Bool} {V : Nat → Nat → Prop} {n : Nat} {bg en : Nat → Int} (hR : ∀ i k, R i k = true → bg k < en k ∧ (en i < bg k ∨ (V i k ∧ bg i < en k))) (h : ∃ x, Way R n x x) :
    ∃ a b c, a < n ∧ b < n ∧ c < n ∧ V a b ∧ V b c ∧ R a b = true ∧ R b c = true := by
  obtain ⟨x0, h0⟩ := h
  obtain ⟨x, hx, wx, lx⟩ := least_of (P := fun x => Way R n x x) en n ⟨x0, h0.lt.1, h0⟩
  obtain ⟨b, hb, rb, wb⟩ := way_last wx
  obtain ⟨a, ha, ra, wa⟩ := way_last wb
  have l1 := lx b hb wb
  have l2 := lx a ha wa
  obtain ⟨e1, h1⟩ := hR b x rb
  obtain ⟨e2, h2⟩ := hR a b ra
  rcases h1 with h1 | ⟨v1, t1⟩
  · omega
  · rcases h2 with h2 | ⟨v2, t2⟩
    · omega
    · exact ⟨a, b, x, ha, hb, hx, v2, v1, ra, rb⟩
/-! ### a careful base -/
/-- Nobody both points at one and is pointed at. -/
def PvI (st : MvS) : Prop := ∀ x m y, ptsB st st.en x m = true → ptsB st st.en m y = true → False
theorem pts_iff {st : MvS} {en : Nat → Int} {i k : Nat} : ptsB st en i k = true ↔ i ≠ k ∧ (0 ≤ en i ∧ 0 ≤ en k) ∧ (st.bg k ≤ en i ∧ st.bg i ≤ en k) ∧ RdW st i k := by
  unfold ptsB RdW
  simp only [Bool.and_eq_true, decide_eq_true_eq, List.any_eq_true, Bool.not_eq_true', and_assoc]
theorem pts_same {st st' : MvS} {en en' : Nat → Int} {i k : Nat} (hi : 0 ≤ en' i → en i = en' i ∧ st.ops i = st'.ops i ∧ st.bg i = st'.bg i) (hk : 0 ≤ en' k → en k = en' k ∧ st.ops k = st'.ops k ∧ st.bg k = st'.bg k) (h : ptsB st' en' i k = true) : ptsB st en i k = true := by
  obtain ⟨h1, ⟨h2, h3⟩, h4, o, ho, hw, hf, hr⟩ := pts_iff.1 h
  obtain ⟨a1, a2, a3⟩ := hi h2
  obtain ⟨b1, b2, b3⟩ := hk h3
  exact pts_iff.2 ⟨h1, ⟨by omega, by omega⟩, ⟨by omega, by omega⟩, o, by rw [a2]; exact ho, hw, hf, by rw [b2]; exact hr⟩
section
variable {n : Nat} {st : MvS}
theorem PvI.same {st' : MvS} (h : PvI st) (hs : ∀ i, 0 ≤ st'.en i → st.en i = st'.en i ∧ st.ops i = st'.ops i ∧ st.bg i = st'.bg i) : PvI st' := fun x m y h1 h2 =>
  h x m y (pts_same (hs x) (hs m) h1) (pts_same (hs m) (hs y) h2)
theorem MvI.pos_com (h : MvI n st) {t : Nat} (ht : 0 ≤ st.en t) : st.com t = true := (h.com t).2 (by have := (h.enl t).2; omega)
theorem PvI.cmt (h : PvI st) (hI : MvI n st) {t : Nat} (ht : t < n) (hp : pivB st (updM st.en t (st.tm + 1)) n t = false) : PvI (comM st t) := fun x m y h1 h2 => by
  have hlt : ∀ {u}, 0 ≤ updM st.en t (st.tm + 1) u → u < n := fun {u} hu => by
    by_cases e : u = t
    · rw [e]; exact ht
    · rw [updM_ne _ _ e] at hu
      exact (hI.cov u (hI.pos_com hu)).2.2.2
  have h1' : ptsB st (updM st.en t (st.tm + 1)) x m = true := pts_same (fun _ => ⟨rfl, rfl, rfl⟩) (fun _ => ⟨rfl, rfl, rfl⟩) h1
  have h2' : ptsB st (updM st.en t (st.tm + 1)) m y = true := pts_same (fun _ => ⟨rfl, rfl, rfl⟩) (fun _ => ⟨rfl, rfl, rfl⟩) h2
  obtain ⟨_, ⟨p1, p2⟩, _⟩ := pts_iff.1 h1'
  obtain ⟨_, ⟨_, p3⟩, _⟩ := pts_iff.1 h2'
  by_cases hnear : m = t ∨ x = t ∨ y = t
  · have hm := List.any_eq_false.1 hp m (List.mem_range.2 (hlt p2))
    refine hm ?_
    have a1 : ((List.range n).any fun z => ptsB st (updM st.en t (st.tm + 1)) z m) = true := List.any_eq_true.2 ⟨x, List.mem_range.2 (hlt p1), h1'⟩
    have a2 : ((List.range n).any fun z => ptsB st (updM st.en t (st.tm + 1)) m z) = true := List.any_eq_true.2 ⟨y, List.mem_range.2 (hlt p3), h2'⟩
    rw [a1, a2]
    rcases hnear with e | e | e
    · simp [e]
    · rw [e] at h1'; simp [h1']
    · rw [e] at h2'; simp [h2']
  · have hs : ∀ u, u ≠ t → st.en u = updM st.en t (st.tm + 1) u := fun u hu => (updM_ne _ _ hu).symm
    have hx : x ≠ t := fun e => hnear (.inr (.inl e))
    have hm : m ≠ t := fun e => hnear (.inl e)
    have hy : y ≠ t := fun e => hnear (.inr (.inr e))
    exact h x m y (pts_same (fun _ => ⟨hs x hx, rfl, rfl⟩) (fun _ => ⟨hs m hm, rfl, rfl⟩) h1') (pts_same (fun _ => ⟨hs m hm, rfl, rfl⟩) (fun _ => ⟨hs y hy, rfl, rfl⟩) h2')
/-- Whatever is asked of a careful base. -/
theorem PvI.step (h : PvI st) (hI : MvI n st) (p k m : Int) : PvI (doM true n st p k m) := by
  unfold doM
  by_cases hf : fltA n st p k m = 0
  · rw [if_neg (by simp [hf])]
    unfold fltA at hf
    split at hf
    · cases hf
    rename_i h1
    split at hf
    · cases hf
    rename_i h2
    split at hf
    · cases hf
    rename_i h3
    split at hf
    · cases hf
    rename_i h4
    have hpn : p.toNat < n := by omega
    have ho : st.ov p.toNat = false := by
      cases e : st.ov p.toNat
      · rfl
      · exact absurd (.inl e) h3
    have hnc : ∀ u, 0 ≤ st.en u → u ≠ p.toNat := fun u hu e => by
      have := (hI.cov u (hI.pos_com hu)).1
      rw [e, ho] at this
      cases this
    by_cases k1 : k = 1
    · rw [if_pos k1]
      exact h.same fun u hu => ⟨rfl, rfl, (updM_ne _ _ (hnc u hu)).symm⟩
    · rw [if_neg k1]
      by_cases k2 : k = 2
      · rw [if_pos k2]
        exact h.same fun u hu => ⟨rfl, (updM_ne _ _ (hnc u hu)).symm, rfl⟩
      · rw [if_neg k2]
        by_cases k3 : k = 3
        · rw [if_pos k3]
          exact h.same fun u hu => ⟨rfl, (updM_ne _ _ (hnc u hu)).symm, rfl⟩
        · rw [if_neg k3]
          by_cases k4 : k = 4
          · rw [if_pos k4]
            cases hr : refB true n st p.toNat
            · rw [if_neg (by simp)]
              refine h.cmt hI hpn ?_
              unfold refB at hr
              simp at hr
              exact hr.2
            · rw [if_pos rfl]
              exact h.same fun u _ => ⟨rfl, rfl, rfl⟩
          · rw [if_neg k4]
            exact h.same fun u _ => ⟨rfl, rfl, rfl⟩
  · rw [if_pos hf]
    exact h
end
/-- Row of asks. -/
def runM (c : Bool) (n : Nat) (st : MvS) (l : List (Int × Int × Int)) : MvS := l.foldl (fun st a => doM c n st a.1 a.2.1 a.2.2) st
theorem runM_app (c : Bool) (n : Nat) (st : MvS) (l : List (Int × Int × Int)) (a : Int × Int × Int) : runM c n st (l ++ [a]) = doM c n (runM c n st l) a.1 a.2.1 a.2.2 := by
  unfold runM
  rw [List.foldl_append]
  rfl
theorem run_ok (c : Bool) (n : Nat) : ∀ (l : List (Int × Int × Int)) {st : MvS}, MvI n st → MvI n (runM c n st l)
  | [], _, h => h
  | a :: l, _, h => run_ok c n l (h.step c a.1 a.2.1 a.2.2)
theorem run_pv (n : Nat) : ∀ (l : List (Int × Int × Int)) {st : MvS}, MvI n st → PvI st → PvI (runM true n st l)
  | [], _, _, h => h
  | a :: l, _, hI, h => run_pv n l (hI.step true a.1 a.2.1 a.2.2) (h.step hI a.1 a.2.1 a.2.2)
theorem PvI.start : PvI mv0 := fun x m y h _ => by
  obtain ⟨_, ⟨h1, _⟩, _⟩ := pts_iff.1 h
  exact absurd (show (0 : Int) ≤ -1 from h1) (by decide)
end Go.Proofs.YtaopigjhdkdklaaDoor

namespace Go.Proofs.YtaopigjhdkdklaaDoor

/-- The story of a base. -/
def mvSt (n : Nat) (st : MvS) : ISt := ⟨(List.range n).map fun t => ⟨st.ops t, st.com t⟩, (List.range 8).map fun k => (st.ord k).map fun q : Nat => (q : Int)⟩
section
variable {n : Nat} {st : MvS}
theorem mv_len (n : Nat) (st : MvS) : (mvSt n st).txs.length = n := by simp [mvSt]
theorem mv_ord (n : Nat) (st : MvS) : (mvSt n st).ord.length = 8 := by simp [mvSt]
theorem MvI.tx (h : MvI n st) (t : Nat) : txI (mvSt n st) (t : Int) = ⟨st.ops t, st.com t⟩ := by
  unfold txI mvSt
  rw [List.getD_eq_getElem?_getD, Int.toNat_natCast]
  by_cases ht : t < n
  · rw [List.getElem?_eq_getElem (by simpa using ht)]
    simp
  · rw [List.getElem?_eq_none (by simpa using ht), h.rng t (by omega)]
    have : st.com t = false := by
      cases e : st.com t
      · rfl
      · exact absurd (h.cov t e).2.2.2 ht
    rw [this]
    rfl
theorem MvI.comI_ (h : MvI n st) (t : Nat) : comI (mvSt n st) (t : Int) = st.com t := by unfold comI; rw [h.tx t]
theorem MvI.wroI_ (h : MvI n st) (t : Nat) (key : Int) : wroI (mvSt n st) (t : Int) key = wrN (st.ops t) key := by unfold wroI; rw [h.tx t]; rfl
theorem mv_lst {k : Nat} (hk : k < 8) : lstK (mvSt n st) (k : Int) = (st.ord k).map fun q : Nat => (q : Int) := by
  unfold lstK mvSt
  rw [List.getD_eq_getElem?_getD, Int.toNat_natCast, List.getElem?_eq_getElem (by simpa using hk)]
  simp
theorem mv_lstI {key : Int} (h0 : 0 ≤ key) (h7 : key ≤ 7) : lstK (mvSt n st) key = (st.ord key.toNat).map fun q : Nat => (q : Int) := by
  obtain ⟨k, rfl⟩ := Int.eq_ofNat_of_zero_le h0
  rw [mv_lst (by omega)]
  rfl
theorem castInj : Function.Injective fun q : Nat => (q : Int) := fun a b h => by
  have h : (a : Int) = (b : Int) := h
  omega
/-- An op's fault: none. -/
theorem MvI.opZ (h : MvI n st) {t : Nat} {o : IOp} (ho : o ∈ st.ops t) : fltP (mvSt n st) o = 0 := by
  have ht : t < n := Classical.byContradiction fun hn => by rw [h.rng t (by omega)] at ho; cases ho
  obtain ⟨hk, h1⟩ := h.ops t o ho
  unfold fltP
  rw [mv_len]
  rcases h1 with ⟨hw, hf, hm⟩ | ⟨hw, h1⟩
  · rw [if_neg (by omega), if_neg (by omega), if_neg (by rw [hw]; simp)]
  · rcases h1 with ⟨hf, h0, hlt⟩ | ⟨hf, hm, _⟩ | ⟨x, hf, hne, hm, A, B, e, _⟩
    · rw [if_neg (by omega), if_neg (by rw [hw]; simp; omega), if_neg (by rw [hf, h.wroI_]; omega)]
    · rw [if_neg (by omega), if_neg (by rw [hw]; simp; omega), if_neg (by omega)]
    · have hx : x ∈ st.ord o.key.toNat := by rw [e]; simp
      obtain ⟨h2, h3, h4⟩ := h.pos_of_mem (by omega) hx
      have hxn := (h.cov x h4).2.2.2
      rw [show ((o.key.toNat : Nat) : Int) = o.key by omega] at h3
      rw [if_neg (by omega), if_neg (by rw [hw]; simp; omega), if_neg (by rw [hf, h.wroI_]; omega)]
/-- A story of a base may be. -/
theorem MvI.flt (h : MvI n st) (hn : n ≤ 8) : fltI (mvSt n st) = 0 := by
  refine fltI_ok (by rw [mv_len]; exact hn) (mv_ord n st) (fun j hj => ?_) (fun k hk => ?_)
  · have e : (mvSt n st).txs[j] = ⟨st.ops j, st.com j⟩ := by simp [mvSt]
    rw [e]
    unfold fltX
    rw [if_neg (by have := h.opl j; dsimp only; omega), fstF_zero]
    intro x hx
    obtain ⟨o, ho, rfl⟩ := List.mem_map.1 hx
    exact h.opZ ho
  · unfold fltK
    rw [mv_lst hk, fstF_zero]
    intro x hx
    rcases List.mem_append.1 hx with hx | hx
    · obtain ⟨i, hi, rfl⟩ := List.mem_map.1 hx
      have hi' : i < (st.ord k).length := by simpa using hi
      have e : ((st.ord k).map fun q : Nat => (q : Int)).getD i 0 = ((st.ord k)[i] : Int) := by
        rw [List.getD_eq_getElem?_getD, List.getElem?_eq_getElem (by simpa using hi')]
        simp
      obtain ⟨h1, h2⟩ := h.mem_com hk (List.getElem?_eq_getElem hi')
      have hlt := (h.cov _ h1).2.2.2
      unfold fltE
      rw [e, mv_len, if_neg (by omega), if_neg (by rw [h.comI_, h1, h.wroI_]; simp; omega), if_neg]
      intro hm
      rw [← List.map_take] at hm
      obtain ⟨q, hq, eq⟩ := List.mem_map.1 hm
      have eq : q = (st.ord k)[i] := castInj eq
      obtain ⟨l, hl, el⟩ := List.mem_take_iff_getElem.1 hq
      have := (List.getElem_inj (h.ord_nodup hk)).1 (el.trans eq)
      omega
    · rw [List.mem_singleton] at hx
      subst hx
      rw [if_pos]
      rw [cntK_eq, mv_len, List.length_map]
      have hm : ∀ t, t ∈ (List.range n).filter (fun (i : Nat) => comI (mvSt n st) (i : Int) && decide (0 < wroI (mvSt n st) (i : Int) (k : Int))) ↔ t ∈ st.ord k := fun t => by
        rw [List.mem_filter, List.mem_range, h.comI_, h.wroI_, h.ordm k hk t]
        simp only [Bool.and_eq_true, decide_eq_true_eq]
        exact ⟨fun a => a.2, fun a => ⟨(h.cov t a.1).2.2.2, a⟩⟩
      refine Nat.le_antisymm (nd_sub (List.nodup_range.sublist List.filter_sublist) fun t ht => (hm t).1 ht) (nd_sub (h.ord_nodup hk) fun t ht => (hm t).2 ht)
/-! ### its edges -/
theorem MvI.ov_of {i k : Nat} (he : ovB (mvSt n st) i k = true) : OvM st i k := by
  unfold ovB ovS at he
  obtain ⟨q, hq, h1⟩ := List.any_eq_true.1 he
  rw [List.mem_range] at hq
  rw [mv_lst hq] at h1
  unfold ovK at h1
  obtain ⟨j, _, h2⟩ := List.any_eq_true.1 h1
  simp only [Bool.and_eq_true, beq_iff_eq, List.getElem?_map, Option.map_eq_some_iff] at h2
  obtain ⟨⟨a, ha, ea⟩, b, hb, eb⟩ := h2
  obtain rfl : a = i := castInj ea
  obtain rfl : b = k := castInj eb
  exact ⟨q, hq, j, ha, hb⟩
theorem MvI.rd_of (h : MvI n st) {r : Nat × IOp} (hr : r ∈ rdI (mvSt n st)) : st.com r.1 = true ∧ r.2 ∈ st.ops r.1 ∧ r.2.wr = false := by
  obtain ⟨_, h2, h3, h4⟩ := rdI_mem hr
  rw [h.comI_] at h2
  rw [h.tx] at h3
  exact ⟨h2, h3, h4⟩
theorem MvI.se_of (h : MvI n st) {i k : Nat} (he : seB (mvSt n st) i k = true) : SeM st i k := by
  unfold seB seeL at he
  obtain ⟨r, hr, h1⟩ := List.any_eq_true.1 he
  obtain ⟨h2, h3, h4⟩ := h.rd_of hr
  unfold seeP othB at h1
  simp only [Bool.and_eq_true, bne_iff_ne, beq_iff_eq] at h1
  obtain ⟨⟨_, ⟨_, hne⟩, _⟩, hf, hk⟩ := h1
  subst hk
  refine ⟨h2, fun e => hne (by rw [hf, e]), r.2, h3, h4, hf⟩
theorem MvI.an_of (h : MvI n st) {i k : Nat} (he : anB (mvSt n st) i k = true) : AnM st i k := by
  unfold anB anwL at he
  obtain ⟨r, hr, h1⟩ := List.any_eq_true.1 he
  obtain ⟨h2, h3, h4⟩ := h.rd_of hr
  unfold anwP anwV at h1
  simp only [Bool.and_eq_true, Bool.or_eq_true, bne_iff_ne, beq_iff_eq] at h1
  obtain ⟨⟨_, hn1, hn2⟩, hi, hv⟩ := h1
  obtain ⟨hk, _⟩ := h.ops _ _ h3
  subst hi
  rw [mv_lstI hk.1 hk.2] at hv hn1
  unfold behV idxN at hv
  refine ⟨h2, fun e => hn2 (by rw [mv_lstI hk.1 hk.2]; unfold behV idxN; rw [hv, e]), r.2, h3, h4, ?_⟩
  by_cases hm : r.2.frm ∈ (st.ord r.2.key.toNat).map fun q : Nat => (q : Int)
  · rw [if_pos hm] at hv
    obtain ⟨x, hx, ex⟩ := List.mem_map.1 hm
    have hlt : ((st.ord r.2.key.toNat).map fun q : Nat => (q : Int)).idxOf r.2.frm < ((st.ord r.2.key.toNat).map fun q : Nat => (q : Int)).length := List.idxOf_lt_length_of_mem hm
    have e1 := List.getElem_idxOf hlt
    generalize ((st.ord r.2.key.toNat).map fun q : Nat => (q : Int)).idxOf r.2.frm = j at hv hlt e1
    rw [show ((j : Int) + 1).toNat = j + 1 by omega, List.getElem?_map] at hv
    have hj : j < (st.ord r.2.key.toNat).length := by simpa using hlt
    refine .inr ⟨(st.ord r.2.key.toNat)[j], by rw [← e1]; simp, j, List.getElem?_eq_getElem hj, ?_⟩
    cases e : (st.ord r.2.key.toNat)[j + 1]? with
    | none => rw [e] at hv; simp at hv
    | some b =>
      rw [e] at hv
      simp at hv
      rw [show b = k by omega]
  · rw [if_neg hm] at hv
    have hv : ((((st.ord r.2.key.toNat).map fun q : Nat => (q : Int))[0]?).getD (-1)) = (k : Int) := hv
    rw [List.getElem?_map] at hv
    refine .inl ⟨?_, ?_⟩
    · obtain ⟨_, ho⟩ := h.ops _ _ h3
      rcases ho with ⟨hw, _⟩ | ⟨_, ⟨hf, h0, hlt⟩ | ⟨hf, _⟩ | ⟨x, hf, _, _, A, B, e, _⟩⟩
      · rw [h4] at hw; cases hw
      · refine absurd (List.mem_map.2 ⟨r.1, (h.ordm _ (by omega) r.1).2 ⟨h2, ?_⟩, hf.symm⟩) hm
        rw [show ((r.2.key.toNat : Nat) : Int) = r.2.key by omega]
        omega
      · exact hf
      · exact absurd (List.mem_map.2 ⟨x, by rw [e]; simp, hf.symm⟩) hm
    · cases e : (st.ord r.2.key.toNat)[0]? with
      | none => rw [e] at hv; simp at hv
      | some b =>
        rw [e] at hv
        simp at hv
        rw [show b = k by omega]
/-! ### what is found -/
theorem MvI.low (h : MvI n st) {i k : Nat} (he : orR (ovB (mvSt n st)) (seB (mvSt n st)) i k = true) : st.en i < st.bg k ∧ st.bg k < st.en k := by
  unfold orR at he
  rcases Bool.or_eq_true_iff.1 he with he | he
  · obtain ⟨_, h2, h3⟩ := h.ov_time (MvI.ov_of he)
    exact ⟨h3, (h.cov k h2).2.2.1⟩
  · obtain ⟨_, h2, h3⟩ := h.se_time (h.se_of he)
    exact ⟨h3, (h.cov k h2).2.2.1⟩
/-- Read anew at the same time. -/
def AnV (n : Nat) (st : MvS) (i k : Nat) : Prop := anB (mvSt n st) i k = true ∧ k ≠ i ∧ st.com i = true ∧ st.com k = true ∧ st.bg i < st.en k ∧ st.bg k < st.en i ∧ RdW st i k
theorem MvI.all (h : MvI n st) {i k : Nat} (he : edB (mvSt n st) i k = true) : st.bg k < st.en k ∧ (st.en i < st.bg k ∨ (AnV n st i k ∧ st.bg i < st.en k)) := by
  unfold edB at he
  have he' := he
  unfold orR at he
  rcases Bool.or_eq_true_iff.1 he with he | he
  · have := h.low (show orR (ovB (mvSt n st)) (seB (mvSt n st)) i k = true from he)
    exact ⟨this.2, .inl this.1⟩
  · have ha := h.an_of he
    obtain ⟨h1, h2, h3⟩ := h.an_time ha
    refine ⟨(h.cov k h2).2.2.1, ?_⟩
    by_cases hlt : st.en i < st.bg k
    · exact .inl hlt
    · rcases h3 with ⟨_, _, _, h3⟩ | ⟨h3, h4⟩
      · exact absurd h3 hlt
      · have := h.inj i k ((h.com i).1 h1)
        exact .inr ⟨⟨he, ha.2.1, h1, h2, h3, by omega, h4⟩, h3⟩
/-- ON SNAPSHOTS. -/
theorem MvI.snap (h : MvI n st) : ∀ q, q < 5 → fndB (mvSt n st) q = false := by
  have hov : ∀ i k, ovB (mvSt n st) i k = true → orR (ovB (mvSt n st)) (seB (mvSt n st)) i k = true := fun i k he => by unfold orR; rw [he]; rfl
  have n0 : rndB (ovB (mvSt n st)) (mvSt n st).txs.length = false := by
    cases e : rndB (ovB (mvSt n st)) (mvSt n st).txs.length
    · rfl
    · obtain ⟨x, hx⟩ := rndB_iff.1 e
      exact absurd hx (rise_round (bg := st.bg) (en := st.en) (fun i k he => h.low (hov i k he)) x)
  have n3 : rndB (orR (ovB (mvSt n st)) (seB (mvSt n st))) (mvSt n st).txs.length = false := by
    cases e : rndB (orR (ovB (mvSt n st)) (seB (mvSt n st))) (mvSt n st).txs.length
    · rfl
    · obtain ⟨x, hx⟩ := rndB_iff.1 e
      exact absurd hx (rise_round (bg := st.bg) (en := st.en) (fun i k he => h.low he) x)
  have n4 : ldbB (anB (mvSt n st)) (orR (ovB (mvSt n st)) (seB (mvSt n st))) (mvSt n st).txs.length = false := by
    cases e : ldbB (anB (mvSt n st)) (orR (ovB (mvSt n st)) (seB (mvSt n st))) (mvSt n st).txs.length
    · rfl
    · obtain ⟨a, b, h1, ha, hw⟩ := ldb_way.1 e
      have hr := way_rise (bg := st.bg) (en := st.en) (fun i k he => h.low he) hw
      obtain ⟨_, h2, h3⟩ := h.an_time (h.an_of h1)
      have := (h.cov b h2).2.2.1
      rcases h3 with ⟨_, _, _, h3⟩ | ⟨h3, _⟩
      · omega
      · omega
  have rd : ∀ r ∈ rdI (mvSt n st), othB r.1 r.2 = true → comI (mvSt n st) r.2.frm = true ∧ lastB (verF (mvSt n st)) r.2 = true := fun r hr ho => by
    obtain ⟨h2, h3, h4⟩ := h.rd_of hr
    unfold othB at ho
    simp only [Bool.and_eq_true, bne_iff_ne] at ho
    obtain ⟨hk, h5⟩ := h.ops _ _ h3
    rcases h5 with ⟨hw, _⟩ | ⟨_, ⟨hf, _⟩ | ⟨hf, _⟩ | ⟨x, hf, hne, hm, _⟩⟩
    · rw [h4] at hw; cases hw
    · exact absurd hf ho.2
    · exact absurd hf ho.1
    · obtain ⟨c1, _, c3, _⟩ := h.read_other h3 h4 hf hne
      refine ⟨by rw [hf, h.comI_]; exact c1, ?_⟩
      unfold lastB verF
      rw [show ((r.2.frm.toNat : Nat) : Int) = (x : Int) by omega, show ((r.2.key.toNat : Nat) : Int) = r.2.key by omega, h.wroI_, beq_iff_eq]
      omega
  intro q hq
  unfold fndB
  by_cases q0 : q = 0
  · rw [if_pos q0]; exact n0
  rw [if_neg q0]
  by_cases q1 : q = 1
  · rw [if_pos q1]
    refine List.any_eq_false.2 fun r hr => ?_
    unfold abtP
    cases ho : othB r.1 r.2
    · simp
    · rw [(rd r hr ho).1]; simp
  rw [if_neg q1]
  by_cases q2 : q = 2
  · rw [if_pos q2]
    refine List.any_eq_false.2 fun r hr => ?_
    unfold btwP
    cases ho : othB r.1 r.2
    · simp
    · rw [(rd r hr ho).2]; simp
  rw [if_neg q2]
  by_cases q3 : q = 3
  · rw [if_pos q3]; exact n3
  rw [if_neg q3, if_pos (by omega)]
  exact n4
theorem MvI.round (h : MvI n st) (h5 : fndB (mvSt n st) 5 = true) : ∃ a b c, a < n ∧ b < n ∧ c < n ∧ AnV n st a b ∧ AnV n st b c := by
  have e5 : fndB (mvSt n st) 5 = ldbB (anB (mvSt n st)) (edB (mvSt n st)) (mvSt n st).txs.length := rfl
  rw [e5] at h5
  obtain ⟨a, b, h1, ha, hw⟩ := ldb_way.1 h5
  have hwb : Way (edB (mvSt n st)) (mvSt n st).txs.length b b := .more hw hw.lt.1 (by unfold edB orR; rw [h1]; simp)
  obtain ⟨x, y, z, hx, hy, hz, v1, v2, _, _⟩ := fekete (bg := st.bg) (en := st.en) (fun i k he => h.all he) ⟨b, hwb⟩
  rw [mv_len] at hx hy hz
  exact ⟨x, y, z, hx, hy, hz, v1, v2⟩
/-- FEKETE. -/
theorem MvI.fekete (h : MvI n st) (hn : n ≤ 8) (hs : serG (mvSt n st) ≠ 0) : ∃ a b c, a < n ∧ b < n ∧ c < n ∧ AnV n st a b ∧ AnV n st b c := by
  have h3 := (lv_facts (h.flt hn)).2.2
  refine h.round ?_
  cases e : fndB (mvSt n st) 5
  · exact absurd (h3.2 ⟨h.snap 3 (by omega), e⟩) hs
  · rfl
/-- A CAREFUL BASE IS SERIAL. -/
theorem MvI.careful (h : MvI n st) (hp : PvI st) : lvlI (mvSt n st) = 3 := by
  have h5 : fndB (mvSt n st) 5 = false := by
    cases e : fndB (mvSt n st) 5
    · rfl
    · obtain ⟨a, b, c, _, _, _, v1, v2⟩ := h.round e
      have pt : ∀ {i k}, AnV n st i k → ptsB st st.en i k = true := fun {i k} v => by
        obtain ⟨_, hne, ci, ck, t1, t2, hr⟩ := v
        have p1 := (h.com i).1 ci
        have p2 := (h.com k).1 ck
        exact pts_iff.2 ⟨fun e => hne e.symm, ⟨by omega, by omega⟩, ⟨by omega, by omega⟩, hr⟩
      exact (hp a b c (pt v1) (pt v2)).elim
  unfold lvlI
  rw [h.snap 0 (by omega), h.snap 1 (by omega), h.snap 2 (by omega), h.snap 3 (by omega), h5]
  simp
end
end Go.Proofs.YtaopigjhdkdklaaDoor
