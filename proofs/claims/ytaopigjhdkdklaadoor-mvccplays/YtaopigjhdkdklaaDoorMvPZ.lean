/-
  Chapter 14 in plain Lean: a base on snapshots; what is kept whatever is asked.
  Chapter 14 in plain Lean: what leads to what on snapshots, by times; FEKETE: what goes round has a pivot; a careful base has none.
  Chapter 14 in plain Lean: the story of a base: it may be; what is found in it; Fekete's pivot; a careful base is serial.
-/
import Derived.Test.YtaopigjhdkdklaaDoorGhPZ
import Derived.Test.YtaopigjhdkdklaaDoorIaW
import Derived.Test.YtaopigjhdkdklaaDoorIsM
import Derived.Lib.SliceRun
import Derived.Test.YtaopigjhdkdklaaDoorRgRZ
namespace Go.Proofs.YtaopigjhdkdklaaDoor

def updM {α : Type} (f : Nat → α) (t : Nat) (x : α) : Nat → α := fun k => if k = t then x else f k
theorem updM_same {α : Type} (f : Nat → α) (t : Nat) (x : α) : updM f t x t = x := if_pos rfl
theorem updM_ne {α : Type} (f : Nat → α) {t k : Nat} (x : α) (h : k ≠ t) : updM f t x k = f k := if_neg h
/-- How often a key is written. -/
def wrN (l : List IOp) (key : Int) : Nat := l.countP fun o => o.wr && o.key == key
theorem wrN_app (l : List IOp) (o : IOp) (key : Int) : wrN (l ++ [o]) key = wrN l key + if o.wr = true ∧ o.key = key then 1 else 0 := by
  unfold wrN
  rw [List.countP_append]
  congr 1
  by_cases h : o.wr = true ∧ o.key = key
  · rw [if_pos h]
    simp [h.1, h.2]
  · rw [if_neg h, List.countP_eq_zero]
    intro a ha
    rw [List.mem_singleton] at ha
    subst ha
    simpa using h
/-- Of each transaction what it did, whether it commits, whether it is over, when it began and committed (-1: not); of each key who committed it, in order; the time. -/
structure MvS where
  ops : Nat → List IOp
  com : Nat → Bool
  ov : Nat → Bool
  bg : Nat → Int
  en : Nat → Int
  ord : Nat → List Nat
  tm : Int
def mv0 : MvS := ⟨fun _ => [], fun _ => false, fun _ => false, fun _ => -1, fun _ => -1, fun _ => [], 0⟩
/-- The last one that committed a key ahead of one's begin. -/
def befM (st : MvS) (t key : Nat) : Option Nat := ((st.ord key).filter fun x => decide (st.en x < st.bg t)).getLast?
/-- What is read. -/
def rdM (st : MvS) (t key : Nat) : IOp :=
  if 0 < wrN (st.ops t) key then ⟨false, key, t, (wrN (st.ops t) key : Int) - 1⟩
  else match befM st t key with
    | some x => ⟨false, key, x, (wrN (st.ops x) key : Int) - 1⟩
    | none => ⟨false, key, -1, 0⟩
/-- Another one committed, behind one's begin, what one wrote. -/
def oldB (st : MvS) (t : Nat) : Bool := (List.range 8).any fun k => (st.ord k).any fun x => decide (0 < wrN (st.ops t) k) && decide (st.bg t < st.en x)
/-- One points at another one. -/
def ptsB (st : MvS) (en : Nat → Int) (i k : Nat) : Bool := (decide (i ≠ k) && (decide (0 ≤ en i) && decide (0 ≤ en k)) && (decide (st.bg k ≤ en i) && decide (st.bg i ≤ en k))) && (st.ops i).any fun o => !o.wr && decide (o.frm ≠ (i : Int)) && decide (0 < wrN (st.ops k) o.key)
def pivB (st : MvS) (en : Nat → Int) (n t : Nat) : Bool := (List.range n).any fun m => (decide (m = t) || ptsB st en t m || ptsB st en m t) && ((List.range n).any fun x => ptsB st en x m) && ((List.range n).any fun x => ptsB st en m x)
def begM (st : MvS) (t : Nat) : MvS := { st with bg := updM st.bg t (st.tm + 1), tm := st.tm + 1 }
def pushM (st : MvS) (t : Nat) (o : IOp) : MvS := { st with ops := updM st.ops t (st.ops t ++ [o]), tm := st.tm + 1 }
def aboM (st : MvS) (t : Nat) : MvS := { st with ov := updM st.ov t true, tm := st.tm + 1 }
def comM (st : MvS) (t : Nat) : MvS := { st with ov := updM st.ov t true, tm := st.tm + 1, en := updM st.en t (st.tm + 1), com := updM st.com t true, ord := fun k => if 0 < wrN (st.ops t) k then st.ord k ++ [t] else st.ord k }
/-- The fault of an ask, ahead of a commit's own. -/
def fltA (n : Nat) (st : MvS) (p k m : Int) : Int :=
  if p < 0 ∨ (n : Int) ≤ p ∨ m < 0 ∨ 7 < m then 2
  else if k < 1 ∨ 5 < k ∨ (k ≠ 2 ∧ k ≠ 3 ∧ m ≠ 0) then 1
  else if st.ov p.toNat = true ∨ (0 ≤ st.bg p.toNat ↔ k = 1) then 6
  else if (st.ops p.toNat).length = 60 ∧ (k = 2 ∨ k = 3) then 4 else 0
def refB (c : Bool) (n : Nat) (st : MvS) (t : Nat) : Bool := oldB st t || (c && pivB st (updM st.en t (st.tm + 1)) n t)
/-- What an ask tells, and makes. -/
def tellM (c : Bool) (n : Nat) (st : MvS) (p k m : Int) : Int := if fltA n st p k m ≠ 0 then fltA n st p k m else if k = 4 ∧ refB c n st p.toNat = true then 12 else 0
def doM (c : Bool) (n : Nat) (st : MvS) (p k m : Int) : MvS :=
  if fltA n st p k m ≠ 0 then st
  else if k = 1 then begM st p.toNat
  else if k = 2 then pushM st p.toNat (rdM st p.toNat m.toNat)
  else if k = 3 then pushM st p.toNat ⟨true, m, 0, 0⟩
  else if k = 4 then (if refB c n st p.toNat = true then aboM st p.toNat else comM st p.toNat)
  else aboM st p.toNat
/-- An op that may be. -/
def OpOk (st : MvS) (t : Nat) (o : IOp) : Prop := (0 ≤ o.key ∧ o.key ≤ 7) ∧ ((o.wr = true ∧ o.frm = 0 ∧ o.num = 0) ∨ (o.wr = false ∧
  ((o.frm = (t : Int) ∧ 0 ≤ o.num ∧ o.num < wrN (st.ops t) o.key) ∨ (o.frm = -1 ∧ o.num = 0 ∧ ∀ x ∈ st.ord o.key.toNat, st.bg t < st.en x) ∨
    ∃ x : Nat, o.frm = (x : Int) ∧ x ≠ t ∧ o.num + 1 = wrN (st.ops x) o.key ∧ ∃ A B, st.ord o.key.toNat = A ++ x :: B ∧ st.en x < st.bg t ∧ ∀ y ∈ B, st.bg t < st.en y)))
/-- What is kept. -/
structure MvI (n : Nat) (st : MvS) : Prop where
  tm0 : 0 ≤ st.tm
  bgl : ∀ t, st.bg t ≤ st.tm ∧ (st.bg t = -1 ∨ 0 < st.bg t)
  enl : ∀ t, st.en t ≤ st.tm ∧ (st.en t = -1 ∨ 0 < st.en t)
  com : ∀ t, st.com t = true ↔ 0 < st.en t
  cov : ∀ t, st.com t = true → st.ov t = true ∧ 0 < st.bg t ∧ st.bg t < st.en t ∧ t < n
  nob : ∀ t, st.bg t = -1 → st.ops t = []
  opl : ∀ t, (st.ops t).length ≤ 60
  rng : ∀ t, n ≤ t → st.ops t = []
  inj : ∀ t u, 0 < st.en t → st.en t ≠ st.bg u
  ordm : ∀ k, k < 8 → ∀ t, t ∈ st.ord k ↔ st.com t = true ∧ 0 < wrN (st.ops t) k
  ordp : ∀ k, k < 8 → (st.ord k).Pairwise fun a b => st.en a < st.bg b
  ops : ∀ t, ∀ o ∈ st.ops t, OpOk st t o
theorem MvI.start (n : Nat) : MvI n mv0 where
  tm0 := Int.le_refl _
  bgl := fun _ => ⟨by show (-1 : Int) ≤ 0; decide, .inl rfl⟩
  enl := fun _ => ⟨by show (-1 : Int) ≤ 0; decide, .inl rfl⟩
  com := fun _ => ⟨(fun h => by cases h), (fun h => absurd (show (0 : Int) < -1 from h) (by decide))⟩
  cov := fun _ h => by cases h
  nob := fun _ _ => rfl
  opl := fun _ => Nat.zero_le _
  rng := fun _ _ => rfl
  inj := fun _ _ h => absurd (show (0 : Int) < -1 from h) (by decide)
  ordm := fun k _ t => ⟨(fun h => by cases h), (fun h => by cases h.1)⟩
  ordp := fun _ _ => List.Pairwise.nil
  ops := fun _ _ h => by cases h
section
variable {n : Nat} {st : MvS}
/-- What is read may be. -/
theorem last_split {st : MvS} {t key : Nat} : (befM st t key = none → ∀ x ∈ st.ord key, ¬ st.en x < st.bg t) ∧ (∀ x, befM st t key = some x → ∃ A B, st.ord key = A ++ x :: B ∧ st.en x < st.bg t ∧ ∀ y ∈ B, ¬ st.en y < st.bg t) := by
  unfold befM
  generalize st.ord key = l
  constructor
  · intro h x hx hlt
    rw [List.getLast?_eq_none_iff] at h
    have : x ∈ l.filter fun x => decide (st.en x < st.bg t) := List.mem_filter.2 ⟨hx, by simpa using hlt⟩
    rw [h] at this
    cases this
  · intro x h
    have key : ∀ l : List Nat, ((l.filter fun x => decide (st.en x < st.bg t)).getLast? = some x → ∃ A B, l = A ++ x :: B ∧ st.en x < st.bg t ∧ ∀ y ∈ B, ¬ st.en y < st.bg t) := fun l => by
      rw [← l.reverse_reverse]
      induction l.reverse with
      | nil => intro h; simp at h
      | cons a r ih =>
        intro h
        rw [List.reverse_cons] at h ⊢
        rw [List.filter_append] at h
        by_cases ha : st.en a < st.bg t
        · rw [List.filter_cons_of_pos (by simpa using ha)] at h
          simp at h
          subst h
          exact ⟨r.reverse, [], rfl, ha, fun y hy => by cases hy⟩
        · rw [List.filter_cons_of_neg (by simpa using ha)] at h
          simp only [List.filter_nil, List.append_nil] at h
          obtain ⟨A, B, e, h1, h2⟩ := ih h
          refine ⟨A, B ++ [a], by rw [e]; simp, h1, fun y hy => ?_⟩
          rcases List.mem_append.1 hy with hy | hy
          · exact h2 y hy
          · rw [List.mem_singleton] at hy
            subst hy
            exact ha
    exact key l h
theorem MvI.pos_of_mem (h : MvI n st) {k x : Nat} (hk : k < 8) (hx : x ∈ st.ord k) : 0 < st.en x ∧ 0 < wrN (st.ops x) k ∧ st.com x = true := by
  obtain ⟨h1, h2⟩ := (h.ordm k hk x).1 hx
  exact ⟨(h.com x).1 h1, h2, h1⟩
theorem MvI.read (h : MvI n st) {t key : Nat} (hk : key < 8) : OpOk st t (rdM st t key) := by
  unfold rdM
  by_cases hw : 0 < wrN (st.ops t) key
  · rw [if_pos hw]
    exact ⟨by dsimp only; omega, .inr ⟨rfl, .inl ⟨rfl, by dsimp only; omega, by dsimp only; omega⟩⟩⟩
  · rw [if_neg hw]
    have lt : ∀ x ∈ st.ord key, ¬ st.en x < st.bg t → st.bg t < st.en x := fun x hx hn => by
      have h1 := h.inj x t (h.pos_of_mem hk hx).1
      omega
    obtain ⟨l1, l2⟩ := last_split (st := st) (t := t) (key := key)
    cases e : befM st t key with
    | none =>
      refine ⟨by dsimp only; omega, .inr ⟨rfl, .inr (.inl ⟨rfl, rfl, ?_⟩)⟩⟩
      dsimp only
      rw [Int.toNat_natCast]
      exact fun x hx => lt x hx (l1 e x hx)
    | some x =>
      obtain ⟨A, B, e1, h1, h2⟩ := l2 x e
      have hx : x ∈ st.ord key := by rw [e1]; simp
      have hp := (h.pos_of_mem hk hx).2.1
      refine ⟨by dsimp only; omega, .inr ⟨rfl, .inr (.inr ⟨x, rfl, fun ex => ?_, by dsimp only; omega, A, B, ?_, h1, fun y hy => lt y (by rw [e1]; simp [hy]) (h2 y hy)⟩)⟩⟩
      · subst ex; exact hw hp
      · dsimp only
        rw [Int.toNat_natCast]
        exact e1
/-- What a transaction that commits has done stays. -/
theorem OpOk.turn {st' : MvS} {t : Nat} {o : IOp} (h : OpOk st t o) (hw : wrN (st.ops t) o.key ≤ wrN (st'.ops t) o.key) (hb : st'.bg t = st.bg t) (ho : ∀ k, k < 8 → ∃ C, st'.ord k = st.ord k ++ C ∧ ∀ y ∈ C, st.bg t < st'.en y)
    (hx : ∀ k, k < 8 → ∀ x ∈ st.ord k, st'.en x = st.en x ∧ st'.ops x = st.ops x) : OpOk st' t o := by
  obtain ⟨hk, h⟩ := h
  have hk8 : o.key.toNat < 8 := by omega
  refine ⟨hk, h.imp id fun ⟨h1, h2⟩ => ⟨h1, ?_⟩⟩
  obtain ⟨C, eC, hC⟩ := ho _ hk8
  rcases h2 with ⟨a, b, c⟩ | ⟨a, b, c⟩ | ⟨x, a, b, c, A, B, d, e, f⟩
  · exact .inl ⟨a, b, by omega⟩
  · refine .inr (.inl ⟨a, b, fun x hxm => ?_⟩)
    rw [hb]
    rw [eC] at hxm
    rcases List.mem_append.1 hxm with hm | hm
    · rw [(hx _ hk8 x hm).1]; exact c x hm
    · exact hC x hm
  · have hxm : x ∈ st.ord o.key.toNat := by rw [d]; simp
    refine .inr (.inr ⟨x, a, b, by rw [(hx _ hk8 x hxm).2]; exact c, A, B ++ C, by rw [eC, d]; simp, by rw [hb, (hx _ hk8 x hxm).1]; exact e, fun y hy => ?_⟩)
    rw [hb]
    rcases List.mem_append.1 hy with hm | hm
    · rw [(hx _ hk8 y (by rw [d]; simp [hm])).1]; exact f y hm
    · exact hC y hm
theorem MvI.beg (h : MvI n st) {t : Nat} (hb : st.bg t = -1) : MvI n (begM st t) := by
  have t0 := h.tm0
  have hc : st.com t = false := by
    cases e : st.com t
    · rfl
    · have := (h.cov t e).2.1; omega
  have hbt : ∀ u, (begM st t).bg u = updM st.bg t (st.tm + 1) u := fun _ => rfl
  have hne : ∀ {u}, st.com u = true → u ≠ t := fun hu e => by rw [e, hc] at hu; cases hu
  refine ⟨by show 0 ≤ st.tm + 1; omega, fun u => ?_, fun u => ?_, h.com, fun u hu => ?_, fun u hu => ?_, h.opl, h.rng, fun u v hu => ?_, h.ordm, fun k hk => ?_, fun u o ho => ?_⟩
  · show updM st.bg t (st.tm + 1) u ≤ st.tm + 1 ∧ (updM st.bg t (st.tm + 1) u = -1 ∨ 0 < updM st.bg t (st.tm + 1) u)
    by_cases e : u = t
    · rw [e, updM_same]; omega
    · rw [updM_ne _ _ e]; have := h.bgl u; omega
  · show st.en u ≤ st.tm + 1 ∧ _
    have := h.enl u
    exact ⟨by omega, this.2⟩
  · obtain ⟨a, b, c, d⟩ := h.cov u hu
    rw [hbt, updM_ne _ _ (hne hu)]
    exact ⟨a, b, c, d⟩
  · rw [hbt] at hu
    by_cases e : u = t
    · rw [e, updM_same] at hu; omega
    · rw [updM_ne _ _ e] at hu; exact h.nob u hu
  · have hu : 0 < st.en u := hu
    show st.en u ≠ updM st.bg t (st.tm + 1) v
    by_cases e : v = t
    · rw [e, updM_same]; have := (h.enl u).1; omega
    · rw [updM_ne _ _ e]; exact h.inj u v hu
  · refine (h.ordp k hk).imp_of_mem fun {a b} ha hb' hab => ?_
    rw [hbt, updM_ne _ _ (hne ((h.ordm k hk b).1 hb').1)]
    exact hab
  · have ho : o ∈ st.ops u := ho
    have hu : u ≠ t := fun e => by rw [e, h.nob t hb] at ho; cases ho
    exact (h.ops u o ho).turn (Nat.le_refl _) (by rw [hbt, updM_ne _ _ hu]) (fun k _ => ⟨[], by simp [begM], fun y hy => by cases hy⟩) (fun _ _ x _ => ⟨rfl, rfl⟩)
theorem MvI.push (h : MvI n st) {t : Nat} (ht : t < n) (hb : st.bg t ≠ -1) (ho : st.ov t = false) (hl : (st.ops t).length < 60) {o : IOp} (hok : OpOk st t o) : MvI n (pushM st t o) := by
  have t0 := h.tm0
  have hc : st.com t = false := by
    cases e : st.com t
    · rfl
    · rw [(h.cov t e).1] at ho; cases ho
  have hop : ∀ u, u ≠ t → (pushM st t o).ops u = st.ops u := fun u hu => updM_ne _ _ hu
  have hot : (pushM st t o).ops t = st.ops t ++ [o] := updM_same _ _ _
  have hne : ∀ {u}, st.com u = true → u ≠ t := fun hu e => by rw [e, hc] at hu; cases hu
  have hwr : ∀ u key, wrN (st.ops u) key ≤ wrN ((pushM st t o).ops u) key := fun u key => by
    by_cases e : u = t
    · rw [e, hot, wrN_app]; omega
    · rw [hop u e]; exact Nat.le_refl _
  have hturn : ∀ u o', OpOk st u o' → OpOk (pushM st t o) u o' := fun u o' h' => h'.turn (hwr u _) rfl (fun k _ => ⟨[], by simp [pushM], fun y hy => by cases hy⟩) (fun k hk x hx => ⟨rfl, hop x (hne (h.pos_of_mem hk hx).2.2)⟩)
  refine ⟨by show 0 ≤ st.tm + 1; omega, fun u => ?_, fun u => ?_, h.com, h.cov, fun u hu => ?_, fun u => ?_, fun u hu => ?_, h.inj, fun k hk u => ?_, h.ordp, fun u o' ho' => ?_⟩
  · show st.bg u ≤ st.tm + 1 ∧ _
    have := h.bgl u
    exact ⟨by omega, this.2⟩
  · show st.en u ≤ st.tm + 1 ∧ _
    have := h.enl u
    exact ⟨by omega, this.2⟩
  · have hu : st.bg u = -1 := hu
    rw [hop u (fun e => by rw [e] at hu; exact hb hu)]
    exact h.nob u hu
  · by_cases e : u = t
    · rw [e, hot]; simp; omega
    · rw [hop u e]; exact h.opl u
  · rw [hop u (by omega)]; exact h.rng u hu
  · show u ∈ st.ord k ↔ st.com u = true ∧ _
    rw [h.ordm k hk u]
    by_cases e : u = t
    · rw [e, hc]; simp
    · rw [hop u e]
  · by_cases e : u = t
    · subst e
      rw [hot] at ho'
      rcases List.mem_append.1 ho' with hm | hm
      · exact hturn u o' (h.ops u o' hm)
      · rw [List.mem_singleton] at hm
        subst hm
        exact hturn u _ hok
    · rw [hop u e] at ho'
      exact hturn u o' (h.ops u o' ho')
theorem MvI.abo (h : MvI n st) (t : Nat) : MvI n (aboM st t) := by
  have t0 := h.tm0
  refine ⟨by show 0 ≤ st.tm + 1; omega, fun u => ?_, fun u => ?_, h.com, fun u hu => ?_, h.nob, h.opl, h.rng, h.inj, h.ordm, h.ordp, h.ops⟩
  · show st.bg u ≤ st.tm + 1 ∧ _
    have := h.bgl u
    exact ⟨by omega, this.2⟩
  · show st.en u ≤ st.tm + 1 ∧ _
    have := h.enl u
    exact ⟨by omega, this.2⟩
  · obtain ⟨a, b⟩ := h.cov u hu
    refine ⟨?_, b⟩
    show updM st.ov t true u = true
    by_cases e : u = t
    · rw [e, updM_same]
    · rw [updM_ne _ _ e]; exact a
theorem MvI.cmt (h : MvI n st) {t : Nat} (ht : t < n) (hb : st.bg t ≠ -1) (ho : st.ov t = false) (hold : oldB st t = false) : MvI n (comM st t) := by
  have t0 := h.tm0
  have hc : st.com t = false := by
    cases e : st.com t
    · rfl
    · rw [(h.cov t e).1] at ho; cases ho
  have hne : ∀ {u}, st.com u = true → u ≠ t := fun hu e => by rw [e, hc] at hu; cases hu
  have hen : ∀ u, u ≠ t → (comM st t).en u = st.en u := fun u hu => updM_ne _ _ hu
  have het : (comM st t).en t = st.tm + 1 := updM_same _ _ _
  have hord : ∀ k, (comM st t).ord k = if 0 < wrN (st.ops t) k then st.ord k ++ [t] else st.ord k := fun _ => rfl
  have hold' : ∀ k : Nat, k < 8 → 0 < wrN (st.ops t) k → ∀ x ∈ st.ord k, st.en x < st.bg t := fun k hk hw x hx => by
    have h1 := List.any_eq_false.1 hold k (List.mem_range.2 hk)
    simp only [List.any_eq_true, Bool.and_eq_true, decide_eq_true_eq, not_exists, not_and] at h1
    have h2 := h1 x hx hw
    have h3 := h.inj x t (h.pos_of_mem hk hx).1
    omega
  have hturn : ∀ u o', OpOk st u o' → OpOk (comM st t) u o' := fun u o' h' => h'.turn (Nat.le_refl _) rfl (fun k hk => by
    rw [hord]
    by_cases hw : 0 < wrN (st.ops t) k
    · rw [if_pos hw]
      refine ⟨[t], rfl, fun y hy => ?_⟩
      rw [List.mem_singleton] at hy
      subst hy
      rw [het]
      have := (h.bgl u).1
      omega
    · rw [if_neg hw]
      exact ⟨[], by simp, fun y hy => by cases hy⟩) (fun k hk x hx => ⟨hen x (hne (h.pos_of_mem hk hx).2.2), rfl⟩)
  have hbt : 0 < st.bg t := by have := (h.bgl t).2; omega
  refine ⟨by show 0 ≤ st.tm + 1; omega, fun u => ?_, fun u => ?_, fun u => ?_, fun u hu => ?_, h.nob, h.opl, h.rng, fun u v hu => ?_, fun k hk u => ?_, fun k hk => ?_, fun u o' ho' => hturn u o' (h.ops u o' ho')⟩
  · show st.bg u ≤ st.tm + 1 ∧ _
    have := h.bgl u
    exact ⟨by omega, this.2⟩
  · show (comM st t).en u ≤ st.tm + 1 ∧ _
    by_cases e : u = t
    · rw [e, het]; omega
    · rw [hen u e]
      have := h.enl u
      exact ⟨by omega, this.2⟩
  · show updM st.com t true u = true ↔ _
    by_cases e : u = t
    · rw [e, updM_same, het]
      exact ⟨fun _ => by omega, fun _ => rfl⟩
    · rw [updM_ne _ _ e, hen u e]
      exact h.com u
  · have hu : updM st.com t true u = true := hu
    show updM st.ov t true u = true ∧ 0 < st.bg u ∧ st.bg u < (comM st t).en u ∧ u < n
    by_cases e : u = t
    · rw [e, updM_same, het]
      have := (h.bgl t).1
      exact ⟨rfl, hbt, by omega, ht⟩
    · rw [updM_ne _ _ e] at hu ⊢
      rw [hen u e]
      exact h.cov u hu
  · show (comM st t).en u ≠ st.bg v
    by_cases e : u = t
    · rw [e, het]; have := (h.bgl v).1; omega
    · rw [hen u e] at hu ⊢; exact h.inj u v hu
  · rw [hord]
    show _ ↔ updM st.com t true u = true ∧ 0 < wrN (st.ops u) k
    by_cases e : u = t
    · subst e
      rw [updM_same]
      by_cases hw : 0 < wrN (st.ops u) k
      · rw [if_pos hw]; simp [hw]
      · rw [if_neg hw, h.ordm k hk u, hc]; simp [hw]
    · rw [updM_ne _ _ e, ← h.ordm k hk u]
      by_cases hw : 0 < wrN (st.ops t) k
      · rw [if_pos hw]; simp [e]
      · rw [if_neg hw]
  · rw [hord]
    have h1 : (st.ord k).Pairwise fun a b => (comM st t).en a < (comM st t).bg b := (h.ordp k hk).imp_of_mem fun {a b} ha hb' hab => by
      rw [hen a (hne (h.pos_of_mem hk ha).2.2)]
      exact hab
    by_cases hw : 0 < wrN (st.ops t) k
    · rw [if_pos hw, List.pairwise_append]
      refine ⟨h1, List.pairwise_singleton _ _, fun a ha b hb' => ?_⟩
      rw [List.mem_singleton] at hb'
      subst hb'
      rw [hen a (hne (h.pos_of_mem hk ha).2.2)]
      exact hold' k hk hw a ha
    · rw [if_neg hw]; exact h1
/-- Whatever is asked. -/
theorem MvI.step (h : MvI n st) (c : Bool) (p k m : Int) : MvI n (doM c n st p k m) := by
  unfold doM
  by_cases hf : fltA n st p k m = 0
  · rw [if_neg (by simp [hf])]
    unfold fltA at hf
    split at hf
    · cases hf
    rename_i h1
    split at hf
    · cases hf
    rename_i h2
    split at hf
    · cases hf
    rename_i h3
    split at hf
    · cases hf
    rename_i h4
    have hpn : p.toNat < n := by omega
    have ho : st.ov p.toNat = false := by
      cases e : st.ov p.toNat
      · rfl
      · exact absurd (.inl e) h3
    have hb := h.bgl p.toNat
    have hl := h.opl p.toNat
    by_cases k1 : k = 1
    · rw [if_pos k1]
      refine h.beg ?_
      have : ¬ 0 ≤ st.bg p.toNat := fun hx => h3 (.inr ⟨fun _ => k1, fun _ => hx⟩)
      omega
    · rw [if_neg k1]
      have hbg : st.bg p.toNat ≠ -1 := fun hx => h3 (.inr ⟨fun h0 => by omega, fun hk => absurd hk k1⟩)
      by_cases k2 : k = 2
      · rw [if_pos k2]
        exact h.push hpn hbg ho (by omega) (h.read (by omega))
      · rw [if_neg k2]
        by_cases k3 : k = 3
        · rw [if_pos k3]
          exact h.push hpn hbg ho (by omega) ⟨by dsimp only; omega, .inl ⟨rfl, rfl, rfl⟩⟩
        · rw [if_neg k3]
          by_cases k4 : k = 4
          · rw [if_pos k4]
            cases hr : refB c n st p.toNat
            · rw [if_neg (by simp)]
              refine h.cmt hpn hbg ho ?_
              unfold refB at hr
              simp at hr
              exact hr.1
            · rw [if_pos rfl]
              exact h.abo _
          · rw [if_neg k4]
            exact h.abo _
  · rw [if_pos hf]
    exact h
end
end Go.Proofs.YtaopigjhdkdklaaDoor

namespace Go.Proofs.YtaopigjhdkdklaaDoor

/-! ### by times -/
section
variable {n : Nat} {st : MvS}
theorem MvI.ord_nodup (h : MvI n st) {key : Nat} (hk : key < 8) : (st.ord key).Nodup := by
  rw [List.nodup_iff_pairwise_ne]
  refine (h.ordp key hk).imp_of_mem fun {a b} ha hb hab e => ?_
  subst e
  have := (h.cov a ((h.ordm key hk a).1 ha).1).2.2.1
  omega
end
/-! ### going round -/
/-! ### a careful base -/
section
variable {n : Nat} {st : MvS}
end
/-- Row of asks. -/
def runM (c : Bool) (n : Nat) (st : MvS) (l : List (Int × Int × Int)) : MvS := l.foldl (fun st a => doM c n st a.1 a.2.1 a.2.2) st
theorem runM_app (c : Bool) (n : Nat) (st : MvS) (l : List (Int × Int × Int)) (a : Int × Int × Int) : runM c n st (l ++ [a]) = doM c n (runM c n st l) a.1 a.2.1 a.2.2 := by
  unfold runM
  rw [List.foldl_append]
  rfl
theorem run_ok (c : Bool) (n : Nat) : ∀ (l : List (Int × Int × Int)) {st : MvS}, MvI n st → MvI n (runM c n st l)
  | [], _, h => h
  | a :: l, _, h => run_ok c n l (h.step c a.1 a.2.1 a.2.2)
end Go.Proofs.YtaopigjhdkdklaaDoor

namespace Go.Proofs.YtaopigjhdkdklaaDoor

/-- The story of a base. -/
def mvSt (n : Nat) (st : MvS) : ISt := ⟨(List.range n).map fun t => ⟨st.ops t, st.com t⟩, (List.range 8).map fun k => (st.ord k).map fun q : Nat => (q : Int)⟩
section
variable {n : Nat} {st : MvS}
theorem mv_len (n : Nat) (st : MvS) : (mvSt n st).txs.length = n := by simp [mvSt]
theorem mv_ord (n : Nat) (st : MvS) : (mvSt n st).ord.length = 8 := by simp [mvSt]
/-! ### its edges -/
/-! ### what is found -/
end
end Go.Proofs.YtaopigjhdkdklaaDoor
