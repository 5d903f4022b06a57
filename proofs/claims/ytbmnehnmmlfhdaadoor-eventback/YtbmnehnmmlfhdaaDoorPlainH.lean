/-
  The history of events as plain data: what is seen, event by event; and that what it makes may be. Nothing of the program is named here.
-/
import Derived.Test.YtbmnehnmmlfhdaaDoorPlainAZ
import Derived.Test.YtbmnehnmmlfhdaaDoorEvs
namespace Go.Proofs.YtbmnehnmmlfhdaaDoor

def Ev.fault (e : Ev) : Int := faultN e.p e.t e.k e.d e.a e.b e.r
/-- The op that an event begins at a number. -/
def Ev.op (e : Ev) (n : Int) : Opn := ⟨e.p, e.k, e.d, e.a, e.b, 0, n, -1⟩

/-- What the events so far tell: what each process is at; which are lost; what is over. -/
structure Hs where
  busy : Int → Option Opn
  lost : Int → Bool
  done : List Opn

def Hs.new : Hs := ⟨fun _ => none, fun _ => false, []⟩
def setO (f : Int → Option Opn) (p : Int) (v : Option Opn) : Int → Option Opn := fun q => if q = p then v else f q
def setB (f : Int → Bool) (p : Int) (v : Bool) : Int → Bool := fun q => if q = p then v else f q
def sameB (o : Opn) (e : Ev) : Bool := o.k == e.k && o.d == e.d && o.a == e.a && o.b == e.b
def endO (o : Opn) (r n : Int) : Opn := ⟨o.p, o.k, o.d, o.a, o.b, r, o.c, n⟩

/-- The code that the next event gives. -/
def seeN (e : Ev) (s : Hs) : Int :=
  if e.fault ≠ 0 then e.fault
  else if e.t = 1 then (if (s.busy e.p).isSome || s.lost e.p then 6 else 0)
  else match s.busy e.p with
    | none => 12
    | some o => if sameB o e then 0 else 12
/-- The history behind an event that may be. -/
def seeS (n : Int) (e : Ev) (s : Hs) : Hs :=
  if e.t = 1 then ⟨setO s.busy e.p (some (e.op n)), s.lost, s.done⟩
  else match s.busy e.p with
    | none => s
    | some o =>
      if e.t = 2 then ⟨setO s.busy e.p none, s.lost, s.done ++ [endO o e.r n]⟩
      else if e.t = 4 then ⟨setO s.busy e.p none, setB s.lost e.p true, s.done ++ [o]⟩
      else ⟨setO s.busy e.p none, s.lost, s.done⟩

/-- The history of the first events. -/
def hist (l : List Ev) : Nat → Hs
  | 0 => Hs.new
  | n + 1 => match l[n]? with
    | some e => seeS n e (hist l n)
    | none => hist l n
def FineH (l : List Ev) (n : Nat) : Prop := ∀ i, (h : i < l.length) → i < n → seeN l[i] (hist l i) = 0

/-- Two ops that go together: no time is shared; of one process one is over ahead of the other. -/
def Apart (x y : Opn) : Prop :=
  x.c ≠ y.c ∧ x.c ≠ y.e ∧ x.e ≠ y.c ∧ (x.e = -1 ∨ x.e ≠ y.e) ∧ (x.p = y.p → beforeB x y = true ∨ beforeB y x = true)
theorem Apart.symm {x y : Opn} (h : Apart x y) : Apart y x := by
  obtain ⟨h1, h2, h3, h4, h5⟩ := h
  exact ⟨Ne.symm h1, Ne.symm h3, Ne.symm h2, by
    rcases h4 with h | h
    · by_cases e : y.e = -1
      · exact .inl e
      · exact .inr (fun k => e (k.trans h))
    · exact .inr (Ne.symm h), fun e => (h5 e.symm).symm⟩

/-- One op alone, behind n events. -/
structure Good (l : List Ev) (n : Nat) (x : Opn) : Prop where
  lo : 0 ≤ x.c
  hi : x.c < n
  ret : x.e < n
  fit : (x.e = -1 ∧ x.r = 0) ∨ x.c < x.e
  num : numB x.r = true
  made : ∃ (i : Nat) (h : i < l.length), x.c = i ∧ l[i].t = 1 ∧ l[i].fault = 0 ∧ l[i].p = x.p ∧ l[i].k = x.k ∧ l[i].d = x.d ∧ l[i].a = x.a ∧ l[i].b = x.b

theorem Good.mono {l : List Ev} {n m : Nat} {x : Opn} (h : Good l n x) (hm : n ≤ m) : Good l m x :=
  ⟨h.lo, by have := h.hi; omega, by have := h.ret; omega, h.fit, h.num, h.made⟩

/-- What holds of a history behind n events that may be. -/
structure Inv (l : List Ev) (n : Nat) (s : Hs) : Prop where
  good : ∀ x ∈ s.done, Good l n x
  goodB : ∀ p o, s.busy p = some o → Good l n o ∧ o.p = p ∧ o.e = -1 ∧ o.r = 0
  apart : s.done.Pairwise Apart
  apartB : ∀ x ∈ s.done, ∀ p o, s.busy p = some o → Apart x o
  apartBB : ∀ p q o o', p ≠ q → s.busy p = some o → s.busy q = some o' → Apart o o'
  lostB : ∀ p, s.lost p = true → s.busy p = none
  open1 : ∀ x ∈ s.done, x.e = -1 → s.lost x.p = true

theorem inv_new (l : List Ev) : Inv l 0 Hs.new where
  good x h := by simp [Hs.new] at h
  goodB p o h := by simp [Hs.new] at h
  apart := by simp [Hs.new]
  apartB x h := by simp [Hs.new] at h
  apartBB p q o o' _ h := by simp [Hs.new] at h
  lostB p h := by simp [Hs.new] at h
  open1 x h := by simp [Hs.new] at h

theorem setO_same (f : Int → Option Opn) (p : Int) (v : Option Opn) : setO f p v p = v := by simp [setO]
theorem setO_other (f : Int → Option Opn) (p q : Int) (v : Option Opn) (h : q ≠ p) : setO f p v q = f q := by simp [setO, h]

/-- A new op goes together with one that is over. -/
theorem apart_new {l : List Ev} {n : Nat} {x : Opn} (e : Ev) (h : Good l n x) (hp : x.p = e.p → x.e ≠ -1) : Apart x (e.op n) := by
  have h1 := h.lo
  have h2 := h.hi
  have h3 := h.ret
  have h4 := h.fit
  refine ⟨?_, ?_, ?_, ?_, ?_⟩
  · show x.c ≠ (n : Int); omega
  · show x.c ≠ (-1 : Int); omega
  · show x.e ≠ (n : Int); omega
  · by_cases k : x.e = -1
    · exact .inl k
    · exact .inr k
  · intro k
    have hne := hp k
    left
    show (decide (0 ≤ x.e) && decide (x.e < (n : Int))) = true
    have g1 : 0 ≤ x.e := by omega
    have g2 : x.e < (n : Int) := h3
    simp [g1, g2]

theorem fault_parts {e : Ev} (h : e.fault = 0) : inB e.p e.k e.a e.b e.r = true ∧ 1 ≤ e.t ∧ e.t ≤ 4 ∧ kindB e.d = true ∧ (e.r = 0 ∨ e.t = 2) := by
  unfold Ev.fault faultN at h
  cases h1 : inB e.p e.k e.a e.b e.r
  · rw [h1] at h; simp at h
  · rw [h1] at h
    cases h2 : (decide (1 ≤ e.t ∧ e.t ≤ 4) && kindB e.d)
    · rw [h2] at h; simp at h
    · rw [h2] at h
      by_cases h3 : e.r = 0 ∨ e.t = 2
      · simp at h2
        exact ⟨rfl, h2.1.1, h2.1.2, h2.2, h3⟩
      · simp [h3] at h
theorem inB_num {p k a b r : Int} (h : inB p k a b r = true) : numB r = true := by
  simp [inB] at h; exact h.2
theorem num_zero : numB 0 = true := rfl

theorem inv_begin {l : List Ev} {n : Nat} {s : Hs} (I : Inv l n s) (h : n < l.length) (ht : l[n].t = 1) (hf : l[n].fault = 0) (_hb : s.busy l[n].p = none) (hl : s.lost l[n].p = false) :
    Inv l (n + 1) ⟨setO s.busy l[n].p (some (l[n].op n)), s.lost, s.done⟩ := by
  have gnew : Good l (n + 1) (l[n].op n) := ⟨by show (0 : Int) ≤ n; omega, by show (n : Int) < (n + 1 : Nat); omega, by show (-1 : Int) < (n + 1 : Nat); omega, .inl ⟨rfl, rfl⟩, num_zero, ⟨n, h, rfl, ht, hf, rfl, rfl, rfl, rfl, rfl⟩⟩
  refine ⟨fun x hx => (I.good x hx).mono (by omega), ?_, I.apart, ?_, ?_, ?_, I.open1⟩
  · intro p o ho
    dsimp only at ho
    by_cases e : p = l[n].p
    · subst e
      rw [setO_same] at ho
      obtain rfl := Option.some.inj ho
      exact ⟨gnew, rfl, rfl, rfl⟩
    · rw [setO_other _ _ _ _ e] at ho
      obtain ⟨g, r⟩ := I.goodB p o ho
      exact ⟨g.mono (by omega), r⟩
  · intro x hx p o ho
    dsimp only at ho
    by_cases e : p = l[n].p
    · subst e
      rw [setO_same] at ho
      obtain rfl := Option.some.inj ho
      exact apart_new l[n] (I.good x hx) (fun k hk => by have := I.open1 x hx hk; rw [k, hl] at this; exact absurd this (by decide))
    · rw [setO_other _ _ _ _ e] at ho
      exact I.apartB x hx p o ho
  · have key : ∀ q o', q ≠ l[n].p → s.busy q = some o' → Apart o' (l[n].op n) := fun q o' hq ho' => by
      obtain ⟨g, r, _⟩ := I.goodB q o' ho'
      exact apart_new l[n] g (fun k => absurd (r.symm.trans k) hq)
    intro p q o o' hpq ho ho'
    dsimp only at ho ho'
    by_cases e : p = l[n].p
    · subst e
      rw [setO_same] at ho
      obtain rfl := Option.some.inj ho
      rw [setO_other _ _ _ _ (Ne.symm hpq)] at ho'
      exact (key q o' (Ne.symm hpq) ho').symm
    · rw [setO_other _ _ _ _ e] at ho
      by_cases e' : q = l[n].p
      · subst e'
        rw [setO_same] at ho'
        obtain rfl := Option.some.inj ho'
        exact key p o e ho
      · rw [setO_other _ _ _ _ e'] at ho'
        exact I.apartBB p q o o' hpq ho ho'
  · intro p hp
    by_cases e : p = l[n].p
    · subst e; rw [hl] at hp; exact absurd hp (by decide)
    · show setO s.busy l[n].p _ p = none
      rw [setO_other _ _ _ _ e]; exact I.lostB p hp

/-- An op that comes to its end goes together with what it went together with. -/
theorem apart_end {l : List Ev} {n : Nat} {x o : Opn} (r : Int) (h : Apart x o) (hx : Good l n x) (ho : o.e = -1) (_hc : 0 ≤ o.c) : Apart x (endO o r n) := by
  obtain ⟨h1, h2, h3, h4, h5⟩ := h
  have g1 := hx.hi
  have g2 := hx.ret
  have g3 := hx.lo
  refine ⟨h1, ?_, h3, ?_, ?_⟩
  · show x.c ≠ (n : Int); omega
  · right; show x.e ≠ (n : Int); omega
  · intro k
    rcases h5 k with h | h
    · exact .inl h
    · exfalso
      simp [beforeB, ho] at h

theorem inv_end {l : List Ev} {n : Nat} {s : Hs} {o : Opn} (I : Inv l n s) (h : n < l.length) (hf : l[n].fault = 0) (ho : s.busy l[n].p = some o) (lost : Int → Bool) (add : List Opn)
    (hadd : (add = [] ∧ lost = s.lost) ∨ (add = [endO o l[n].r n] ∧ lost = s.lost) ∨ (add = [o] ∧ lost = setB s.lost l[n].p true)) :
    Inv l (n + 1) ⟨setO s.busy l[n].p none, lost, s.done ++ add⟩ := by
  obtain ⟨go, gp, ge, gr⟩ := I.goodB _ _ ho
  have hback : ∀ p o', setO s.busy l[n].p none p = some o' → s.busy p = some o' ∧ p ≠ l[n].p := fun p o' h => by
    by_cases e : p = l[n].p
    · subst e; rw [setO_same] at h; cases h
    · rw [setO_other _ _ _ _ e] at h; exact ⟨h, e⟩
  have gend : Good l (n + 1) (endO o l[n].r n) := ⟨go.lo, by have := go.hi; show o.c < _; omega, by show (n : Int) < (n + 1 : Nat); omega, .inr (by have := go.hi; show o.c < (n : Int); omega), inB_num (fault_parts hf).1, go.made⟩
  have gadd : ∀ x ∈ add, Good l (n + 1) x ∧ (∀ y, Good l n y → Apart y o → Apart y x) ∧ (x.e = -1 → lost x.p = true) := by
    intro x hx
    rcases hadd with ⟨rfl, rfl⟩ | ⟨rfl, rfl⟩ | ⟨rfl, rfl⟩
    · simp at hx
    · simp at hx
      subst hx
      refine ⟨gend, fun y gy ay => apart_end _ ay gy ge go.lo, fun k => ?_⟩
      exfalso
      have k' : (n : Int) = -1 := k
      omega
    · simp at hx
      subst hx
      exact ⟨go.mono (by omega), fun y _ ay => ay, fun _ => by simp [setB, gp]⟩
  have hlost : ∀ p, p ≠ l[n].p → lost p = s.lost p := fun p hp => by
    rcases hadd with ⟨_, rfl⟩ | ⟨_, rfl⟩ | ⟨_, rfl⟩
    · rfl
    · rfl
    · simp [setB, hp]
  have hmore : ∀ p, s.lost p = true → lost p = true := fun p hp => by
    rcases hadd with ⟨_, rfl⟩ | ⟨_, rfl⟩ | ⟨_, rfl⟩
    · exact hp
    · exact hp
    · by_cases e : p = l[n].p <;> simp [setB, e, hp]
  refine ⟨?_, ?_, ?_, ?_, ?_, ?_, ?_⟩
  · intro x hx
    rcases List.mem_append.1 hx with hx | hx
    · exact (I.good x hx).mono (by omega)
    · exact (gadd x hx).1
  · intro p o' h
    obtain ⟨g, r⟩ := I.goodB p o' (hback p o' h).1
    exact ⟨g.mono (by omega), r⟩
  · refine List.pairwise_append.2 ⟨I.apart, ?_, ?_⟩
    · rcases hadd with ⟨rfl, _⟩ | ⟨rfl, _⟩ | ⟨rfl, _⟩ <;> simp
    · intro x hx y hy
      exact (gadd y hy).2.1 x (I.good x hx) (I.apartB x hx _ _ ho)
  · intro x hx p o' h
    obtain ⟨h1, h2⟩ := hback p o' h
    rcases List.mem_append.1 hx with hx | hx
    · exact I.apartB x hx p o' h1
    · exact ((gadd x hx).2.1 o' (I.goodB p o' h1).1 (I.apartBB p _ o' o h2 h1 ho)).symm
  · intro p q a b hpq ha hb
    exact I.apartBB p q a b hpq (hback p a ha).1 (hback q b hb).1
  · intro p hp
    by_cases e : p = l[n].p
    · subst e; exact setO_same _ _ _
    · show setO s.busy l[n].p none p = none
      rw [setO_other _ _ _ _ e]; exact I.lostB p (by rw [← hlost p e]; exact hp)
  · intro x hx k
    rcases List.mem_append.1 hx with hx | hx
    · exact hmore _ (I.open1 x hx k)
    · exact (gadd x hx).2.2 k

theorem inv_see {l : List Ev} {n : Nat} {s : Hs} (I : Inv l n s) (h : n < l.length) (hz : seeN l[n] s = 0) : Inv l (n + 1) (seeS n l[n] s) := by
  unfold seeN at hz
  by_cases hf : l[n].fault = 0
  · rw [if_neg (by simpa using hf)] at hz
    unfold seeS
    by_cases ht : l[n].t = 1
    · rw [if_pos ht] at hz
      rw [if_pos ht]
      cases hb : s.busy l[n].p with
      | some o => rw [hb] at hz; simp at hz
      | none =>
        cases hl : s.lost l[n].p
        · exact inv_begin I h ht hf hb hl
        · rw [hb, hl] at hz; simp at hz
    · rw [if_neg ht] at hz
      rw [if_neg ht]
      cases hb : s.busy l[n].p with
      | none => rw [hb] at hz; simp at hz
      | some o =>
        show Inv l (n + 1) (if l[n].t = 2 then _ else if l[n].t = 4 then _ else _)
        by_cases h2 : l[n].t = 2
        · rw [if_pos h2]; exact inv_end I h hf hb _ _ (.inr (.inl ⟨rfl, rfl⟩))
        · rw [if_neg h2]
          by_cases h4 : l[n].t = 4
          · rw [if_pos h4]; exact inv_end I h hf hb _ _ (.inr (.inr ⟨rfl, rfl⟩))
          · rw [if_neg h4]
            have := inv_end I h hf hb s.lost [] (.inl ⟨rfl, rfl⟩)
            rwa [List.append_nil] at this
  · rw [if_pos (by simpa using hf)] at hz; exact absurd hz hf

theorem hist_succ (l : List Ev) (n : Nat) (h : n < l.length) : hist l (n + 1) = seeS n l[n] (hist l n) := by
  show (match l[n]? with | some e => seeS n e (hist l n) | none => hist l n) = _
  rw [List.getElem?_eq_getElem h]

theorem inv_hist (l : List Ev) (n : Nat) (hn : n ≤ l.length) (hf : FineH l n) : Inv l n (hist l n) := by
  induction n with
  | zero => exact inv_new l
  | succ n ih =>
    rw [hist_succ l n (by omega)]
    exact inv_see (ih (by omega) (fun i h hi => hf i h (by omega))) (by omega) (hf n (by omega) (by omega))

end Go.Proofs.YtbmnehnmmlfhdaaDoor
