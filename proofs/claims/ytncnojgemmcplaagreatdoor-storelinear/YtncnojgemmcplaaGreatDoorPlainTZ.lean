/-
  A set's state, put into and dropped from, the document's way: the same where the state rises.
  A run of ops in plain Lean: the states of the keys behind each, which op is fine, what a run tells.
  The search in plain Lean: from state to state, what is done told by the order in which it was done.
  What an order shows, in plain Lean; the search's order shows it, and whatever order shows it, the search can go along it.
-/
import Derived.Test.YtncnojgemmcplaaGreatDoorWalkRZ
import Derived.Laws.OwnMore
import Derived.Deep.RegionLaw
import Derived.Deep.QuietTactic
import Derived.BigQuiet
namespace Go.Proofs.YtncnojgemmcplaaGreatDoor
open Go.RowKit

/-- The document's way of putting in: ahead of the first that is greater. -/
def putL (a : Int) : List Int → List Int
  | [] => [a]
  | x :: r => if a < x then a :: x :: r else x :: putL a r

theorem place_cons (x : Int) (r : List Int) (a : Int) : placeOf (x :: r) a = if x < a then placeOf r a + 1 else placeOf r a := by
  unfold placeOf
  rw [List.countP_cons]
  by_cases h : x < a <;> simp [h]

theorem place_zero {st : List Int} {a : Int} (h : ∀ x ∈ st, a ≤ x) : placeOf st a = 0 := by
  unfold placeOf
  rw [List.countP_eq_zero]
  intro x hx
  have := h x hx
  simp; omega

theorem put_ins : ∀ {st : List Int} {a : Int}, st.Pairwise (· < ·) → a ∉ st → putL a st = insL st (placeOf st a) a
  | [], a, _, _ => rfl
  | x :: r, a, hs, ha => by
    rw [List.pairwise_cons] at hs
    have hx : a ≠ x := fun e => ha (by simp [e])
    have hr : a ∉ r := fun e => ha (by simp [e])
    unfold putL
    by_cases h : a < x
    · rw [if_pos h, place_zero (fun y hy => by
        rcases List.mem_cons.1 hy with rfl | hy
        · omega
        · have := hs.1 y hy; omega)]
      rfl
    · rw [if_neg h, place_cons, if_pos (by omega), put_ins hs.2 hr]
      rfl

theorem filter_del : ∀ {st : List Int} {a : Int}, st.Pairwise (· < ·) → a ∈ st → st.filter (fun x => x != a) = delL st (placeOf st a)
  | [], a, _, ha => by simp at ha
  | x :: r, a, hs, ha => by
    rw [List.pairwise_cons] at hs
    by_cases h : x = a
    · subst h
      rw [place_zero (fun y hy => by
        rcases List.mem_cons.1 hy with rfl | hy
        · omega
        · have := hs.1 y hy; omega)]
      have : r.filter (fun y => y != x) = r := List.filter_eq_self.2 fun y hy => by have := hs.1 y hy; simp; omega
      simp [delL, this]
    · have hr : a ∈ r := by rcases List.mem_cons.1 ha with e | e; exact absurd e.symm h; exact e
      have hlt : x < a := hs.1 a hr
      rw [place_cons, if_pos hlt, List.filter_cons_of_pos (by simpa using h), filter_del hs.2 hr]
      rfl


/-- The document's second loop, so far: what is out, and whether it was put in. -/
theorem putL_rises : ∀ {st : List Int} {a : Int}, st.Pairwise (· < ·) → a ∉ st → (putL a st).Pairwise (· < ·)
  | [], a, _, _ => by simp [putL]
  | x :: r, a, hs, ha => by
    have hx : a ≠ x := fun e => ha (by simp [e])
    have hr : a ∉ r := fun e => ha (by simp [e])
    have hs' := List.pairwise_cons.1 hs
    unfold putL
    by_cases h : a < x
    · rw [if_pos h]
      refine List.pairwise_cons.2 ⟨fun y hy => ?_, hs⟩
      rcases List.mem_cons.1 hy with rfl | hy
      · exact h
      · have := hs'.1 y hy; omega
    · rw [if_neg h]
      refine List.pairwise_cons.2 ⟨fun y hy => ?_, putL_rises hs'.2 hr⟩
      have : ∀ (l : List Int), y ∈ putL a l → y = a ∨ y ∈ l := by
        intro l
        induction l with
        | nil => intro h; simpa [putL] using h
        | cons z l ih =>
          intro h
          unfold putL at h
          split at h
          · rcases List.mem_cons.1 h with h | h
            · exact .inl h
            · exact .inr h
          · rcases List.mem_cons.1 h with h | h
            · exact .inr (by simp [h])
            · rcases ih h with h | h
              · exact .inl h
              · exact .inr (by simp [h])
      rcases this r hy with rfl | hy
      · omega
      · exact hs'.1 y hy

end Go.Proofs.YtncnojgemmcplaaGreatDoor

namespace Go.Proofs.YtncnojgemmcplaaGreatDoor
open Go.RowKit

def setK {α : Type} (S : Int → α) (q : Int) (st : α) : Int → α := fun p => if p = q then st else S p
theorem setK_same {α : Type} (S : Int → α) (q : Int) (st : α) : setK S q st q = st := by simp [setK]
theorem setK_other {α : Type} (S : Int → α) (q : Int) (st : α) (p : Int) (h : p ≠ q) : setK S q st p = S p := by simp [setK, h]

def opFine (o : Int) (S : Int → List Int) (op : Opn) : Bool :=
  match stepM o (S op.k) op.d op.a op.b with
  | none => false
  | some (_, r) => decide (op.e < 0) || (op.r == r)
def after (o : Int) (S : Int → List Int) (op : Opn) : Int → List Int :=
  match stepM o (S op.k) op.d op.a op.b with
  | none => S
  | some (st', _) => setK S op.k st'

def opOf (ops : List Opn) (n : Int) : Option Opn := if 0 ≤ n then ops[n.toNat]? else none

def sAt (o : Int) (ops : List Opn) (ord : List Int) : Nat → Int → List Int
  | 0 => fun _ => startL o
  | k + 1 => match (ord[k]?).bind (opOf ops) with
    | none => sAt o ops ord k
    | some op => after o (sAt o ops ord k) op
def fineAt (o : Int) (ops : List Opn) (ord : List Int) (k : Nat) : Bool :=
  match (ord[k]?).bind (opOf ops) with
  | none => false
  | some op => opFine o (sAt o ops ord k) op




theorem stepM_len_le {o k a b : Int} {st st' : List Int} {r : Int} (h : stepM o st k a b = some (st', r)) : st'.length ≤ max 1 (st.length + 1) := by
  cases hk : knowsB o k
  · rw [stepM_unknown hk] at h; cases h
  · by_cases h1 : oneB o = true ∧ st.length ≠ 1
    · rw [stepM_len h1.1 h1.2] at h; cases h
    · have hone : oneB o = true → ∃ x, st = [x] := fun e => by
        have : st.length = 1 := by
          by_cases h : st.length = 1
          · exact h
          · exact absurd ⟨e, h⟩ h1
        exact List.length_eq_one_iff.1 this
      rcases knows_object hk with rfl | rfl | rfl | rfl | rfl | rfl
      · obtain ⟨x, rfl⟩ := hone rfl
        rw [stepM_reg hk] at h
        simp at h; rw [← h.1]; simp
      · obtain ⟨x, rfl⟩ := hone rfl
        rw [stepM_cnt hk] at h
        simp at h; rw [← h.1]; simp
      · rw [stepM_set hk] at h
        have h := congrArg Prod.fst (Option.some.inj h)
        subst h
        unfold setM
        split
        · simp; omega
        · split
          · simp; omega
          · split <;> simp <;> omega
      · rw [stepM_que hk] at h
        have h := congrArg Prod.fst (Option.some.inj h)
        subst h
        unfold queM
        split
        · simp
        · split <;> simp <;> omega
      · rw [stepM_sta hk] at h
        have h := congrArg Prod.fst (Option.some.inj h)
        subst h
        unfold staM
        split
        · simp
        · split <;> simp <;> omega
      · obtain ⟨x, rfl⟩ := hone rfl
        rw [stepM_mut hk] at h
        obtain ⟨y, _, hy⟩ := Option.map_eq_some_iff.1 h
        have h := congrArg Prod.fst hy
        simp at h; rw [← h]; simp

theorem setM_rises {st : List Int} {k a : Int} (hs : st.Pairwise (· < ·)) : (setM st k a).1.Pairwise (· < ·) := by
  by_cases h6 : k = 6 ∧ st.contains a = false
  · rw [setM_put h6.1 h6.2]
    have hn : a ∉ st := by simpa using h6.2
    show (insL st (placeOf st a) a).Pairwise _
    rw [← put_ins hs hn]
    exact putL_rises hs hn
  · by_cases h7 : k = 7 ∧ st.contains a = true
    · rw [setM_drop h7.1 h7.2]
      have hn : a ∈ st := by simpa using h7.2
      show (delL st (placeOf st a)).Pairwise _
      rw [← filter_del hs hn]
      exact hs.filter _
    · unfold setM
      rw [if_neg h6, if_neg h7]
      split <;> exact hs

theorem sAt_len (o : Int) (ops : List Opn) (ord : List Int) : ∀ (k : Nat) (q : Int), (sAt o ops ord k q).length ≤ k + 1
  | 0, q => by simp [sAt, startL]; split <;> simp
  | k + 1, q => by
    have ih := sAt_len o ops ord k
    unfold sAt
    cases (ord[k]?).bind (opOf ops) with
    | none => have := ih q; simp only; omega
    | some op =>
      simp only [after]
      cases hst : stepM o (sAt o ops ord k op.k) op.d op.a op.b with
      | none => have := ih q; simp only; omega
      | some p =>
        obtain ⟨st', r⟩ := p
        have h1 := stepM_len_le hst
        have h2 := ih op.k
        by_cases e : q = op.k
        · subst e; simp only [setK_same]; omega
        · simp only [setK_other _ _ _ _ e]; have := ih q; omega

theorem sAt_rises (ops : List Opn) (ord : List Int) : ∀ (k : Nat) (q : Int), (sAt 3 ops ord k q).Pairwise (· < ·)
  | 0, q => by simp [sAt, startL, oneB]
  | k + 1, q => by
    have ih := sAt_rises ops ord k
    unfold sAt
    cases (ord[k]?).bind (opOf ops) with
    | none => exact ih q
    | some op =>
      simp only [after]
      cases hst : stepM 3 (sAt 3 ops ord k op.k) op.d op.a op.b with
      | none => exact ih q
      | some p =>
        obtain ⟨st', r⟩ := p
        by_cases e : q = op.k
        · subst e
          simp only [setK_same]
          cases hk : knowsB 3 op.d with
          | false => rw [stepM_unknown hk] at hst; cases hst
          | true =>
            rw [stepM_set hk] at hst
            have h := congrArg Prod.fst (Option.some.inj hst)
            simp only at h
            rw [← h]
            exact setM_rises (ih op.k)
        · simp only [setK_other _ _ _ _ e]; exact ih q

theorem sAt_succ {o : Int} {ops : List Opn} {ord : List Int} {k : Nat} {op : Opn} (h : (ord[k]?).bind (opOf ops) = some op) : sAt o ops ord (k + 1) = after o (sAt o ops ord k) op := by
  rw [sAt, h]
theorem fineAt_some {o : Int} {ops : List Opn} {ord : List Int} {k : Nat} {op : Opn} (h : (ord[k]?).bind (opOf ops) = some op) : fineAt o ops ord k = opFine o (sAt o ops ord k) op := by
  rw [fineAt, h]

end Go.Proofs.YtncnojgemmcplaaGreatDoor

namespace Go.Proofs.YtncnojgemmcplaaGreatDoor

def op0 : Opn := ⟨0, 0, 0, 0, 0, 0, 0, 0⟩
def opN (ops : List Opn) (n : Nat) : Opn := ops.getD n op0
theorem opN_at {ops : List Opn} {n : Nat} (h : n < ops.length) : opN ops n = ops[n] := by simp [opN, h]

/-- What is searched: the object, the ops, what must be ahead of what, how many states may be entered, how a state is named. -/
structure Sr where
  o : Int
  ops : List Opn
  ah : Opn → Opn → Bool
  bud : Nat
  nm : List Nat → (Int → List Int) → List UInt8

def overB (ops : List Opn) (ord : List Nat) : Bool := (List.range ops.length).all fun n => decide ((opN ops n).e < 0) || ord.contains n
def freeB (c : Sr) (ord : List Nat) (n : Nat) : Bool :=
  !ord.contains n && (List.range c.ops.length).all fun a => a == n || !c.ah (opN c.ops a) (opN c.ops n) || ord.contains a
def tellN (c : Sr) (S : Int → List Int) (n : Nat) : Option (List Int) :=
  match stepM c.o (S (opN c.ops n).k) (opN c.ops n).d (opN c.ops n).a (opN c.ops n).b with
  | none => none
  | some (st, r) => if decide ((opN c.ops n).e < 0) || (opN c.ops n).r == r then some st else none
def stepN (c : Sr) (S : Int → List Int) (ord : List Nat) (n : Nat) : Option (List Int) := if freeB c ord n then tellN c S n else none

structure Res where
  code : Nat
  ord : List Nat
  ent : List (List UInt8)

def loopM (c : Sr) (vis : (Int → List Int) → List Nat → List (List UInt8) → Res) (S : Int → List Int) (ord : List Nat) : List Nat → List (List UInt8) → Res
  | [], ent => ⟨2, ord, ent⟩
  | n :: r, ent => match stepN c S ord n with
    | none => loopM c vis S ord r ent
    | some st =>
      let x := vis (setK S (opN c.ops n).k st) (ord ++ [n]) ent
      if x.code = 2 then loopM c vis S ord r x.ent else x

def visitM (c : Sr) : Nat → (Int → List Int) → List Nat → List (List UInt8) → Res
  | 0, _, ord, ent => ⟨2, ord, ent⟩
  | f + 1, S, ord, ent =>
    if overB c.ops ord then ⟨1, ord, ent⟩
    else if ent.contains (c.nm ord S) then ⟨2, ord, ent⟩
    else if ent.length = c.bud then ⟨3, ord, ent⟩
    else loopM c (visitM c f) S ord (List.range c.ops.length) (c.nm ord S :: ent)

def searchM (c : Sr) : Res := visitM c (c.ops.length + 1) (fun _ => startL c.o) [] []

inductive Reach (c : Sr) : List Nat → (Int → List Int) → Prop
  | start : Reach c [] (fun _ => startL c.o)
  | step {ord S n st} : Reach c ord S → n < c.ops.length → stepN c S ord n = some st → Reach c (ord ++ [n]) (setK S (opN c.ops n).k st)

theorem stepN_free {c : Sr} {S : Int → List Int} {ord : List Nat} {n : Nat} {st : List Int} (h : stepN c S ord n = some st) : freeB c ord n = true ∧ tellN c S n = some st := by
  unfold stepN at h
  split at h
  · exact ⟨by assumption, h⟩
  · cases h
theorem free_not {c : Sr} {ord : List Nat} {n : Nat} (h : freeB c ord n = true) : n ∉ ord := by
  simp only [freeB, Bool.and_eq_true] at h
  simpa using h.1

theorem reach_range {c : Sr} {ord : List Nat} {S : Int → List Int} (h : Reach c ord S) : ∀ n ∈ ord, n < c.ops.length := by
  induction h with
  | start => simp
  | step h hn hs ih =>
    intro m hm
    rcases List.mem_append.1 hm with hm | hm
    · exact ih m hm
    · rw [List.mem_singleton.1 hm]; exact hn
theorem reach_nodup {c : Sr} {ord : List Nat} {S : Int → List Int} (h : Reach c ord S) : ord.Nodup := by
  induction h with
  | start => simp
  | step h hn hs ih =>
    refine List.nodup_append.2 ⟨ih, by simp, ?_⟩
    intro a ha b hb e
    rw [List.mem_singleton.1 hb] at e
    exact free_not (stepN_free hs).1 (e ▸ ha)

theorem sub_length : ∀ (l m : List Nat), l.Nodup → (∀ x ∈ l, x ∈ m) → l.length ≤ m.length
  | [], m, _, _ => by simp
  | a :: l, m, h, hs => by
    have ha : a ∈ m := hs a (by simp)
    have hn := List.nodup_cons.1 h
    have := sub_length l (m.erase a) hn.2 (fun x hx => (List.mem_erase_of_ne (fun (e : x = a) => hn.1 (by rw [← e]; exact hx))).2 (hs x (List.mem_cons_of_mem _ hx)))
    rw [List.length_erase_of_mem ha] at this
    have := List.length_pos_of_mem ha
    simp only [List.length_cons]
    omega
theorem nodup_length {n : Nat} {l : List Nat} (hl : l.Nodup) (hx : ∀ x ∈ l, x < n) : l.length ≤ n := by
  have h := sub_length l (List.range n) hl (fun x h => List.mem_range.2 (hx x h))
  simpa using h
theorem reach_length {c : Sr} {ord : List Nat} {S : Int → List Int} (h : Reach c ord S) : ord.length ≤ c.ops.length := nodup_length (reach_nodup h) (reach_range h)



/-- The codes. -/
theorem loop_code {c : Sr} {vis : (Int → List Int) → List Nat → List (List UInt8) → Res} {S : Int → List Int} {ord : List Nat}
    (hv : ∀ S' ord' ent, (vis S' ord' ent).code = 1 ∨ (vis S' ord' ent).code = 2 ∨ (vis S' ord' ent).code = 3) :
    ∀ (r : List Nat) (ent : List (List UInt8)), (loopM c vis S ord r ent).code = 1 ∨ (loopM c vis S ord r ent).code = 2 ∨ (loopM c vis S ord r ent).code = 3
  | [], ent => by simp [loopM]
  | n :: r, ent => by
    unfold loopM
    cases hs : stepN c S ord n with
    | none => exact loop_code hv r ent
    | some st =>
      simp only
      split
      · exact loop_code hv r _
      · exact hv _ _ _
theorem visit_code {c : Sr} : ∀ (f : Nat) (S : Int → List Int) (ord : List Nat) (ent : List (List UInt8)), (visitM c f S ord ent).code = 1 ∨ (visitM c f S ord ent).code = 2 ∨ (visitM c f S ord ent).code = 3
  | 0, S, ord, ent => by simp [visitM]
  | f + 1, S, ord, ent => by
    unfold visitM
    split
    · simp
    · split
      · simp
      · split
        · simp
        · exact loop_code (visit_code f) _ _

/-- No more states than the budget are entered. -/
theorem loop_bud {c : Sr} {vis : (Int → List Int) → List Nat → List (List UInt8) → Res} {S : Int → List Int} {ord : List Nat}
    (hv : ∀ S' ord' ent, ent.length ≤ c.bud → (vis S' ord' ent).ent.length ≤ c.bud) :
    ∀ (r : List Nat) (ent : List (List UInt8)), ent.length ≤ c.bud → (loopM c vis S ord r ent).ent.length ≤ c.bud
  | [], ent, h => by simpa [loopM] using h
  | n :: r, ent, h => by
    unfold loopM
    cases hs : stepN c S ord n with
    | none => exact loop_bud hv r ent h
    | some st =>
      simp only
      split
      · exact loop_bud hv r _ (hv _ _ _ h)
      · exact hv _ _ _ h
theorem visit_bud {c : Sr} : ∀ (f : Nat) (S : Int → List Int) (ord : List Nat) (ent : List (List UInt8)), ent.length ≤ c.bud → (visitM c f S ord ent).ent.length ≤ c.bud
  | 0, S, ord, ent, h => by simpa [visitM] using h
  | f + 1, S, ord, ent, h => by
    unfold visitM
    split
    · exact h
    · split
      · exact h
      · split
        · exact h
        · rename_i h3
          exact loop_bud (visit_bud f) _ _ (by simp only [List.length_cons]; omega)







/-- From a state the search can come to an end. -/
inductive Comp (c : Sr) : List Nat → (Int → List Int) → Prop
  | over {ord S} : overB c.ops ord = true → Comp c ord S
  | step {ord S n st} : n < c.ops.length → stepN c S ord n = some st → Comp c (ord ++ [n]) (setK S (opN c.ops n).k st) → Comp c ord S

/-- Names are the states' own. -/
def OwnNm (c : Sr) : Prop := ∀ ord S ord' S', Reach c ord S → Reach c ord' S' → c.nm ord S = c.nm ord' S' → (∀ n, n ∈ ord ↔ n ∈ ord') ∧ S = S'

theorem over_same {ops : List Opn} {ord ord' : List Nat} (h : ∀ n, n ∈ ord ↔ n ∈ ord') : overB ops ord = overB ops ord' := by
  have : ∀ n, ord.contains n = ord'.contains n := fun n => by rw [Bool.eq_iff_iff]; simpa using h n
  simp only [overB, this]
theorem step_same {c : Sr} {S : Int → List Int} {ord ord' : List Nat} (h : ∀ n, n ∈ ord ↔ n ∈ ord') (n : Nat) : stepN c S ord n = stepN c S ord' n := by
  have : ∀ n, ord.contains n = ord'.contains n := fun n => by rw [Bool.eq_iff_iff]; simpa using h n
  have hf : freeB c ord n = freeB c ord' n := by simp only [freeB, this]
  unfold stepN
  rw [hf]
theorem comp_same {c : Sr} {S : Int → List Int} {ord : List Nat} (hc : Comp c ord S) : ∀ {ord' : List Nat}, (∀ n, n ∈ ord ↔ n ∈ ord') → Comp c ord' S := by
  induction hc with
  | over h => intro ord' e; exact .over (by rw [← over_same e]; exact h)
  | step hn hs _ ih =>
    intro ord' e
    refine .step hn (by rw [← step_same e]; exact hs) (ih ?_)
    intro m
    simp only [List.mem_append, List.mem_singleton, e m]

/-- A name whose states come to no end. -/
def DeadN (c : Sr) (x : List UInt8) : Prop := ∀ ord S, Reach c ord S → c.nm ord S = x → ¬ Comp c ord S
/-- A name of a state where fewer are done. -/
def AnceN (c : Sr) (ord : List Nat) (x : List UInt8) : Prop := ∃ ord' S', Reach c ord' S' ∧ c.nm ord' S' = x ∧ (∀ n ∈ ord', n ∈ ord) ∧ ∃ n ∈ ord, n ∉ ord'

theorem visit_dead {c : Sr} (hO : OwnNm c) : ∀ (f : Nat) (S : Int → List Int) (ord : List Nat) (ent : List (List UInt8)), Reach c ord S → f + ord.length = c.ops.length + 1 →
    ∀ A : List (List UInt8), (∀ x ∈ A, AnceN c ord x) → (∀ x ∈ ent, DeadN c x ∨ x ∈ A) → (visitM c f S ord ent).code = 2 → ¬ Comp c ord S ∧ ∀ x ∈ (visitM c f S ord ent).ent, DeadN c x ∨ x ∈ A := by
  intro f
  induction f with
  | zero => intro S ord ent hR hf; have := reach_length hR; omega
  | succ f ih =>
    intro S ord ent hR hf A hA hE h
    unfold visitM at h ⊢
    by_cases h1 : overB c.ops ord = true
    · rw [if_pos h1] at h; cases h
    · rw [if_neg h1] at h ⊢
      by_cases h2 : ent.contains (c.nm ord S) = true
      · rw [if_pos h2]
        have hm : c.nm ord S ∈ ent := by simpa using h2
        refine ⟨?_, hE⟩
        rcases hE _ hm with hd | ha
        · exact hd ord S hR rfl
        · obtain ⟨ord', S', hR', e, _, n, hn, hn'⟩ := hA _ ha
          exact absurd (((hO ord' S' ord S hR' hR e).1 n).2 hn) hn'
      · rw [if_neg h2] at h ⊢
        by_cases h3 : ent.length = c.bud
        · rw [if_pos h3] at h; cases h
        · rw [if_neg h3] at h ⊢
          have key : ∀ (r : List Nat) (ent : List (List UInt8)), (∀ n ∈ r, n < c.ops.length) → (∀ x ∈ ent, DeadN c x ∨ x ∈ c.nm ord S :: A) → (loopM c (visitM c f) S ord r ent).code = 2 →
              (∀ n ∈ r, ∀ st, stepN c S ord n = some st → ¬ Comp c (ord ++ [n]) (setK S (opN c.ops n).k st)) ∧ ∀ x ∈ (loopM c (visitM c f) S ord r ent).ent, DeadN c x ∨ x ∈ c.nm ord S :: A := by
            intro r
            induction r with
            | nil => intro ent _ hE _; exact ⟨by simp, by simpa [loopM] using hE⟩
            | cons n r ihr =>
              intro ent hr hE h
              have hr' : ∀ m ∈ r, m < c.ops.length := fun m hm => hr m (List.mem_cons_of_mem _ hm)
              unfold loopM at h ⊢
              cases hs : stepN c S ord n with
              | none =>
                rw [hs] at h
                have := ihr ent hr' hE h
                refine ⟨fun m hm st hst => ?_, this.2⟩
                rcases List.mem_cons.1 hm with rfl | hm
                · rw [hs] at hst; cases hst
                · exact this.1 m hm st hst
              | some st =>
                rw [hs] at h
                simp only at h ⊢
                by_cases hc : (visitM c f (setK S (opN c.ops n).k st) (ord ++ [n]) ent).code = 2
                · rw [if_pos hc] at h ⊢
                  have hR2 := hR.step (hr n (by simp)) hs
                  have hx := ih _ _ ent hR2 (by simp; omega) (c.nm ord S :: A) (fun x hx => by
                    have hself : AnceN c (ord ++ [n]) (c.nm ord S) := ⟨ord, S, hR, rfl, fun m hm => by simp [hm], n, by simp, free_not (stepN_free hs).1⟩
                    rcases List.mem_cons.1 hx with rfl | hx
                    · exact hself
                    · obtain ⟨ord', S', hR', e, hsub, m, hm, hm'⟩ := hA x hx
                      exact ⟨ord', S', hR', e, fun k hk => List.mem_append.2 (.inl (hsub k hk)), m, List.mem_append.2 (.inl hm), hm'⟩) hE hc
                  have := ihr _ hr' hx.2 h
                  refine ⟨fun m hm st' hst => ?_, this.2⟩
                  rcases List.mem_cons.1 hm with rfl | hm
                  · rw [hs] at hst; cases hst; exact hx.1
                  · exact this.1 m hm st' hst
                · rw [if_neg hc] at h; exact absurd h hc
          have hk := key (List.range c.ops.length) (c.nm ord S :: ent) (fun m hm => List.mem_range.1 hm) (fun x hx => by
            rcases List.mem_cons.1 hx with rfl | hx
            · exact .inr (by simp)
            · rcases hE x hx with hd | ha
              · exact .inl hd
              · exact .inr (List.mem_cons_of_mem _ ha)) h
          have hdead : ¬ Comp c ord S := by
            intro hC
            cases hC with
            | over h => exact h1 h
            | step hn hs hC => exact hk.1 _ (List.mem_range.2 hn) _ hs hC
          refine ⟨hdead, fun x hx => ?_⟩
          rcases hk.2 x hx with hd | ha
          · exact .inl hd
          · rcases List.mem_cons.1 ha with rfl | ha
            · left
              intro ord' S' hR' e hC
              obtain ⟨hm, rfl⟩ := hO ord' S' ord S hR' hR e
              exact hdead (comp_same hC hm)
            · exact .inr ha

theorem search_dead {c : Sr} (hO : OwnNm c) (h : (searchM c).code = 2) : ¬ Comp c [] (fun _ => startL c.o) :=
  (visit_dead hO (c.ops.length + 1) _ [] [] Reach.start (by simp) [] (by simp) (by simp) h).1

end Go.Proofs.YtncnojgemmcplaaGreatDoor

namespace Go.Proofs.YtncnojgemmcplaaGreatDoor

def iL (ord : List Nat) : List Int := ord.map fun n : Nat => (n : Int)
theorem iL_length (ord : List Nat) : (iL ord).length = ord.length := by simp [iL]
theorem iL_append (a b : List Nat) : iL (a ++ b) = iL a ++ iL b := by simp [iL]
theorem iL_get {ord : List Nat} {k : Nat} (h : k < ord.length) : (iL ord)[k]? = some (ord[k] : Int) := by simp [iL, h]

def opI (ops : List Opn) (n : Int) : Opn := opN ops n.toNat

structure ShowsM (o : Int) (ops : List Opn) (ord : List Int) : Prop where
  range : ∀ n ∈ ord, 0 ≤ n ∧ n < ops.length
  once : ord.Nodup
  whole : ∀ n, n < ops.length → 0 ≤ (opN ops n).e → (n : Int) ∈ ord
  timely : ∀ j, (hj : j < ord.length) → ∀ i, (hi : i < j) → beforeB (opI ops ord[j]) (opI ops (ord[i]'(Nat.lt_trans hi hj))) = false
  fine : ∀ j, j < ord.length → fineAt o ops ord j = true

theorem sAt_append {o : Int} {ops : List Opn} {ord x : List Int} : ∀ k, k ≤ ord.length → sAt o ops (ord ++ x) k = sAt o ops ord k
  | 0, _ => rfl
  | k + 1, h => by
    have ih := sAt_append (o := o) (ops := ops) (ord := ord) (x := x) k (by omega)
    unfold sAt
    rw [List.getElem?_append_left (by omega), ih]
theorem fineAt_append {o : Int} {ops : List Opn} {ord x : List Int} {k : Nat} (h : k < ord.length) : fineAt o ops (ord ++ x) k = fineAt o ops ord k := by
  unfold fineAt
  rw [List.getElem?_append_left h, sAt_append k (by omega)]

theorem opOf_nat {ops : List Opn} {n : Nat} (h : n < ops.length) : opOf ops (n : Int) = some (opN ops n) := by simp [opOf, opN, h]

theorem tell_step {c : Sr} {S : Int → List Int} {n : Nat} {st : List Int} (h : tellN c S n = some st) : ∃ r, stepM c.o (S (opN c.ops n).k) (opN c.ops n).d (opN c.ops n).a (opN c.ops n).b = some (st, r) ∧ ((opN c.ops n).e < 0 ∨ (opN c.ops n).r = r) := by
  unfold tellN at h
  split at h
  · cases h
  · rename_i st' r hs
    split at h
    · rename_i hc
      cases h
      refine ⟨r, hs, ?_⟩
      simpa using hc
    · cases h
theorem tell_after {c : Sr} {S : Int → List Int} {n : Nat} {st : List Int} (h : tellN c S n = some st) : opFine c.o S (opN c.ops n) = true ∧ after c.o S (opN c.ops n) = setK S (opN c.ops n).k st := by
  obtain ⟨r, hs, hr⟩ := tell_step h
  unfold opFine after
  rw [hs]
  refine ⟨?_, rfl⟩
  rcases hr with hr | hr
  · simp [hr]
  · simp [hr]
theorem tell_of_fine {c : Sr} {S : Int → List Int} {n : Nat} (h : opFine c.o S (opN c.ops n) = true) : ∃ st, tellN c S n = some st ∧ after c.o S (opN c.ops n) = setK S (opN c.ops n).k st := by
  unfold opFine at h
  unfold tellN after
  cases hs : stepM c.o (S (opN c.ops n).k) (opN c.ops n).d (opN c.ops n).a (opN c.ops n).b with
  | none => rw [hs] at h; cases h
  | some p =>
    obtain ⟨st, r⟩ := p
    rw [hs] at h
    exact ⟨st, by simp only; rw [if_pos h], rfl⟩

theorem reach_run {c : Sr} {ord : List Nat} {S : Int → List Int} (h : Reach c ord S) : S = sAt c.o c.ops (iL ord) ord.length ∧ ∀ j, j < ord.length → fineAt c.o c.ops (iL ord) j = true := by
  induction h with
  | start => exact ⟨rfl, fun j hj => by simp at hj⟩
  | @step ord S n st h hn hs ih =>
    obtain ⟨e, hf⟩ := ih
    have ht := tell_after (stepN_free hs).2
    have hat : ((iL ord ++ iL [n])[ord.length]?).bind (opOf c.ops) = some (opN c.ops n) := by
      rw [List.getElem?_append_right (by rw [iL_length]; omega), iL_length, Nat.sub_self]
      simpa [iL] using opOf_nat hn
    rw [iL_append]
    refine ⟨?_, fun j hj => ?_⟩
    · rw [List.length_append, List.length_singleton, sAt_succ hat, sAt_append _ (by rw [iL_length]; omega), ← e, ht.2]
    · rw [List.length_append, List.length_singleton] at hj
      by_cases hjl : j < ord.length
      · rw [fineAt_append (by rw [iL_length]; exact hjl)]; exact hf j hjl
      · have : j = ord.length := by omega
        subst this
        rw [fineAt_some hat, sAt_append _ (by rw [iL_length]; omega), ← e]
        exact ht.1

theorem free_ahead {c : Sr} {ord : List Nat} {n : Nat} (h : freeB c ord n = true) : ∀ a, a < c.ops.length → a ≠ n → c.ah (opN c.ops a) (opN c.ops n) = true → a ∈ ord := by
  intro a ha hne hah
  simp only [freeB, Bool.and_eq_true, List.all_eq_true] at h
  have := h.2 a (List.mem_range.2 ha)
  simp [hne, hah] at this
  exact this



/-- WHATEVER ORDER SHOWS IT, THE SEARCH CAN GO ALONG IT. -/
theorem shows_comp {c : Sr} {ord : List Nat} (h : ShowsM c.o c.ops (iL ord))
    (hah : ∀ a b, a < c.ops.length → b < c.ops.length → a ≠ b → c.ah (opN c.ops a) (opN c.ops b) = true → beforeB (opN c.ops a) (opN c.ops b) = true) : Comp c [] (fun _ => startL c.o) := by
  have hrange : ∀ n ∈ ord, n < c.ops.length := fun n hn => by
    have := (h.range (n : Int) (List.mem_map.2 ⟨n, hn, rfl⟩)).2; omega
  have honce : ord.Nodup := by
    have := h.once
    unfold iL at this
    exact (List.pairwise_map.1 this).imp (fun hab e => hab (by rw [e]))
  have hwhole : ∀ n, n < c.ops.length → 0 ≤ (opN c.ops n).e → n ∈ ord := fun n hn he => by
    obtain ⟨m, hm, e⟩ := List.mem_map.1 (h.whole n hn he)
    have : m = n := by omega
    rw [← this]; exact hm
  have key : ∀ d j, j + d = ord.length → Comp c (ord.take j) (sAt c.o c.ops (iL ord) j) := by
    intro d
    induction d with
    | zero =>
      intro j hj
      refine .over ?_
      rw [List.take_of_length_le (by omega)]
      simp only [overB, List.all_eq_true]
      intro n hn
      have hn := List.mem_range.1 hn
      by_cases he : (opN c.ops n).e < 0
      · simp [he]
      · simp [hwhole n hn (by omega)]
    | succ d ih =>
      intro j hj
      have hjl : j < ord.length := by omega
      have hn : ord[j] < c.ops.length := hrange _ (List.getElem_mem hjl)
      have hat : ((iL ord)[j]?).bind (opOf c.ops) = some (opN c.ops ord[j]) := by
        rw [iL_get hjl]
        exact opOf_nat hn
      have hfine : opFine c.o (sAt c.o c.ops (iL ord) j) (opN c.ops ord[j]) = true := by
        rw [← fineAt_some hat]; exact h.fine j (by rw [iL_length]; exact hjl)
      obtain ⟨st, ht, ha⟩ := tell_of_fine hfine
      have hfree : freeB c (ord.take j) ord[j] = true := by
        simp only [freeB, Bool.and_eq_true, List.all_eq_true]
        constructor
        · have : ord[j] ∉ ord.take j := by
            intro hm
            obtain ⟨i, hi, e⟩ := List.getElem_of_mem hm
            have hi' : i < j := by simp at hi; omega
            rw [List.getElem_take] at e
            have := (List.pairwise_iff_getElem.1 honce) i j (by omega) hjl hi'
            exact this e
          simpa using this
        · intro a ha
          have ha := List.mem_range.1 ha
          by_cases hne : a = ord[j]
          · simp [hne]
          · cases hb : c.ah (opN c.ops a) (opN c.ops ord[j]) with
            | false => simp
            | true =>
              have hbf := hah a ord[j] ha hn hne hb
              have he : 0 ≤ (opN c.ops a).e := by
                simp only [beforeB, Bool.and_eq_true, decide_eq_true_eq] at hbf; exact hbf.1
              obtain ⟨i, hi, e⟩ := List.getElem_of_mem (hwhole a ha he)
              have hij : i < j := by
                rcases Nat.lt_trichotomy i j with hlt | heq | hgt
                · exact hlt
                · subst heq; exact absurd e.symm hne
                · exfalso
                  have := h.timely i (by rw [iL_length]; exact hi) j hgt
                  simp only [iL, List.getElem_map, opI, Int.toNat_natCast] at this
                  rw [e, hbf] at this
                  cases this
              have : a ∈ ord.take j := by
                rw [← e]
                exact List.mem_take_iff_getElem.2 ⟨i, by omega, rfl⟩
              simp [this]
      have hs : stepN c (sAt c.o c.ops (iL ord) j) (ord.take j) ord[j] = some st := by
        unfold stepN; rw [if_pos hfree]; exact ht
      refine .step hn hs ?_
      have := ih (j + 1) (by omega)
      rw [sAt_succ hat, ha] at this
      rw [List.take_append_getElem hjl]
      exact this
  exact key ord.length 0 (by omega)

end Go.Proofs.YtncnojgemmcplaaGreatDoor
