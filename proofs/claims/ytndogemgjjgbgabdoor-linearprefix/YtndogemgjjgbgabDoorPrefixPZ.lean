/-
  WHAT SHOWS ALL SHOWS WHAT WAS SEEN UP TO SOME TIME: of an order that shows all ops, what stands ahead of the first one that is called behind the cut shows the ops of the cut.
  The ops of the first events, and those of all: a cut.
  The statement LinearPrefix walked: whatever the object, the events and the cut, true.
  The statement LinearPrefix walked: whatever the object, the events and the cut, true.
-/
import Derived.Test.YtndogemgjjgbgabDoorPlainNZ
import Derived.Test.YtndogemgjjgbgabDoorEvsZ
import Derived.Test.YtndogemgjjgbgabDoorSortLayZ
import Derived.Test.YtndogemgjjgbgabDoorWitnessW
import Derived.Test.YtndogemgjjgbgabDoorPickW
namespace Go.Proofs.YtndogemgjjgbgabDoor
open Go.RowKit

/-- An op as it is seen at a cut: the same call; its end, if it is seen. -/
structure CutOp (y x : Opn) : Prop where
  k : y.k = x.k
  d : y.d = x.d
  a : y.a = x.a
  b : y.b = x.b
  c : y.c = x.c
  e : 0 ≤ y.e → y = x

/-- The ops of a cut, and all. -/
structure CutOf (t : Int) (A B : List Opn) : Prop where
  oneA : ∀ i j, i < A.length → j < A.length → (opN A i).c = (opN A j).c → i = j
  oneB : ∀ i j, i < B.length → j < B.length → (opN B i).c = (opN B j).c → i = j
  into : ∀ n, n < B.length → (opN B n).c < t → ∃ j, j < A.length ∧ CutOp (opN A j) (opN B n)
  back : ∀ j, j < A.length → 0 ≤ (opN A j).e → (opN A j).c < t ∧ (opN A j).e < t ∧ ∃ n, n < B.length ∧ opN B n = opN A j

theorem head_at {α : Type} (p : α → Bool) : ∀ l : List α, ∃ m, m ≤ l.length ∧ (∀ i, (h : i < l.length) → i < m → p l[i] = true) ∧ (∀ h : m < l.length, p l[m] = false)
  | [] => ⟨0, by simp, fun i h => absurd h (by simp), fun h => absurd h (by simp)⟩
  | x :: r => by
    cases hx : p x
    · exact ⟨0, by simp, fun i _ h => absurd h (by omega), fun _ => by simpa using hx⟩
    · obtain ⟨m, h1, h2, h3⟩ := head_at p r
      refine ⟨m + 1, by simp; omega, fun i h hi => ?_, fun h => ?_⟩
      · cases i with
        | zero => simpa using hx
        | succ i => simpa using h2 i (by simp at h; omega) (by omega)
      · simpa using h3 (by simp at h; omega)

theorem cut_shows {t : Int} {A B : List Opn} {o : Int} {ord : List Int} (h : CutOf t A B) (hs : ShowsM o B ord) : ∃ ord', ShowsM o A ord' := by
  obtain ⟨l, rfl⟩ : ∃ l, ord = iL l := by
    refine ⟨ord.map Int.toNat, ?_⟩
    unfold iL
    rw [List.map_map]
    conv => lhs; rw [← List.map_id ord]
    apply List.map_congr_left
    intro x hx
    have := (hs.range x hx).1
    simp; omega
  obtain ⟨f, hf⟩ : ∃ f : Nat → Nat, ∀ n, n < B.length → (opN B n).c < t → f n < A.length ∧ CutOp (opN A (f n)) (opN B n) := by
    refine ⟨fun n => if g : n < B.length ∧ (opN B n).c < t then (h.into n g.1 g.2).choose else 0, fun n h1 h2 => ?_⟩
    simp only [dif_pos (And.intro h1 h2)]
    exact (h.into n h1 h2).choose_spec
  obtain ⟨m, hm, hin, hout⟩ := head_at (fun n => decide ((opN B n).c < t)) l
  have hr : ∀ i, (hi : i < l.length) → l[i] < B.length := fun i hi => by
    have := hs.range (l[i] : Int) (List.mem_map.2 ⟨l[i], List.getElem_mem _, rfl⟩); omega
  have hc : ∀ i, (hi : i < l.length) → i < m → (opN B l[i]).c < t := fun i hi h => by simpa using hin i hi h
  have hF : ∀ i, (hi : i < l.length) → i < m → f l[i] < A.length ∧ CutOp (opN A (f l[i])) (opN B l[i]) := fun i hi g => hf _ (hr i hi) (hc i hi g)
  have hlen : (iL ((l.take m).map f)).length = m := by simp [iL]; omega
  have hat : ∀ i, (hi : i < m) → (iL ((l.take m).map f))[i]'(by rw [hlen]; exact hi) = (f (l[i]'(by omega)) : Int) := fun i hi => by simp [iL]
  have hatB : ∀ i, (hi : i < l.length) → (iL l)[i]'(by simpa [iL] using hi) = (l[i] : Int) := fun i hi => by simp [iL]
  have hS : ∀ k, k ≤ m → sAt o A (iL ((l.take m).map f)) k = sAt o B (iL l) k := by
    intro k
    induction k with
    | zero => intro _; rfl
    | succ k ih =>
      intro hk
      have hkl : k < l.length := by omega
      obtain ⟨f1, f2⟩ := hF k hkl (by omega)
      have i2 := ih (by omega)
      unfold sAt
      rw [List.getElem?_eq_getElem (by rw [hlen]; omega), hat k (by omega), List.getElem?_eq_getElem (by simpa [iL] using hkl), hatB k hkl]
      simp only [Option.bind_some]
      rw [opOf_at f1, ← opN_at f1, opOf_at (hr k hkl), ← opN_at (hr k hkl), i2]
      simp only [after]
      rw [f2.k, f2.d, f2.a, f2.b]
  refine ⟨iL ((l.take m).map f), ⟨fun n hn => ?_, ?_, fun j hj he => ?_, fun j hj i hi => ?_, fun j hj => ?_⟩⟩
  · obtain ⟨i, hi, rfl⟩ := List.getElem_of_mem hn
    rw [hlen] at hi
    rw [hat i hi]
    have := (hF i (by omega) hi).1
    omega
  · refine List.pairwise_iff_getElem.2 fun i j hi hj hij e => ?_
    rw [hlen] at hi hj
    rw [hat i hi, hat j hj] at e
    have e2 : f (l[i]'(by omega)) = f (l[j]'(by omega)) := Int.ofNat.inj e
    have a1 := (hF i (by omega) (by omega)).2.c
    have a2 := (hF j (by omega) hj).2.c
    rw [e2] at a1
    have e3 : l[i]'(by omega) = l[j]'(by omega) := h.oneB _ _ (hr i (by omega)) (hr j (by omega)) (a1.symm.trans a2)
    refine List.pairwise_iff_getElem.1 hs.once i j (by simp [iL]; omega) (by simp [iL]; omega) hij ?_
    rw [hatB i (by omega), hatB j (by omega), e3]
  · obtain ⟨b1, b2, n, hn, hbn⟩ := h.back j hj he
    have hmem := hs.whole n hn (by rw [hbn]; exact he)
    obtain ⟨q, hq, hqe⟩ := List.getElem_of_mem hmem
    have hql : q < l.length := by simpa [iL] using hq
    rw [hatB q hql] at hqe
    have hqn : l[q] = n := by omega
    have hqm : q < m := by
      rcases Nat.lt_or_ge q m with g | g
      · exact g
      · exfalso
        have hml : m < l.length := by omega
        have hno : ¬ (opN B l[m]).c < t := by simpa using hout hml
        rcases Nat.lt_or_eq_of_le g with g | g
        · have ht := hs.timely q hq m g
          rw [hatB q hql, hatB m hml] at ht
          unfold opI at ht
          simp only [Int.toNat_natCast] at ht
          rw [hqn, hbn] at ht
          simp only [beforeB, Bool.and_eq_false_iff, decide_eq_false_iff_not] at ht
          omega
        · subst g
          rw [hqn, hbn] at hno
          exact hno b1
    have hj2 : f l[q] = j := by
      obtain ⟨f1, f2⟩ := hF q hql hqm
      refine h.oneA _ _ f1 hj ?_
      rw [f2.c, hqn, hbn]
    rw [← hj2, ← hat q hqm]
    exact List.getElem_mem _
  · have hj' : j < m := by rw [hlen] at hj; exact hj
    have hi' : i < m := by omega
    rw [hat j hj', hat i hi']
    cases hb : beforeB (opI A (f (l[j]'(by omega)) : Int)) (opI A (f (l[i]'(by omega)) : Int))
    · rfl
    · exfalso
      have ht := hs.timely j (by simp [iL]; omega) i hi
      rw [hatB j (by omega), hatB i (by omega)] at ht
      unfold opI at ht hb
      simp only [Int.toNat_natCast] at ht hb
      have c1 := (hF j (by omega) hj').2
      have c2 := (hF i (by omega) hi').2
      simp only [beforeB, Bool.and_eq_true, decide_eq_true_eq] at hb
      have e1 := c1.e hb.1
      simp only [beforeB, Bool.and_eq_false_iff, decide_eq_false_iff_not] at ht
      rw [e1, c2.c] at hb
      omega
  · have hj' : j < m := by rw [hlen] at hj; exact hj
    have hjl : j < l.length := by omega
    obtain ⟨f1, f2⟩ := hF j hjl hj'
    have hfi := hs.fine j (by simp [iL]; omega)
    unfold fineAt at hfi ⊢
    rw [List.getElem?_eq_getElem (by simpa [iL] using hjl), hatB j hjl] at hfi
    rw [List.getElem?_eq_getElem hj, hat j hj']
    simp only [Option.bind_some] at hfi ⊢
    rw [opOf_at (hr j hjl), ← opN_at (hr j hjl)] at hfi
    rw [opOf_at f1, ← opN_at f1, hS j (by omega)]
    by_cases he : 0 ≤ (opN A (f l[j])).e
    · rw [f2.e he]; exact hfi
    · show opFine o (sAt o B (iL l) j) (opN A (f l[j])) = true
      have hfi : opFine o (sAt o B (iL l) j) (opN B l[j]) = true := hfi
      unfold opFine at hfi ⊢
      rw [f2.k, f2.d, f2.a, f2.b]
      cases hst : stepM o (sAt o B (iL l) j (opN B l[j]).k) (opN B l[j]).d (opN B l[j]).a (opN B l[j]).b with
      | none => rw [hst] at hfi; cases hfi
      | some x =>
        have : decide ((opN A (f l[j])).e < 0) = true := by simp; omega
        simp [this]

end Go.Proofs.YtndogemgjjgbgabDoor

namespace Go.Proofs.YtndogemgjjgbgabDoor
open Go.RowKit

/-- What a history becomes, events later. -/
structure Later (t : Int) (s0 s : Hs) : Prop where
  done : ∀ x ∈ s.done, x.c < t → x ∈ s0.done ∨ ∃ p o, s0.busy p = some o ∧ o.k = x.k ∧ o.d = x.d ∧ o.a = x.a ∧ o.b = x.b ∧ o.c = x.c
  busy : ∀ p o, s.busy p = some o → o.c < t → s0.busy p = some o
  kept : ∀ x ∈ s0.done, x ∈ s.done

theorem later_refl (t : Int) (s : Hs) : Later t s s := ⟨fun _ h _ => .inl h, fun _ _ h _ => h, fun _ h => h⟩

theorem later_see {t : Int} {s0 s : Hs} (h : Later t s0 s) {n : Int} (hn : t ≤ n) (e : Ev) : Later t s0 (seeS n e s) := by
  have hb : ∀ p o, setO s.busy e.p none p = some o → o.c < t → s0.busy p = some o := fun p o hp hc => by
    by_cases g : p = e.p
    · subst g; rw [setO_same] at hp; cases hp
    · rw [setO_other _ _ _ _ g] at hp; exact h.busy p o hp hc
  unfold seeS
  split
  · refine ⟨h.done, fun p o hp hc => ?_, h.kept⟩
    by_cases g : p = e.p
    · subst g
      have hp : setO s.busy e.p (some (e.op n)) e.p = some o := hp
      rw [setO_same] at hp
      obtain rfl := Option.some.inj hp
      have : (e.op n).c = n := rfl
      omega
    · have hp' : s.busy p = some o := (setO_other _ _ _ _ g).symm.trans hp
      exact h.busy p o hp' hc
  · split
    · exact h
    · rename_i o ho
      split
      · refine ⟨fun x hx hc => ?_, hb, fun x hx => List.mem_append_left _ (h.kept x hx)⟩
        rcases List.mem_append.1 hx with hx | hx
        · exact h.done x hx hc
        · obtain rfl := List.mem_singleton.1 hx
          exact .inr ⟨e.p, o, h.busy e.p o ho hc, rfl, rfl, rfl, rfl, rfl⟩
      · split
        · refine ⟨fun x hx hc => ?_, hb, fun x hx => List.mem_append_left _ (h.kept x hx)⟩
          rcases List.mem_append.1 hx with hx | hx
          · exact h.done x hx hc
          · obtain rfl := List.mem_singleton.1 hx
            exact .inr ⟨e.p, x, h.busy e.p x ho hc, rfl, rfl, rfl, rfl, rfl⟩
        · exact ⟨h.done, hb, h.kept⟩

theorem later_hist (l : List Ev) (t : Nat) : ∀ d, t + d ≤ l.length → Later t (hist l t) (hist l (t + d))
  | 0, _ => later_refl _ _
  | d + 1, h => by
    rw [← Nat.add_assoc, hist_succ l (t + d) (by omega)]
    exact later_see (later_hist l t d (by omega)) (by omega) _

theorem opsOf_mem {s : Hs} {L : List Opn} (h : OpsOf s L) (x : Opn) : x ∈ L ↔ x ∈ s.done ∨ ∃ p, s.busy p = some x := by
  obtain ⟨qs, _, hq, hp, _⟩ := h
  rw [hp.mem_iff, List.mem_append]
  constructor
  · rintro (h | h)
    · exact .inl h
    · exact .inr (mem_pending h)
  · rintro (h | ⟨p, h⟩)
    · exact .inl h
    · exact .inr (List.mem_filterMap.2 ⟨p, (hq p).2 (by rw [h]; rfl), h⟩)

theorem mem_opN {L : List Opn} {x : Opn} (h : x ∈ L) : ∃ j, j < L.length ∧ opN L j = x := by
  obtain ⟨j, hj, e⟩ := List.getElem_of_mem h
  exact ⟨j, hj, (opN_at hj).trans e⟩
theorem opN_mem {L : List Opn} {j : Nat} (h : j < L.length) : opN L j ∈ L := by rw [opN_at h]; exact List.getElem_mem h

theorem sole_call {l : List Ev} {n : Nat} {s : Hs} {L : List Opn} (I : Inv l n s) (h : OpsOf s L) (i j : Nat) (hi : i < L.length) (hj : j < L.length) (e : (opN L i).c = (opN L j).c) : i = j := by
  have hr := List.pairwise_iff_getElem.1 (opsOf_rising I h)
  rw [opN_at hi, opN_at hj] at e
  rcases Nat.lt_trichotomy i j with g | g | g
  · have := (hr i j hi hj g).1; omega
  · exact g
  · have := (hr j i hj hi g).1; omega

theorem cutOf_hist {l : List Ev} {t : Nat} {A B : List Opn} (ht : t ≤ l.length) (hf : FineH l l.length) (hA : OpsOf (hist l t) A) (hB : OpsOf (hist l l.length) B) : CutOf t A B := by
  have I0 := inv_hist l t ht (fun i h hi => hf i h (by omega))
  have I1 := inv_hist l l.length (Nat.le_refl _) hf
  have hL : Later t (hist l t) (hist l l.length) := by
    have := later_hist l t (l.length - t) (by omega)
    rwa [show t + (l.length - t) = l.length by omega] at this
  refine ⟨sole_call I0 hA, sole_call I1 hB, fun n hn hc => ?_, fun j hj he => ?_⟩
  · rcases (opsOf_mem hB _).1 (opN_mem hn) with hx | ⟨p, hx⟩
    · rcases hL.done _ hx hc with hx | ⟨p, o, ho, h1, h2, h3, h4, h5⟩
      · obtain ⟨j, hj, e⟩ := mem_opN ((opsOf_mem hA _).2 (.inl hx))
        exact ⟨j, hj, by rw [e]; exact ⟨rfl, rfl, rfl, rfl, rfl, fun _ => rfl⟩⟩
      · obtain ⟨j, hj, e⟩ := mem_opN ((opsOf_mem hA o).2 (.inr ⟨p, ho⟩))
        have := (I0.goodB p o ho).2.2.1
        exact ⟨j, hj, by rw [e]; exact ⟨h1, h2, h3, h4, h5, fun g => by omega⟩⟩
    · obtain ⟨j, hj, e⟩ := mem_opN ((opsOf_mem hA _).2 (.inr ⟨p, hL.busy p _ hx hc⟩))
      exact ⟨j, hj, by rw [e]; exact ⟨rfl, rfl, rfl, rfl, rfl, fun _ => rfl⟩⟩
  · have hm := opN_mem hj
    have hg := opsOf_good I0 hA _ hm
    refine ⟨hg.hi, hg.ret, ?_⟩
    rcases (opsOf_mem hA _).1 hm with hx | ⟨p, hx⟩
    · exact mem_opN ((opsOf_mem hB _).2 (.inl (hL.kept _ hx)))
    · have := (I0.goodB p _ hx).2.2.1
      omega

end Go.Proofs.YtndogemgjjgbgabDoor

namespace Go.Proofs.YtndogemgjjgbgabDoor
open Go.RowKit

def EvsIn (w : World) (v : Value) (l : List Ev) : Prop :=
  ∃ a cap, v = .slice a l.length cap ∧ l.length ≤ cap ∧ l.length ≤ maxLen ∧ (l = [] ∨ ∃ b off, a = some ⟨b, off, none⟩ ∧ b < w.heap.size ∧ EvsAt w b off l)
theorem EvsIn.below {w w' : World} {v : Value} {l : List Ev} (h : EvsIn w v l) (hb : Below w.heap.size w w') : EvsIn w' v l := by
  obtain ⟨a, cap, rfl, hc, hm, h⟩ := h
  refine ⟨a, cap, rfl, hc, hm, ?_⟩
  rcases h with h | ⟨b, off, rfl, hlt, h⟩
  · exact .inl h
  · exact .inr ⟨b, off, rfl, Nat.lt_of_lt_of_le hlt hb.size, h.below hlt hb⟩

theorem hist_take (l : List Ev) (k : Nat) : ∀ n, n ≤ k → hist (l.take k) n = hist l n
  | 0, _ => rfl
  | n + 1, h => by
    have ih := hist_take l k n (by omega)
    unfold hist
    rw [List.getElem?_take_of_lt (by omega), ih]

theorem opsOf_len {l : List Ev} {n : Nat} {s : Hs} {L : List Opn} (I : Inv l n s) (h : OpsOf s L) : L.length ≤ n := by
  have hr := List.pairwise_iff_getElem.1 (opsOf_rising I h)
  have hg := opsOf_good I h
  have key : ∀ i, (hi : i < L.length) → (i : Int) ≤ L[i].c := by
    intro i
    induction i with
    | zero => intro hi; have := (hg _ (List.getElem_mem hi)).lo; simpa using this
    | succ i ih => intro hi; have := (hr i (i + 1) (by omega) hi (by omega)).1; have := ih (by omega); omega
  rcases Nat.eq_zero_or_pos L.length with g | g
  · omega
  · have h1 := key (L.length - 1) (by omega)
    have h2 := (hg _ (List.getElem_mem (show L.length - 1 < L.length by omega))).hi
    omega

/-- What Ops tells, as values. -/
def EoTold (l : List Ev) (w : World) (e : Ending) (w' : World) : Prop :=
  Below w.heap.size w w' ∧ ((∃ t x, e = .returned (.tuple #[.slice none 0 0, .iface t x]) ∧ (t = 43 ∨ t = 51)) ∨ (FineH l l.length ∧ ∃ a c L, e = .returned (.tuple #[.slice a L.length c, .nilIface]) ∧ OpsOf (hist l l.length) L ∧ L.length ≤ 60 ∧ OpsIn w' (.slice a L.length c) L))
theorem evOps_any (l : List Ev) (v : Value) (w : World) (h24 : l.length ≤ 24) (hl : EvsIn w v l) : Calls Tryd.prog 7 #[v] w fun e w' => EoTold l w e w' := by
  have key : ∀ e w', OpsTold l e w' ∧ Below w.heap.size w w' → EoTold l w e w' := by
    rintro e w' ⟨h, hb⟩
    refine ⟨hb, ?_⟩
    rcases h with ⟨h, _⟩ | ⟨k, g, n, _, _, _, _, rfl, _⟩ | ⟨_, hf, a, c, L, rfl, ho, ⟨hc, hm⟩, hat⟩
    · omega
    · exact .inl ⟨_, _, rfl, .inr rfl⟩
    · have hlen := opsOf_len (inv_hist l l.length (Nat.le_refl _) hf) ho
      refine .inr ⟨hf, a, c, L, rfl, ho, by omega, a, c, rfl, hc, by unfold maxLen; omega, ?_⟩
      by_cases h0 : 0 < L.length
      · obtain ⟨g, rfl, hg⟩ := hat h0
        exact .inr ⟨g, 0, rfl, (hg 0 h0).lt, hg⟩
      · exact .inl (List.length_eq_zero_iff.1 (by omega))
  obtain ⟨a, cap, rfl, hc, hm, h | ⟨b, off, rfl, hlt, h⟩⟩ := hl
  · subst h
    exact (evOps_none a cap w).mono (fun e w' h => key e w' h)
  · exact (evOps_some l b off cap w (by omega) h hlt).mono (fun e w' h => key e w' h)

theorem jt_parts {o bud : Int} {ops : List Opn} {w : World} {e : Ending} {w' : World} (h : JTold o bud ops w e w') :
    Below w.heap.size w w' ∧ ((∃ n, e = .returned (.tuple #[.agg #[.int .i64 0, .slice none 0 0, .int .i64 0], .iface 43 (.int .i64 n)])) ∨
      (CkTold o ops 0 ∧ ∃ va vl vc xe, e = .returned (.tuple #[.agg #[.int .i64 ((searchM (srB o ops bud.toNat)).code : Int), .slice va vl vc, .int .i64 xe], .nilIface]))) := by
  obtain ⟨hb, ⟨n, hn, _, rfl⟩ | ⟨hlc, ov, rfl, ho1, ho2⟩⟩ := h
  · exact ⟨hb, .inl ⟨n, by rw [toldV_some hn]⟩⟩
  · refine ⟨hb, .inr ⟨(lc_zero hlc).2.1, ?_⟩⟩
    by_cases h1 : (searchM (srB o ops bud.toNat)).code = 1
    · obtain ⟨a, c, e⟩ := ownsRow_slice (ho1 h1)
      subst e
      exact ⟨_, _, _, _, rfl⟩
    · have := ho2 h1
      subst this
      exact ⟨_, _, _, _, rfl⟩

theorem prefix_core {o : Int} {l : List Ev} {k : Nat} {A B : List Opn} {b1 b2 : Nat} (hk : k ≤ l.length) (hf : FineH l l.length) (hA : OpsOf (hist (l.take k) (l.take k).length) A) (hB : OpsOf (hist l l.length) B) (ht : Told A 0)
    (hc : (searchM (srB o B b1)).code = 1) : (searchM (srB o A b2)).code ≠ 2 := by
  have e : (l.take k).length = k := by simp; omega
  rw [e, hist_take l k k (Nat.le_refl _)] at hA
  obtain ⟨ord', hs⟩ := cut_shows (cutOf_hist hk hf hA hB) (valid_shows hc)
  obtain ⟨m, rfl⟩ : ∃ m, ord' = iL m := by
    refine ⟨ord'.map Int.toNat, ?_⟩
    unfold iL
    rw [List.map_map]
    conv => lhs; rw [← List.map_id ord']
    apply List.map_congr_left
    intro x hx
    have := (hs.range x hx).1
    simp; omega
  intro h2
  exact search_dead (own_srB (told_keysN ht)) h2 (shows_comp (c := srB o A b2) hs (fun _ _ _ _ _ h => h))

end Go.Proofs.YtndogemgjjgbgabDoor

namespace Go.Proofs.YtndogemgjjgbgabDoor
open Go.RowKit

set_option maxRecDepth 100000 in
set_option maxHeartbeats 4000000 in
theorem linearPrefix_walk (o : Int) (l : List Ev) (cut : Int) (v : Value) (w : World) (hl : EvsIn w v l) (hK : KnownAt w) :
    Calls Tryd.prog 3 #[.int .i64 o, v, .int .i64 cut] w fun e w' => e = .returned (.bool true) ∧ Below w.heap.size w w' := by
  have hpos : 0 < w.heap.size := World.block_lt_of_cell? w ⟨0, 0 * 13 + 0, none⟩ (hK 0 0 (by decide) (by decide))
  have hl0 := hl
  obtain ⟨a, cap, rfl, hcap, hmax, hev⟩ := hl
  by_cases h24 : 24 < l.length
  · have g1 : decide (24 < (l.length : Int)) = true := by simp; omega
    clear hl0 hK hev
    go_enter Tryd.func3, Tryd.ntmps3
    go_wp2
    go_ret
    exact ⟨rfl, Below.refl _ _⟩
  · have g1 : decide (24 < (l.length : Int)) = false := by simp; omega
    have r0 : IntKind.i64.wrap ((l.length : Int) + 1) = (l.length : Int) + 1 := by rw [IntKind.wrap_i64]; omega
    obtain ⟨k, hk, HP⟩ : ∃ k : Nat, k ≤ l.length ∧ Hid (∀ w1, Calls Tryd.prog 6 #[.int .i64 cut, .int .i64 ((l.length : Int) + 1)] w1 fun e w' => e = .returned (.int .i64 k) ∧ w' = w1) :=
      ⟨pickN cut (l.length + 1), by have := Nat.mod_lt (IntKind.u64.wrap cut).toNat (show 0 < l.length + 1 by omega); unfold pickN; omega, hideIt (fun w1 => by have := pick_is cut (l.length + 1) w1 (by omega) (by omega); simpa using this)⟩
    have hA0 : EvsIn w (.slice a k cap) (l.take k) := by
      have e : (l.take k).length = k := by simp; omega
      refine ⟨a, cap, by rw [e], by omega, by omega, ?_⟩
      rcases hev with hev | ⟨b, off, rfl, hb, hev⟩
      · exact .inl (by rw [hev]; simp)
      · refine .inr ⟨b, off, rfl, hb, fun i hi => ?_⟩
        have := hev i (by omega)
        rwa [List.getElem_take]
    have HA : Hid (∀ w1, Below w.heap.size w w1 → Calls Tryd.prog 7 #[.slice a k cap] w1 fun e w' => EoTold (l.take k) w1 e w') := hideIt (fun w1 hb => evOps_any (l.take k) _ w1 (by simp; omega) (hA0.below hb))
    have HB : Hid (∀ w1, Below w.heap.size w w1 → Calls Tryd.prog 7 #[.slice a l.length cap] w1 fun e w' => EoTold l w1 e w') := hideIt (fun w1 hb => evOps_any l _ w1 (by omega) (hl0.below hb))
    have HT : Hid (∀ w1, Below w.heap.size w w1 → Calls Tryd.prog 8 #[] w1 fun e w' => e = .returned (.bool true) ∧ Below w1.heap.size w1 w') := hideIt (fun w1 hb => toldK_any w1 (hK.below hpos hb))
    have HC : Hid (∀ w1 L u, Below w.heap.size w w1 → L.length ≤ 60 → OpsIn w1 u L → Calls Tryd.prog 9 #[.int .i64 o, u, .int .i64 20000] w1 fun e w' => JTold o 20000 L w1 e w') := hideIt (fun w1 L u hb hn hu => check_any o 20000 L u w1 hn hu (hK.below hpos hb))
    have k1 : (0 : Int) ≤ (k : Int) := by omega
    have k2 : (k : Int) ≤ (cap : Int) := by omega
    clear hK hev hl0 hA0
    go_enter Tryd.func3, Tryd.ntmps3
    go_wp2_with fail
    refine (HP.out _).mono ?_
    rintro e w' ⟨rfl, hw⟩
    have hw := hw.symm
    subst hw
    go_wp2_with fail
    refine (HA.out _ (Below.refl _ _)).mono ?_
    rintro e w1 ⟨hb1, hA1⟩
    have HB1 := hideIt hb1
    clear hb1
    rcases hA1 with ⟨t, x, rfl, _⟩ | ⟨_, a1, c1, LA, rfl, hoA, hlA, hinA⟩
    · go_wp2_with fail
      refine (HB.out _ HB1.out).mono ?_
      rintro e w2 ⟨hb2, hB2⟩
      have HB2 := hideIt (belJ HB1.out hb2)
      clear hb2
      rcases hB2 with ⟨t2, x2, rfl, _⟩ | ⟨_, a2, c2, LB, rfl, _, _, _⟩
      all_goals
        go_wp2_with fail
        refine (HT.out _ HB2.out).mono ?_
        rintro e w3 ⟨rfl, hb3⟩
        have HB3 := hideIt (belJ HB2.out hb3)
        clear hb3
        go_wp2_with fail
        refine (HT.out _ HB3.out).mono ?_
        rintro e w4 ⟨rfl, hb4⟩
        have HB4 := hideIt (belJ HB3.out hb4)
        clear hb4
        go_wp2
        go_ret
        exact ⟨rfl, HB4.out⟩
    · have HOA := hideIt hoA
      have HIA := hideIt hinA
      clear hoA hinA
      go_wp2_with fail
      refine (HB.out _ HB1.out).mono ?_
      rintro e w2 ⟨hb2, hB2⟩
      have HB2 := hideIt (belJ HB1.out hb2)
      have HIA2 := hideIt (HIA.out.below hb2)
      clear hb2
      rcases hB2 with ⟨t2, x2, rfl, _⟩ | ⟨hfB, a2, c2, LB, rfl, hoB, hlB, hinB⟩
      · go_wp2_with fail
        refine (HT.out _ HB2.out).mono ?_
        rintro e w3 ⟨rfl, hb3⟩
        have HB3 := hideIt (belJ HB2.out hb3)
        clear hb3
        go_wp2_with fail
        refine (HT.out _ HB3.out).mono ?_
        rintro e w4 ⟨rfl, hb4⟩
        have HB4 := hideIt (belJ HB3.out hb4)
        clear hb4
        go_wp2
        go_ret
        exact ⟨rfl, HB4.out⟩
      · have HPC : Hid (∀ b1 b2 : Nat, Told LA 0 → (searchM (srB o LB b1)).code = 1 → (searchM (srB o LA b2)).code ≠ 2) := hideIt (fun b1 b2 ht hc => prefix_core hk hfB HOA.out hoB ht hc)
        have HIB := hideIt hinB
        clear hfB hoB hinB
        go_wp2_with fail
        refine (HT.out _ HB2.out).mono ?_
        rintro e w3 ⟨rfl, hb3⟩
        have HB3 := hideIt (belJ HB2.out hb3)
        have HIA3 := hideIt (HIA2.out.below hb3)
        have HIB3 := hideIt (HIB.out.below hb3)
        clear hb3
        go_wp2_with fail
        refine (HC.out _ LA _ HB3.out hlA HIA3.out).mono ?_
        intro e w4 hj4
        obtain ⟨hb4, ⟨n4, rfl⟩ | ⟨hckA, va, vl, vc, xe, rfl⟩⟩ := jt_parts hj4
        · have HB4 : Hid (Below w.heap.size w (w4.alloc (.cells #[.int .i64 0, .slice none 0 0, .int .i64 0] 32))) := hideIt (belA (belJ HB3.out hb4) _)
          have HIB4 := hideIt ((HIB3.out.below hb4).below (belA (Below.refl w4.heap.size w4) (.cells #[.int .i64 0, .slice none 0 0, .int .i64 0] 32)))
          clear hb4 hj4
          go_wp2_with fail
          refine (HC.out _ LB _ HB4.out hlB HIB4.out).mono ?_
          intro e w5 hj5
          obtain ⟨hb5, ⟨n5, rfl⟩ | ⟨_, ya, yl, yc, ye, rfl⟩⟩ := jt_parts hj5
          · have HB5 : Hid (Below w.heap.size w (w5.alloc (.cells #[.int .i64 0, .slice none 0 0, .int .i64 0] 32))) := hideIt (belA (belJ HB4.out hb5) _)
            clear hb5 hj5
            go_wp2
            go_ret
            exact ⟨rfl, HB5.out⟩
          · generalize ((searchM (srB o LB (20000 : Int).toNat)).code : Int) = zc
            have HB5 : Hid (Below w.heap.size w (w5.alloc (.cells #[.int .i64 zc, .slice ya yl yc, .int .i64 ye] 32))) := hideIt (belA (belJ HB4.out hb5) _)
            clear hb5 hj5
            go_wp2
            go_ret
            exact ⟨rfl, HB5.out⟩
        · have hpc := fun b1 b2 => HPC.out b1 b2 (ckTold_told hckA)
          have HPC2 : Hid (((searchM (srB o LB (20000 : Int).toNat)).code : Int) = 1 → ((searchM (srB o LA (20000 : Int).toNat)).code : Int) ≠ 2) := hideIt (fun h1 h2 => hpc (20000 : Int).toNat (20000 : Int).toNat (by omega) (by omega))
          clear hpc
          generalize ((searchM (srB o LA (20000 : Int).toNat)).code : Int) = xc at HPC2 ⊢
          have HB4 : Hid (Below w.heap.size w (w4.alloc (.cells #[.int .i64 xc, .slice va vl vc, .int .i64 xe] 32))) := hideIt (belA (belJ HB3.out hb4) _)
          have HIB4 := hideIt ((HIB3.out.below hb4).below (belA (Below.refl w4.heap.size w4) (.cells #[.int .i64 xc, .slice va vl vc, .int .i64 xe] 32)))
          clear hb4 hj4
          go_wp2_with fail
          refine (HC.out _ LB _ HB4.out hlB HIB4.out).mono ?_
          intro e w5 hj5
          obtain ⟨hb5, ⟨n5, rfl⟩ | ⟨_, ya, yl, yc, ye, rfl⟩⟩ := jt_parts hj5
          · have HB5 : Hid (Below w.heap.size w (w5.alloc (.cells #[.int .i64 0, .slice none 0 0, .int .i64 0] 32))) := hideIt (belA (belJ HB4.out hb5) _)
            clear hb5 hj5
            go_wp2
            go_ret
            exact ⟨rfl, HB5.out⟩
          · generalize ((searchM (srB o LB (20000 : Int).toNat)).code : Int) = zc at HPC2 ⊢
            have HB5 : Hid (Below w.heap.size w (w5.alloc (.cells #[.int .i64 zc, .slice ya yl yc, .int .i64 ye] 32))) := hideIt (belA (belJ HB4.out hb5) _)
            have e5 : w5.heap[w4.heap.size]? = some (.cells #[.int .i64 xc, .slice va vl vc, .int .i64 xe] 32 (0, 0)) := (hb5.block w4.heap.size (by simp)).trans (heap_alloc_new w4 _)
            have d0 : w5.cell? ⟨w4.heap.size, 0, none⟩ = some (.int .i64 xc) := cell_of_row w5 _ _ _ 32 (0, 0) e5
            have hlt5 := lt_of_heap e5
            have d1 : (w5.alloc (.cells #[.int .i64 zc, .slice ya yl yc, .int .i64 ye] 32)).cell? ⟨w4.heap.size, 0, none⟩ = some (.int .i64 xc) := by
              rw [cell_of_row _ _ _ _ 32 (0, 0) ((Below.heap_alloc w5 _ _ hlt5).trans e5)]; rfl
            clear hb5 hj5 e5
            by_cases hx : xc = 2
            · have hx' : (xc == 2) = true := by simp [hx]
              have hz' : (zc == 1) = false := by rw [beq_eq_false_iff_ne]; exact fun h1 => HPC2.out h1 hx
              go_wp2
              go_ret
              exact ⟨by simp; exact fun h1 => HPC2.out h1 hx, HB5.out⟩
            · have hx' : (xc == 2) = false := by simp [hx]
              go_wp2
              go_ret
              exact ⟨rfl, HB5.out⟩

end Go.Proofs.YtndogemgjjgbgabDoor
