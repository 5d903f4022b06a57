/-
  Chapter 11 in plain Lean: transactions one behind the other: they go round nowhere, see the same, are as careful as can be; Bernstein's: without a way round they clash as they do, and see the same.
  Bernstein's theorem in plain Lean: without a way round, transactions one behind the other, in the order of the graph, clash as they do, and see the same.
  The statements' own behind and commits, walked.
-/
import Derived.Test.YtibdchahallbjabDoorSgR
import Derived.Test.YtibdchahallbjabDoorSeP
import Derived.Test.YtibdchahallbjabDoorCrQZ
namespace Go.Proofs.YtibdchahallbjabDoor

/-! ### who is ahead, by places -/
theorem bef_idx {α : Type} {a b : α} : ∀ {l : List α}, Bef l a b ↔ ∃ p q, ∃ hq : q < l.length, ∃ hp : p < q, l[p]'(by omega) = a ∧ l[q] = b
  | [] => ⟨fun h => (by have := (bef_mem h).1; simp at this), fun ⟨_, q, hq, _⟩ => (by simp at hq)⟩
  | x :: l => by
    rw [bef_cons]
    constructor
    · rintro (⟨rfl, hb⟩ | h)
      · obtain ⟨i, hi, e⟩ := List.getElem_of_mem hb
        exact ⟨0, i + 1, by simpa using hi, by omega, rfl, by simpa using e⟩
      · obtain ⟨p, q, hq, hp, e1, e2⟩ := bef_idx.1 h
        exact ⟨p + 1, q + 1, by simpa using hq, by omega, by simpa using e1, by simpa using e2⟩
    · rintro ⟨p, q, hq, hp, e1, e2⟩
      obtain ⟨q', rfl⟩ : ∃ q', q = q' + 1 := ⟨q - 1, by omega⟩
      cases p with
      | zero => exact .inl ⟨e1.symm, by simp at e2; rw [← e2]; exact List.getElem_mem _⟩
      | succ p => exact .inr (bef_idx.2 ⟨p, q', by simpa using hq, by omega, by simpa using e1, by simpa using e2⟩)
theorem bef_trans {α : Type} {l : List α} (hn : l.Nodup) {a b c : α} (h1 : Bef l a b) (h2 : Bef l b c) : Bef l a c := by
  obtain ⟨p, q, hq, hp, e1, e2⟩ := bef_idx.1 h1
  obtain ⟨r, s, hs, hr, e3, e4⟩ := bef_idx.1 h2
  have : q = r := (List.getElem_inj hn).1 (e2.trans e3.symm)
  subst this
  exact bef_idx.2 ⟨p, s, hs, by omega, e1, e4⟩
def txS (s : Stp) : Nat := s.p.toNat
def clS (a b : Stp) : Bool := decide (txS a ≠ txS b) && (a.m == b.m && decide (2 < a.k + b.k))
theorem clS_clash : Clash txS clS := by
  constructor
  · intro a b
    unfold clS
    have e1 : decide (txS a ≠ txS b) = decide (txS b ≠ txS a) := by rw [Bool.eq_iff_iff]; simp; omega
    have e2 : (a.m == b.m) = (b.m == a.m) := by rw [Bool.eq_iff_iff]; simp; omega
    rw [e1, e2, Int.add_comm]
  · intro a b h
    unfold clS at h
    simp at h
    exact h.1
theorem clS_eq {a b : Stp} (ha : 0 ≤ a.p) (hb : 0 ≤ b.p) : clS a b = clB a b := by
  unfold clS clB txS
  congr 1
  rw [Bool.eq_iff_iff]
  simp
  omega
theorem sgK_iff {d : List Stp} (hd : ∀ s ∈ d, 0 ≤ s.p) {t u : Nat} : SgK d d.length 0 t u ↔ GrS txS clS d t u := by
  constructor
  · rintro ⟨p, q, h1, h2, _, h4, h5, h6⟩
    rw [stZ_at (by omega)] at h4 h6
    rw [stZ_at h2] at h5 h6
    exact ⟨d[p], d[q], bef_idx.2 ⟨p, q, h2, h1, rfl, rfl⟩, by unfold txS; omega, by unfold txS; omega, by rw [clS_eq (hd _ (List.getElem_mem _)) (hd _ (List.getElem_mem _))]; exact h6⟩
  · rintro ⟨a, b, hb, rfl, rfl, hc⟩
    obtain ⟨p, q, hq, hp, rfl, rfl⟩ := bef_idx.1 hb
    have h1 := hd _ (List.getElem_mem (show p < d.length by omega))
    have h2 := hd _ (List.getElem_mem hq)
    rw [clS_eq h1 h2] at hc
    refine ⟨p, q, hp, hq, .inl (by omega), ?_, ?_, ?_⟩
    · rw [stZ_at (by omega)]; unfold txS; omega
    · rw [stZ_at hq]; unfold txS; omega
    · rw [stZ_at (by omega), stZ_at hq]; exact hc
theorem clN_clash (d : List Stp) : Clash (txN d) (clN d) := by
  constructor
  · intro a b
    unfold clN
    have e1 : decide (txN d a ≠ txN d b) = decide (txN d b ≠ txN d a) := by rw [Bool.eq_iff_iff]; simp; omega
    have e2 : ((stZ d a).m == (stZ d b).m) = ((stZ d b).m == (stZ d a).m) := by rw [Bool.eq_iff_iff]; simp; omega
    rw [e1, e2, Bool.or_comm]
  · intro a b h
    unfold clN at h
    simp at h
    exact h.1.1
theorem clN_graph {d : List Stp} (hd : DOk d) {i k : Nat} (h : GrS (txN d) (clN d) (List.range d.length) i k) : SgK d d.length 0 i k := by
  obtain ⟨a, b, hb, rfl, rfl, hc⟩ := h
  obtain ⟨p, q, hq, hp, e1, e2⟩ := bef_idx.1 hb
  simp at e1 e2 hq
  subst e1 e2
  have h1 := hd p (by omega)
  have h2 := hd q hq
  unfold clN at hc
  simp at hc
  refine ⟨p, q, hp, hq, .inl (by omega), by unfold txN; omega, by unfold txN; omega, ?_⟩
  unfold clB
  unfold txN at hc
  simp
  refine ⟨by omega, hc.1.2, by omega⟩

/-- An order of those that commit that keeps what must come ahead: it is an order of the graph, and it sees the same. -/
theorem keeps_sees {l : List Stp} (ok : OkS l) {ord : List Nat} (hn : ord.Nodup) (hm : ∀ t, t ∈ ord ↔ t ∈ cmL l) (hk : ∀ i k, SgK (doneL l) (doneL l).length 0 i k → Bef ord i k) : (seesL l).isSome = true := by
  have hd := DOk.of ok
  refine sees_some hn hm (fit_of_keeps hd hn (fun n hn' => ?_) (fun i k h => hk i k (clN_graph hd h)) (clN_clash _))
  rw [hm]
  unfold cmL
  have h1 := (hd n hn').1
  have h2 := List.getElem_mem hn'
  rw [← stZ_at hn'] at h2
  have h3 := (List.mem_filter.1 h2).2
  unfold doneB at h3
  simp at h3
  rw [List.mem_filter, List.mem_range]
  unfold txN
  refine ⟨by omega, ?_⟩
  rw [show (((stZ (doneL l) n).p.toNat : Nat) : Int) = (stZ (doneL l) n).p by omega]
  exact h3.2
theorem keeps_order {l : List Stp} {ord : List Nat} (hn : ord.Nodup) (hk : ∀ i k, SgK (doneL l) (doneL l).length 0 i k → Bef ord i k) : ∃ L, sgO l = some L := by
  unfold sgO
  refine ord_iff.2 fun x hw => ?_
  have hb : ∀ {i k}, Way (gB (sgR l)) 8 i k → Bef ord i k := fun {i k} h => by
    induction h with
    | one hi hk' hg => exact hk _ _ ((sgR_gB l hi hk').1 hg)
    | more h1 hk' hg ih => exact bef_trans hn ih (hk _ _ ((sgR_gB l h1.lt.2 hk').1 hg))
  exact bef_irr hn (hb hw)

/-! ### one behind the other -/
def behL (d : List Stp) (ord : List Int) : List Stp := ord.flatMap fun t => d.filter (fun s => s.p == t) ++ [⟨t, 3, 0⟩]
/-- Steps below Commit; transactions that may be, none twice. -/
structure BehOk (d : List Stp) (ord : List Int) : Prop where
  low : ∀ s ∈ d, s.k < 3
  nd : ord.Nodup
  rng : ∀ t ∈ ord, 0 ≤ t ∧ t ≤ 7
theorem behL_mem {d : List Stp} {ord : List Int} {s : Stp} : s ∈ behL d ord ↔ s.p ∈ ord ∧ (s ∈ d ∨ (s.k = 3 ∧ s.m = 0)) := by
  unfold behL
  rw [List.mem_flatMap]
  constructor
  · rintro ⟨t, ht, h⟩
    rcases List.mem_append.1 h with h | h
    · have := List.mem_filter.1 h
      simp at this
      rw [this.2]
      exact ⟨ht, .inl this.1⟩
    · rw [List.mem_singleton.1 h]
      exact ⟨ht, .inr ⟨rfl, rfl⟩⟩
  · rintro ⟨h1, h2⟩
    refine ⟨s.p, h1, ?_⟩
    rcases h2 with h | ⟨h3, h4⟩
    · exact List.mem_append_left _ (List.mem_filter.2 ⟨h, by simp⟩)
    · refine List.mem_append_right _ (List.mem_singleton.2 ?_)
      obtain ⟨p, k, m⟩ := s
      simp at h3 h4
      rw [h3, h4]
theorem grp_p {d : List Stp} {t : Int} {x : Stp} (h : x ∈ d.filter (fun s => s.p == t) ++ [⟨t, 3, 0⟩]) : x.p = t := by
  rcases List.mem_append.1 h with h | h
  · have := (List.mem_filter.1 h).2
    simpa using this
  · rw [List.mem_singleton.1 h]
theorem idx_pair {ord : List Int} (hn : ord.Nodup) : ord.Pairwise fun t u => ord.idxOf t ≤ ord.idxOf u :=
  List.pairwise_iff_getElem.2 fun i j hi hj hij => by
    rw [hn.idxOf_getElem i hi, hn.idxOf_getElem j hj]; omega
theorem beh_mono {d : List Stp} {ord : List Int} (hn : ord.Nodup) : (behL d ord).Pairwise fun x y => ord.idxOf x.p ≤ ord.idxOf y.p := by
  unfold behL
  rw [List.pairwise_flatMap]
  refine ⟨fun t _ => List.pairwise_iff_getElem.2 fun i j hi hj _ => ?_, (idx_pair hn).imp fun {t u} hle x hx y hy => ?_⟩
  · rw [grp_p (List.getElem_mem hi), grp_p (List.getElem_mem hj)]; exact Nat.le_refl _
  · rw [grp_p hx, grp_p hy]; exact hle
theorem beh_pair {d : List Stp} {ord : List Int} (h : BehOk d ord) : (behL d ord).Pairwise fun x y => ¬ (x.p = y.p ∧ 2 < x.k) := by
  unfold behL
  rw [List.pairwise_flatMap]
  refine ⟨fun t _ => List.pairwise_append.2 ⟨List.pairwise_iff_getElem.2 fun i j hi hj _ hc => ?_, by simp, fun x hx y _ hc => ?_⟩, h.nd.imp fun {t u} hne x hx y hy hc => hne ?_⟩
  · have := h.low _ (List.mem_filter.1 (List.getElem_mem hi)).1
    omega
  · have := h.low _ (List.mem_filter.1 hx).1
    omega
  · rw [← grp_p hx, ← grp_p hy]; exact hc.1
theorem okS_pair {s : List Stp} (hr : ∀ x ∈ s, fltR x = 0) (hp : s.Pairwise fun x y => ¬ (x.p = y.p ∧ 2 < x.k)) : OkS s := fun k hk => by
  unfold fltQ
  rw [stZ_at hk, if_pos (hr _ (List.getElem_mem hk)), if_neg]
  intro ho
  unfold overB at ho
  rw [List.any_eq_true] at ho
  obtain ⟨j, hj, h⟩ := ho
  rw [List.mem_range] at hj
  rw [stZ_at (by omega)] at h
  simp at h
  exact (List.pairwise_iff_getElem.1 hp j k (by omega) hk hj) ⟨h.1, h.2⟩
theorem beh_comm {d : List Stp} {ord : List Int} (h : BehOk d ord) {t : Int} : commB (behL d ord) t = true ↔ t ∈ ord := by
  unfold commB
  simp only [Bool.and_eq_true, decide_eq_true_iff, List.any_eq_true, beq_iff_eq]
  constructor
  · rintro ⟨_, s, hs, rfl, hk⟩
    exact (behL_mem.1 hs).1
  · intro ht
    have := h.rng t ht
    exact ⟨⟨this.1, by omega⟩, ⟨t, 3, 0⟩, behL_mem.2 ⟨ht, .inr ⟨rfl, rfl⟩⟩, rfl, rfl⟩
theorem serL_flat {α : Type} (tx : α → Nat) (d : List α) : ∀ ord : List Nat, serL tx d ord = ord.flatMap fun t => d.filter fun s => tx s == t
  | [] => rfl
  | t :: ord => by
    show d.filter _ ++ serL tx d ord = _
    rw [serL_flat tx d ord, List.flatMap_cons]
theorem flat_congr {α β : Type} {f g : α → List β} : ∀ {l : List α}, (∀ a ∈ l, f a = g a) → l.flatMap f = l.flatMap g
  | [], _ => rfl
  | a :: l, h => by
    rw [List.flatMap_cons, List.flatMap_cons, h a List.mem_cons_self, flat_congr fun b hb => h b (List.mem_cons_of_mem _ hb)]
theorem done_beh {d : List Stp} {ord : List Int} (h : BehOk d ord) (hp : ∀ s ∈ d, 0 ≤ s.p) : doneL (behL d ord) = serL txS d (ord.map Int.toNat) := by
  rw [serL_flat, List.flatMap_map]
  unfold doneL
  rw [show (behL d ord).filter (doneB (behL d ord)) = (ord.flatMap fun t => d.filter (fun s => s.p == t) ++ [⟨t, 3, 0⟩]).filter (doneB (behL d ord)) from rfl, List.filter_flatMap]
  refine flat_congr fun t ht => ?_
  rw [List.filter_append, List.filter_filter]
  have e1 : [(⟨t, 3, 0⟩ : Stp)].filter (doneB (behL d ord)) = [] := by
    rw [List.filter_eq_nil_iff]
    intro x hx
    rw [List.mem_singleton.1 hx]
    unfold doneB
    simp
  rw [e1, List.append_nil]
  refine List.filter_congr fun s hs => ?_
  have h1 := h.low s hs
  have h2 := hp s hs
  have h3 := h.rng t ht
  rw [Bool.eq_iff_iff]
  unfold doneB txS
  simp only [Bool.and_eq_true, decide_eq_true_iff, beq_iff_eq, beh_comm h]
  constructor
  · rintro ⟨_, rfl⟩; rfl
  · intro e
    have : s.p = t := by omega
    rw [this]
    exact ⟨⟨by omega, ht⟩, rfl⟩
theorem cmL_beh {d : List Stp} {ord : List Int} (h : BehOk d ord) (t : Nat) : t ∈ ord.map Int.toNat ↔ t ∈ cmL (behL d ord) := by
  unfold cmL
  rw [List.mem_filter, List.mem_range, beh_comm h, List.mem_map]
  constructor
  · rintro ⟨u, hu, rfl⟩
    have := h.rng u hu
    rw [show ((u.toNat : Nat) : Int) = u by omega]
    exact ⟨by omega, hu⟩
  · rintro ⟨_, h2⟩
    exact ⟨_, h2, by omega⟩
theorem ordN_nodup {ord : List Int} (hn : ord.Nodup) (hr : ∀ t ∈ ord, 0 ≤ t ∧ t ≤ 7) : (ord.map Int.toNat).Nodup :=
  List.pairwise_map.2 (hn.imp_of_mem fun {a b} ha hb hne e => hne (by have := hr a ha; have := hr b hb; omega))
theorem doneL_pos {l : List Stp} : ∀ s ∈ doneL l, 0 ≤ s.p := fun s hs => by
  have h3 := (List.mem_filter.1 hs).2
  unfold doneB commB at h3
  simp at h3
  omega
theorem doneL_low {l : List Stp} : ∀ s ∈ doneL l, s.k < 3 := fun s hs => by
  have h3 := (List.mem_filter.1 hs).2
  unfold doneB at h3
  simp at h3
  exact h3.1
/-- What must come ahead lies ahead in the order. -/
theorem beh_ahead {d : List Stp} {ord : List Int} (h : BehOk d ord) (hp : ∀ s ∈ d, 0 ≤ s.p) {i k : Nat} (hg : SgK (doneL (behL d ord)) (doneL (behL d ord)).length 0 i k) : Bef (ord.map Int.toNat) i k := by
  rw [sgK_iff doneL_pos, done_beh h hp] at hg
  obtain ⟨a, b, hb, rfl, rfl, hc⟩ := hg
  rcases (serL_bef _ (ordN_nodup h.nd h.rng)).1 hb with ⟨e, _⟩ | ⟨hb, _⟩
  · exact absurd e (clS_clash.ne a b hc)
  · exact hb
theorem beh_sees {d : List Stp} {ord : List Int} (h : BehOk d ord) (hp : ∀ s ∈ d, 0 ≤ s.p) (ok : OkS (behL d ord)) : (seesL (behL d ord)).isSome = true :=
  keeps_sees ok (ordN_nodup h.nd h.rng) (fun t => cmL_beh h t) fun _ _ hg => beh_ahead h hp hg
theorem beh_order {d : List Stp} {ord : List Int} (h : BehOk d ord) (hp : ∀ s ∈ d, 0 ≤ s.p) : ∃ L, sgO (behL d ord) = some L :=
  keeps_order (ordN_nodup h.nd h.rng) fun _ _ hg => beh_ahead h hp hg
/-- Nothing of another one's is found that is not over. -/
theorem beh_open {d : List Stp} {ord : List Int} (h : BehOk d ord) (ok : OkS (behL d ord)) {n : Nat} (hn : n < (behL d ord).length) : openW (behL d ord) n = none := by
  have hmem : ∀ x ∈ behL d ord, x.p ∈ ord := fun x hx => (behL_mem.1 hx).1
  have hcm : ∀ t ∈ ord, (⟨t, 3, 0⟩ : Stp) ∈ behL d ord := fun t ht => behL_mem.2 ⟨ht, .inr ⟨rfl, rfl⟩⟩
  have mono := beh_mono (d := d) h.nd
  generalize behL d ord = s at *
  unfold openW
  split
  · rfl
  · rename_i hk
    split
    · rfl
    · rename_i m hm
      rw [if_pos]
      obtain ⟨hmn, hf, _⟩ := lastN_some hm
      by_cases e : (stZ s m).p = (stZ s n).p
      · exact .inl e
      · right
        have hml : m < s.length := by omega
        have hpm : (stZ s m).p ∈ ord := by
          rw [stZ_at hml]; exact hmem _ (List.getElem_mem hml)
        have hpn : (stZ s n).p ∈ ord := by
          rw [stZ_at hn]; exact hmem _ (List.getElem_mem hn)
        have hc := hcm _ hpm
        obtain ⟨c, hcl, ec⟩ := List.getElem_of_mem hc
        have ec1 : (stZ s c).p = (stZ s m).p := by rw [stZ_at hcl, ec]
        have ec2 : (stZ s c).k = 3 := by rw [stZ_at hcl, ec]
        rw [endK_at ok (by decide) hcl ec1 ec2]
        refine Classical.byContradiction fun hlt => ?_
        have hne : c ≠ n := fun h' => e (by rw [← ec1, h'])
        have h1 := List.pairwise_iff_getElem.1 mono m n hml hn hmn
        have h2 := List.pairwise_iff_getElem.1 mono n c hn hcl (by omega)
        rw [← stZ_at hml, ← stZ_at hn] at h1
        rw [← stZ_at hcl, ← stZ_at hn, ec1] at h2
        have h3 : ord.idxOf (stZ s m).p = ord.idxOf (stZ s n).p := by omega
        have g1 := List.getElem_idxOf (List.idxOf_lt_length_of_mem hpm)
        have g2 := List.getElem_idxOf (List.idxOf_lt_length_of_mem hpn)
        exact e (by rw [← g1, ← g2]; congr 1)
theorem beh_careful {d : List Stp} {ord : List Int} (h : BehOk d ord) (ok : OkS (behL d ord)) : noneB (badR (behL d ord)) (behL d ord).length = true ∧ noneB (badC (behL d ord)) (behL d ord).length = true ∧ noneB (badS (behL d ord)) (behL d ord).length = true := by
  have hS : noneB (badS (behL d ord)) (behL d ord).length = true := noneB_iff.2 fun i hi => by unfold badS; rw [beh_open h ok hi]; rfl
  exact ⟨kinds_clean (kinds_strict hS), kinds_strict hS, hS⟩
end Go.Proofs.YtibdchahallbjabDoor

namespace Go.Proofs.YtibdchahallbjabDoor

def comN (l : List Stp) : Nat := (l.filter fun s => s.k == 3).length
theorem comL_mem {l : List Stp} {L : List Nat} (h : sgO l = some L) (t : Nat) : t ∈ comL l L ↔ t ∈ cmL l := by
  have hl := ordG_ok h
  have hall : ∀ x, x < 8 → x ∈ L := fun x hx => by
    refine Classical.byContradiction fun hno => ?_
    have := nodup_sub (l := x :: L) (m := List.range 8) (List.nodup_cons.2 ⟨hno, hl.2.nd⟩) fun y hy => by
      rcases List.mem_cons.1 hy with rfl | hy
      · simpa using hx
      · simpa using hl.2.lt y hy
    rw [List.length_cons, hl.1, List.length_range] at this
    omega
  unfold comL cmL
  rw [List.mem_filter, List.mem_filter, List.mem_range]
  exact ⟨fun h1 => ⟨hl.2.lt t h1.1, h1.2⟩, fun h1 => ⟨hall t h1.1, h1.2⟩⟩
theorem comL_nodup {l : List Stp} {L : List Nat} (h : sgO l = some L) : (comL l L).Nodup := (ordG_ok h).2.nd.sublist List.filter_sublist
theorem natI_toNat (c : List Nat) : (natI c).map Int.toNat = c := by
  unfold natI
  rw [List.map_map]
  conv => rhs; rw [← List.map_id c]
  refine List.map_congr_left fun x _ => ?_
  simp
/-- As many commit as there are Commits. -/
theorem comN_eq {l : List Stp} (ok : OkS l) : comN l = (cmL l).length := by
  have hc : ((l.filter fun s => s.k == 3).map txS).Nodup := by
    refine List.pairwise_map.2 ?_
    have hp : l.Pairwise fun x y => 2 < x.k → x.p ≠ y.p := List.pairwise_iff_getElem.2 fun i j hi hj hij h2 => by
      have := ok.over hij hj (by rw [stZ_at hi]; exact h2)
      rwa [stZ_at hi, stZ_at hj] at this
    refine (hp.sublist List.filter_sublist).imp_of_mem fun {x y} hx hy hxy e => ?_
    obtain ⟨h1, h2⟩ := List.mem_filter.1 hx
    obtain ⟨h3, h4⟩ := List.mem_filter.1 hy
    obtain ⟨i, hi, rfl⟩ := List.getElem_of_mem h1
    obtain ⟨j, hj, rfl⟩ := List.getElem_of_mem h3
    have t1 := ok.tx hi
    have t2 := ok.tx hj
    rw [stZ_at hi] at t1
    rw [stZ_at hj] at t2
    simp at h2
    unfold txS at e
    exact hxy (by omega) (by omega)
  have hm : ∀ t, t ∈ (l.filter fun s => s.k == 3).map txS ↔ t ∈ cmL l := fun t => by
    unfold cmL commB
    rw [List.mem_map, List.mem_filter, List.mem_range]
    constructor
    · rintro ⟨s, hs, rfl⟩
      obtain ⟨h1, h2⟩ := List.mem_filter.1 hs
      obtain ⟨i, hi, rfl⟩ := List.getElem_of_mem h1
      have t1 := ok.tx hi
      rw [stZ_at hi] at t1
      unfold txS
      rw [show ((l[i].p.toNat : Nat) : Int) = l[i].p by omega]
      refine ⟨by omega, ?_⟩
      simp only [Bool.and_eq_true, decide_eq_true_iff, List.any_eq_true, beq_iff_eq]
      exact ⟨⟨by omega, by omega⟩, _, h1, rfl, by simpa using h2⟩
    · rintro ⟨_, h⟩
      simp only [Bool.and_eq_true, decide_eq_true_iff, List.any_eq_true, beq_iff_eq] at h
      obtain ⟨_, s, hs, h1, h2⟩ := h
      exact ⟨s, List.mem_filter.2 ⟨hs, by simp [h2]⟩, by unfold txS; omega⟩
  have h1 := nodup_sub hc fun x hx => (hm x).1 hx
  have h2 := nodup_sub (l := cmL l) (List.nodup_range.sublist List.filter_sublist) fun x hx => (hm x).2 hx
  rw [List.length_map] at h1 h2
  unfold comN
  omega
theorem com_len {l : List Stp} (ok : OkS l) {L : List Nat} (h : sgO l = some L) : (comL l L).length = comN l := by
  rw [comN_eq ok]
  have h1 := nodup_sub (comL_nodup h) fun x hx => (comL_mem h x).1 hx
  have h2 := nodup_sub (l := cmL l) (List.nodup_range.sublist List.filter_sublist) fun x hx => (comL_mem h x).2 hx
  omega
theorem filter_disj {α : Type} {p q : α → Bool} (h : ∀ x, p x = true → q x = false) : ∀ l : List α, (l.filter p).length + (l.filter q).length ≤ l.length
  | [] => by simp
  | a :: l => by
    have ih := filter_disj h l
    rw [List.filter_cons, List.filter_cons]
    cases e1 : p a
    · cases e2 : q a <;> simp <;> omega
    · rw [h a e1]; simp; omega
theorem done_com (l : List Stp) : (doneL l).length + comN l ≤ l.length := filter_disj (fun x hx => by
  unfold doneB at hx
  simp at hx
  simp
  omega) l
theorem flat_le : ∀ (ord : List Int) (d : List Stp), ord.Nodup → (ord.flatMap fun t => d.filter fun s => s.p == t).length ≤ d.length
  | [], d, _ => by simp
  | t :: ord, d, hn => by
    rw [List.nodup_cons] at hn
    rw [List.flatMap_cons, List.length_append]
    have e : (ord.flatMap fun u => d.filter fun s => s.p == u) = ord.flatMap fun u => (d.filter fun s => !(s.p == t)).filter fun s => s.p == u := flat_congr fun u hu => by
      rw [List.filter_filter]
      refine List.filter_congr fun s _ => ?_
      rw [Bool.eq_iff_iff]
      simp
      intro h1 h2
      exact hn.1 (by rw [← h2, h1]; exact hu)
    rw [e]
    have h1 := flat_le ord (d.filter fun s => !(s.p == t)) hn.2
    have h2 := filter_disj (p := fun s : Stp => s.p == t) (q := fun s => !(s.p == t)) (fun x hx => by simp at hx; simp [hx]) d
    omega
theorem flat_one {α β : Type} (A : α → List β) (c : α → β) : ∀ ord : List α, (ord.flatMap fun t => A t ++ [c t]).length = (ord.flatMap A).length + ord.length
  | [] => rfl
  | t :: ord => by
    rw [List.flatMap_cons, List.flatMap_cons, List.length_append, List.length_append, List.length_append, flat_one A c ord]
    simp only [List.length_cons, List.length_nil]
    omega
theorem beh_len (d : List Stp) {ord : List Int} (hn : ord.Nodup) : (behL d ord).length ≤ d.length + ord.length := by
  unfold behL
  rw [flat_one]
  have := flat_le ord d hn
  omega
theorem bern_ok {l : List Stp} {L : List Nat} (h : sgO l = some L) : BehOk (doneL l) (natI (comL l L)) := by
  refine ⟨doneL_low, ?_, fun t ht => ?_⟩
  · unfold natI
    exact List.pairwise_map.2 ((comL_nodup h).imp fun hne e => hne (by omega))
  · unfold natI at ht
    obtain ⟨x, hx, rfl⟩ := List.mem_map.1 ht
    have := (comL_mem h x).1 hx
    unfold cmL at this
    rw [List.mem_filter, List.mem_range] at this
    omega
theorem bern_step {l : List Stp} (ok : OkS l) {L : List Nat} (h : sgO l = some L) : OkS (behL (doneL l) (natI (comL l L))) := by
  have hb := bern_ok h
  refine okS_pair (fun x hx => ?_) (beh_pair hb)
  obtain ⟨h1, h2⟩ := behL_mem.1 hx
  have hr := hb.rng _ h1
  rcases h2 with h2 | ⟨h2, h3⟩
  · obtain ⟨i, hi, rfl⟩ := List.getElem_of_mem (List.mem_filter.1 h2).1
    have := (fltQ_zero (ok i hi)).1
    rwa [stZ_at hi] at this
  · unfold fltR
    rw [if_neg (by omega), if_neg (by omega)]
theorem bern_len {l : List Stp} (ok : OkS l) {L : List Nat} (h : sgO l = some L) : (behL (doneL l) (natI (comL l L))).length ≤ l.length := by
  have h1 := beh_len (doneL l) (bern_ok h).nd
  have h2 := done_com l
  have h3 := com_len ok h
  have h4 : (natI (comL l L)).length = (comL l L).length := by simp [natI]
  omega
theorem bern_keeps {l : List Stp} {L : List Nat} (h : sgO l = some L) {i k : Nat} (hg : SgK (doneL l) (doneL l).length 0 i k) : Bef (comL l L) i k := by
  have hg2 := hg
  obtain ⟨p, q, h1, h2, _, h4, h5, _⟩ := hg2
  have hc : ∀ n, n < (doneL l).length → ∀ t : Nat, (stZ (doneL l) n).p = (t : Int) → t < 8 ∧ commB l (t : Int) = true := fun n hn t ht => by
    have hm := List.getElem_mem hn
    rw [← stZ_at hn] at hm
    have h3 := (List.mem_filter.1 hm).2
    unfold doneB at h3
    rw [ht] at h3
    simp only [Bool.and_eq_true] at h3
    have h6 := h3.2
    unfold commB at h6
    simp only [Bool.and_eq_true, decide_eq_true_iff] at h6
    exact ⟨by omega, h3.2⟩
  obtain ⟨hi8, hic⟩ := hc p (by omega) i h4
  obtain ⟨hk8, hkc⟩ := hc q h2 k h5
  have hgb := (sgR_gB l hi8 hk8).2 hg
  have hmi : i ∈ L := by
    have := (comL_mem h i).2 (by unfold cmL; rw [List.mem_filter, List.mem_range]; exact ⟨hi8, hic⟩)
    exact (List.mem_filter.1 this).1
  have hmk : k ∈ L := by
    have := (comL_mem h k).2 (by unfold cmL; rw [List.mem_filter, List.mem_range]; exact ⟨hk8, hkc⟩)
    exact (List.mem_filter.1 this).1
  obtain ⟨a, ha, rfl⟩ := List.getElem_of_mem hmi
  obtain ⟨b, hb, rfl⟩ := List.getElem_of_mem hmk
  have hab := ord_keeps h ha hb hgb
  exact bef_filter.2 ⟨bef_idx.2 ⟨a, b, hb, hab, rfl, rfl⟩, hic, hkc⟩
/-- BERNSTEIN. -/
theorem bern_graph {l : List Stp} {L : List Nat} (h : sgO l = some L) (t u : Nat) : SgK (doneL (behL (doneL l) (natI (comL l L)))) (doneL (behL (doneL l) (natI (comL l L)))).length 0 t u ↔ SgK (doneL l) (doneL l).length 0 t u := by
  rw [sgK_iff doneL_pos, sgK_iff doneL_pos, done_beh (bern_ok h) doneL_pos, natI_toNat]
  exact ser_graph _ clS_clash (comL_nodup h) (fun i k hg => bern_keeps h ((sgK_iff doneL_pos).2 hg)) t u
theorem bern_sees {l : List Stp} (ok : OkS l) {L : List Nat} (h : sgO l = some L) : (seesL l).isSome = true :=
  keeps_sees ok (comL_nodup h) (comL_mem h) fun _ _ hg => bern_keeps h hg
end Go.Proofs.YtibdchahallbjabDoor

namespace Go.Proofs.YtibdchahallbjabDoor
open Go.RowKit

theorem behL_snoc (d : List Stp) (ord : List Int) (t : Int) : behL d (ord ++ [t]) = (behL d ord ++ d.filter (fun s => s.p == t)) ++ [⟨t, 3, 0⟩] := by
  unfold behL
  rw [List.flatMap_append]
  simp
theorem behL_big (d : List Stp) : ∀ ord : List Int, (behL d ord).length ≤ ord.length * (d.length + 1)
  | [] => by simp [behL]
  | t :: ord => by
    have ih := behL_big d ord
    have : behL d (t :: ord) = (d.filter (fun s => s.p == t) ++ [⟨t, 3, 0⟩]) ++ behL d ord := by unfold behL; rw [List.flatMap_cons]
    have e : (t :: ord).length * (d.length + 1) = ord.length * (d.length + 1) + (d.length + 1) := by rw [List.length_cons, Nat.add_mul, Nat.one_mul]
    rw [this, List.length_append, List.length_append, e]
    have := List.length_filter_le (fun s : Stp => s.p == t) d
    simp only [List.length_cons, List.length_nil]
    omega

set_option maxRecDepth 100000 in
set_option maxHeartbeats 4000000 in
theorem behind_any (l : List Stp) (ord : List Int) (a : Option Addr) (cap : Nat) (v : Value) (w : World) (hn : l.length ≤ 100) (ho : ord.length ≤ 8) (hl : StpsQ w a l) (hv : HasI w v ord) :
    Calls Tryd.prog 21 #[.slice a l.length cap, v] w fun e w' => ∃ a' c', e = .returned (.slice a' (behL (doneL l) ord).length c') ∧ (behL (doneL l) ord).length ≤ c' ∧ StpsQ w' a' (behL (doneL l) ord) ∧ Below w.heap.size w w' := by
  obtain ⟨va, vc, rfl, hvc, hcell⟩ := hv
  have HCell : Hid (∀ j (h : j < ord.length), ∃ g off, va = some ⟨g, off, none⟩ ∧ w.cell? ⟨g, off + j, none⟩ = some (.int .i64 ord[j])) := hcell
  clear hcell hvc
  have HC := hideIt (sDone_any l a cap w hn hl)
  have hdl : (doneL l).length ≤ 100 := Nat.le_trans (List.length_filter_le _ _) hn
  clear hl
  generalize doneL l = d at HC hdl ⊢
  have HSn : Hid (∀ i (h : i < ord.length), behL d (ord.take (i + 1)) = (behL d (ord.take i) ++ d.filter (fun s => s.p == ord[i])) ++ [⟨ord[i], 3, 0⟩]) := fun i h => by
    rw [List.take_succ_eq_append_getElem h]; exact behL_snoc _ _ _
  have HBig : Hid (∀ i, (behL d (ord.take i)).length ≤ 808) := fun i => by
    have h1 := behL_big d (ord.take i)
    have h2 : (ord.take i).length * (d.length + 1) ≤ 8 * 101 := Nat.mul_le_mul (by rw [List.length_take]; omega) (by omega)
    omega
  go_enter Tryd.func21, Tryd.ntmps21
  go_wp2_with fail
  refine HC.out.mono ?_
  clear HC
  rintro e w1 ⟨v1, rfl, ho1, hb1⟩
  obtain ⟨a1, c1, rfl, hc1, hq1⟩ := stpsQ_ownT ho1
  have HQ1 := hideIt hq1
  have HB1 := hideIt hb1
  clear ho1 hq1 hb1
  go_wp2
  go_loopw [6, 7] (fun u i wr => ∃ k : Nat, k ≤ ord.length ∧ i = .int .i64 k ∧ wr.ownsRow w1.heap.size 40 3 u (behL d (ord.take k)).length (stpC (behL d (ord.take k))) ∧ Below w1.heap.size w1 wr) (fun _ i _ => ord.length - (intOf i).toNat)
  case atStart => exact ⟨0, Nat.zero_le _, rfl, World.ownsRow_nil _ _ _ _, Below.refl _ _⟩
  case round =>
    obtain ⟨k, hk, rfl, ho, hb⟩ := hrel
    have HO := hideIt ho
    have HB := hideIt hb
    clear ho hb
    obtain ⟨ua, uc, hu⟩ := ownsRow_slice HO.out
    subst hu
    by_cases hkl : k < ord.length
    · obtain ⟨g, go, rfl, r0⟩ := HCell.out k hkl
      have HR0 : Hid (∀ W, Below w1.heap.size w1 W → W.cell? ⟨g, go + k, none⟩ = some (.int .i64 ord[k])) := fun W hW => ((belJ HB1.out hW).cell (p := ⟨g, go + k, none⟩) (World.block_lt_of_cell? w _ r0)).trans r0
      have HS := hideIt (HSn.out k hkl)
      have hbg := HBig.out k
      have hkl' : (k : Int) < ord.length := by omega
      clear r0
      generalize ord[k] = t at HR0 HS
      generalize behL d (ord.take k) = E at HO HS hbg ⊢
      go_wp2
      go_loopw [6, 8] (fun u i wi => ∃ j : Nat, j ≤ d.length ∧ i = .int .i64 j ∧ wi.ownsRow w1.heap.size 40 3 u (E ++ (d.take j).filter fun s => s.p == t).length (stpC (E ++ (d.take j).filter fun s => s.p == t)) ∧ Below w1.heap.size w1 wi) (fun _ i _ => d.length - (intOf i).toNat)
      case atStart => exact ⟨0, Nat.zero_le _, rfl, by simpa using HO.out, HB.out⟩
      case round =>
        clear HO HB
        obtain ⟨j, hj, rfl, ho, hb⟩ := hrel
        have HO := hideIt ho
        have HB := hideIt hb
        clear ho hb
        obtain ⟨ya, yc, hy⟩ := ownsRow_slice HO.out
        subst hy
        have hEl : (E ++ (d.take j).filter fun s => s.p == t).length ≤ 908 := by
          rw [List.length_append]
          have h1 := List.length_filter_le (fun s : Stp => s.p == t) (d.take j)
          have h2 : (d.take j).length ≤ d.length := by rw [List.length_take]; omega
          omega
        by_cases hjl : j < d.length
        · obtain ⟨b, off, rfl, hlt, hst⟩ : ∃ b off, a1 = some ⟨b, off, none⟩ ∧ b < w1.heap.size ∧ StpsAt w1 b off d := by
            rcases HQ1.out with h | h
            · subst h; simp at hjl
            · exact h
          obtain ⟨c0, c1', c2⟩ := (hst j hjl).below hlt HB.out
          have HX := hideIt (filter_take (p := fun s : Stp => s.p == t) hjl)
          have HSt : Hid (∀ W, Below w1.heap.size w1 W → StpAt W b (off + j * 3) d[j]) := fun W hW => (hst j hjl).below hlt hW
          generalize d[j] = x at c0 c1' c2 HX HSt
          have r1 := HR0.out wr HB.out
          have hjl' : (j : Int) < d.length := by omega
          have HX2 : Hid (E ++ (d.take (j + 1)).filter (fun s => s.p == t) = (E ++ (d.take j).filter (fun s => s.p == t)) ++ if (x.p == t) = true then [x] else []) := by
            show _ = _
            rw [HX.out, List.append_assoc]
          clear HX hst
          generalize E ++ (d.take j).filter (fun s => s.p == t) = G at HO HX2 hEl ⊢
          go_upto_region 9 with fail
          by_cases he : x.p = t
          · have he' : (x.p == t) = true := by simp [he]
            rw [if_pos he'] at HX2
            clear he
            go_quiet (fail)
            rename_i nq
            have HO2 : Hid ((wr.drewN nq).ownsRow w1.heap.size 40 3 (.slice ya G.length yc) G.length (stpC G)) := ownsRow_same HO.out fun b' hb' => rfl
            have HB2 : Hid (Below w1.heap.size w1 (wr.drewN nq)) := below_drewN HB.out _
            generalize wr.drewN nq = W at HO2 HB2 ⊢
            clear HO HB c0 c1' c2 r1
            obtain ⟨c0, c1', c2⟩ := HSt.out W HB2.out
            have hO3 : (W.alloc (.cells #[.int .i64 x.p, .int .i64 x.k, .int .i64 x.m] 40)).ownsRow w1.heap.size 40 3 (.slice ya G.length yc) G.length (stpC G) := ownsRow_same HO2.out fun b' hb' => Below.heap_alloc _ _ _ (ownsRow_block HO2.out b' hb').2.1
            have hSA : StpAt (W.alloc (.cells #[.int .i64 x.p, .int .i64 x.k, .int .i64 x.m] 40)) W.heap.size 0 x := by
              have e := heap_alloc_new W (.cells #[.int .i64 x.p, .int .i64 x.k, .int .i64 x.m] 40)
              exact ⟨cell_of_row _ _ _ _ 40 (0, 0) e, cell_of_row _ _ _ _ 40 (0, 0) e, cell_of_row _ _ _ _ 40 (0, 0) e⟩
            have hws := HB2.out.size
            obtain ⟨n1, w6, hr6, ho6, hg6, hob6⟩ := run_appT hO3 hSA (by simp; omega) (by omega) 22
            have HB6 : Hid (Below w1.heap.size w1 w6) := (belA HB2.out _).grown hg6 (by simp; omega) (fun b' hb' => (ownsRow_block hO3 b' hb').1)
            obtain ⟨na, nc, hn1⟩ := ownsRow_slice ho6
            have HO6 : Hid (w6.ownsRow w1.heap.size 40 3 n1 (G ++ [x]).length (stpC (G ++ [x]))) := by
              rw [List.length_append]; exact ho6
            have HR6 := hideIt hr6
            clear hO3 hSA ho6 hg6 hob6 hr6
            subst hn1
            go_wp2_with (at_builtin; refine wpList_append_run _ rfl _ _ 22 rfl _ _ _ w6 rfl rfl HR6.out ?_)
            go_roundw
            case rel => exact ⟨j + 1, by omega, by go_num, by rw [HX2.out]; exact HO6.out, HB6.out⟩
            case measure => simp [intOf]; omega
          · have he' : (x.p == t) = false := by simp [he]
            rw [if_neg (by rw [he']; simp), List.append_nil] at HX2
            go_quiet (fail)
            rename_i nq
            have HO2 : Hid ((wr.drewN nq).ownsRow w1.heap.size 40 3 (.slice ya G.length yc) G.length (stpC G)) := ownsRow_same HO.out fun b' hb' => rfl
            have HB2 : Hid (Below w1.heap.size w1 (wr.drewN nq)) := below_drewN HB.out _
            go_wp2
            go_roundw
            case rel => exact ⟨j + 1, by omega, by go_num, by rw [HX2.out]; exact HO2.out, HB2.out⟩
            case measure => simp [intOf]; omega
        · obtain rfl : j = d.length := by omega
          rw [List.take_length] at HO hEl ⊢
          have r1 := HR0.out wr HB.out
          generalize E ++ d.filter (fun s => s.p == t) = G at HO HS hEl ⊢
          have hO3 : (wr.alloc (.cells #[.int .i64 t, .int .i64 3, .int .i64 0] 40)).ownsRow w1.heap.size 40 3 (.slice ya G.length yc) G.length (stpC G) := ownsRow_same HO.out fun b' hb' => Below.heap_alloc _ _ _ (ownsRow_block HO.out b' hb').2.1
          have hSA : StpAt (wr.alloc (.cells #[.int .i64 t, .int .i64 3, .int .i64 0] 40)) wr.heap.size 0 ⟨t, 3, 0⟩ := by
            have e := heap_alloc_new wr (.cells #[.int .i64 t, .int .i64 3, .int .i64 0] 40)
            exact ⟨cell_of_row _ _ _ _ 40 (0, 0) e, cell_of_row _ _ _ _ 40 (0, 0) e, cell_of_row _ _ _ _ 40 (0, 0) e⟩
          have hws := HB.out.size
          obtain ⟨n1, w6, hr6, ho6, hg6, hob6⟩ := run_appT hO3 hSA (by simp; omega) (by omega) 22
          have HB6 : Hid (Below w1.heap.size w1 w6) := (belA HB.out _).grown hg6 (by simp; omega) (fun b' hb' => (ownsRow_block hO3 b' hb').1)
          obtain ⟨na, nc, hn1⟩ := ownsRow_slice ho6
          have HO6 : Hid (w6.ownsRow w1.heap.size 40 3 n1 (G ++ [(⟨t, 3, 0⟩ : Stp)]).length (stpC (G ++ [⟨t, 3, 0⟩]))) := by
            rw [List.length_append]; exact ho6
          have HR6 := hideIt hr6
          clear hO3 hSA ho6 hg6 hob6 hr6
          subst hn1
          go_wp2_with (at_builtin; refine wpList_append_run _ rfl _ _ 22 rfl _ _ _ w6 rfl rfl HR6.out ?_)
          go_roundw
          case rel => exact ⟨k + 1, by omega, by go_num, by rw [HS.out]; exact HO6.out, HB6.out⟩
          case measure => simp [intOf]; omega
    · obtain rfl : k = ord.length := by omega
      rw [List.take_length] at HO ⊢
      obtain ⟨a', c', hv', hc', hq'⟩ := stpsQ_ownT HO.out
      injection hv' with e1 e2 e3
      subst e1 e3
      have HQ := hideIt hq'
      go_wp2
      go_ret
      exact ⟨_, _, rfl, hc', HQ.out, belJ HB1.out HB.out⟩

set_option maxRecDepth 100000 in
set_option maxHeartbeats 2000000 in
theorem kCommits_any (l : List Stp) (a : Option Addr) (cap : Nat) (w : World) (hn : l.length ≤ 100) (hl : StpsQ w a l) :
    Calls Tryd.prog 23 #[.slice a l.length cap] w fun e w' => e = .returned (.int .i64 (comN l : Nat)) ∧ w' = w := by
  have HL := hideIt hl
  clear hl
  have HEnd : Hid (((l.take l.length).filter fun s => s.k == 3).length = comN l) := by
    show _ = _
    rw [List.take_length]; rfl
  go_enter Tryd.func23, Tryd.ntmps23
  go_wp2
  go_loop [3, 4] (fun n i => ∃ k : Nat, k ≤ l.length ∧ i = .int .i64 k ∧ n = .int .i64 (((l.take k).filter fun s => s.k == 3).length : Nat)) (fun _ i => l.length - (intOf i).toNat)
  case atStart => exact ⟨0, Nat.zero_le _, rfl, rfl⟩
  case round =>
    obtain ⟨k, hk, rfl, rfl⟩ := hrel
    by_cases hkl : k < l.length
    · obtain ⟨b, off, rfl, hlt, hst⟩ : ∃ b off, a = some ⟨b, off, none⟩ ∧ b < w.heap.size ∧ StpsAt w b off l := by
        rcases HL.out with h | h
        · subst h; simp at hkl
        · exact h
      obtain ⟨c0, c1, c2⟩ := hst k hkl
      have HX := hideIt (filter_take (p := fun s : Stp => s.k == 3) hkl)
      have hle : ((l.take k).filter fun s => s.k == 3).length ≤ 100 := Nat.le_trans (List.length_filter_le _ _) (by rw [List.length_take]; omega)
      generalize l[k] = x at c0 c1 c2 HX
      generalize (l.take k).filter (fun s => s.k == 3) = G at HX hle ⊢
      have hkl' : (k : Int) < l.length := by omega
      clear hst
      by_cases h3 : x.k = 3
      · have h3' : (x.k == 3) = true := by simp [h3]
        have R : Hid (((l.take (k + 1)).filter fun s => s.k == 3).length = G.length + 1) := by
          show _ = _
          rw [HX.out, h3']; simp
        rw [h3] at c1
        clear HX
        go_wp2
        go_round
        case rel => exact ⟨k + 1, by omega, by go_num, by rw [R.out]; go_num⟩
        case measure => simp [intOf]; omega
      · have h3' : (x.k == 3) = false := by simp [h3]
        have R : Hid (((l.take (k + 1)).filter fun s => s.k == 3).length = G.length) := by
          show _ = _
          rw [HX.out, h3']; simp
        clear HX
        go_wp2
        go_round
        case rel => exact ⟨k + 1, by omega, by go_num, by rw [R.out]⟩
        case measure => simp [intOf]; omega
    · obtain rfl : k = l.length := by omega
      rw [HEnd.out]
      go_wp2
      go_ret
      exact ⟨rfl, rfl⟩
end Go.Proofs.YtibdchahallbjabDoor
