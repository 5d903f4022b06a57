/-
  Adya's levels in plain Lean, at what the program finds.
  One copy, in plain Lean: at the highest level each one that commits reads what those ahead of it wrote last.
-/
import Derived.Test.YtaopigjhdkdklaaDoorIlW
namespace Go.Proofs.YtaopigjhdkdklaaDoor
open Go.RowKit

theorem an_irr (s : ISt) (i : Nat) : anB s i i = false := by
  cases h : anB s i i
  · rfl
  · unfold anB anwL at h
    obtain ⟨r, _, hr⟩ := List.any_eq_true.1 h
    unfold anwP at hr
    simp only [Bool.and_eq_true, bne_iff_ne, beq_iff_eq] at hr
    exact absurd (by rw [hr.2.2, hr.2.1]) hr.1.2.2
theorem ldb_way {E A : Nat → Nat → Bool} {n : Nat} : ldbB E A n = true ↔ ∃ a b, E a b = true ∧ a < n ∧ Way A n b a := by
  rw [ldbB_iff]
  constructor
  · rintro ⟨i, k, hi, hk, h1, h2⟩
    exact ⟨i, k, h1, hi, (war_iff hk hi).1 h2⟩
  · rintro ⟨a, b, h1, ha, h2⟩
    exact ⟨a, b, ha, h2.lt.1, h1, (war_iff h2.lt.1 ha).2 h2⟩
theorem ord_same {A : Nat → Nat → Bool} {n : Nat} : (ordG (gB (matN n A)) n n).isSome = true ↔ ∃ L, ordG A n n = some L := by
  rw [Option.isSome_iff_exists, ord_iff, ord_iff]
  exact ⟨fun h x hx => h x (way_mat.2 hx), fun h x hx => h x (way_mat.1 hx)⟩
theorem lv_facts {s : ISt} (hf : fltI s = 0) : (fndB s 0 = true → fndB s 3 = true) ∧ (fndB s 4 = true → fndB s 5 = true) ∧ (serG s = 0 ↔ fndB s 3 = false ∧ fndB s 5 = false) := by
  have ok := iOk_of hf
  obtain ⟨l1, l2, l3⟩ := levels_in (ov := ovB s) (se := seB s) (an := anB s) (n := s.txs.length) (an_irr s)
  refine ⟨fun h => ?_, fun h => ?_, ?_⟩
  · exact rndB_iff.2 (l1 (rndB_iff.1 h))
  · exact ldb_way.2 (l2 (ldb_way.1 h))
  · have e : serG s = if (ordG (gB (serR s)) s.txs.length s.txs.length).isSome then 0 else 11 := by
      unfold serG oG
      have hck : ckG (serR s) = 0 := matN_ok (by have := ok.few; omega) _
      rw [if_pos hf, if_pos hck]
      rw [show (serR s).length = s.txs.length from matN_len _ _]
    have e2 : serG s = 0 ↔ (ordG (gB (serR s)) s.txs.length s.txs.length).isSome = true := by
      rw [e]
      split
      · simp_all
      · simp_all
    rw [e2]
    refine ord_same.trans (l3.trans ?_)
    have e3 : fndB s 3 = rndB (orR (ovB s) (seB s)) s.txs.length := rfl
    have e5 : fndB s 5 = ldbB (anB s) (edB s) s.txs.length := rfl
    rw [e3, e5, ← Bool.not_eq_true, ← Bool.not_eq_true, rndB_iff, ldb_way]
    exact Iff.rfl
end Go.Proofs.YtaopigjhdkdklaaDoor

namespace Go.Proofs.YtaopigjhdkdklaaDoor
open Go.RowKit

/-- ONE COPY: in an order that keeps all edges, whoever commits reads what those ahead of it wrote last. -/
theorem replayJ {s : ISt} (hok : IOrd s) {L : List Int} (hn : L.Nodup) (hpos : ∀ u ∈ L, 0 ≤ u) (hO : ∀ i k, OvR s i k → Bef L i k) (hS : ∀ i k, 0 ≤ k → SeR s i k → Bef L i k) (hA : ∀ i k, 0 ≤ i → AnR s i k → Bef L i k)
    {t : Int} (hc : comI s t = true) {A B : List Int} (hL : L = A ++ t :: B) {o : IOp} (ho : o ∈ (txI s t).ops) (hw : o.wr = false) (hr : IRead s o) (hft : o.frm ≠ t)
    (hAb : 0 ≤ o.frm → comI s o.frm = true) (hBt : 0 ≤ o.frm → o.num + 1 = wroI s o.frm o.key) :
    o.frm = lasW s (A.filter (comI s)) o.key := by
  have ht0 : 0 ≤ t := hpos t (by rw [hL]; simp)
  have hAn : (A.filter (comI s)).Nodup := by
    rw [hL] at hn
    exact (List.nodup_append.1 hn).1.sublist List.filter_sublist
  have hbt : ∀ u ∈ A, Bef L u t := fun u hu => by rw [hL, bef_app]; exact .inr (.inl ⟨hu, by simp⟩)
  have hir : ∀ {u}, u ∈ A → ¬ Bef L t u := fun {u} hu h => bef_asym hn (hbt u hu) h
  have hne : ∀ {u}, u ∈ A → u ≠ t := fun {u} hu e => by subst e; exact bef_irr hn (hbt u hu)
  obtain ⟨⟨k0, k8⟩, hfr⟩ := hr
  -- a writer ahead of t doesn't stand at or behind the place behind what is read
  have key : ∀ {p : Nat} {u : Int}, (∀ b, (lstK s o.key)[p]? = some b → b ≠ t → Bef L t b) → u ∈ A → ∀ q (hq : q < (lstK s o.key).length), (lstK s o.key)[q] = u → q < p := fun {p u} hnx hu q hq e => by
    refine Classical.byContradiction fun hle => ?_
    have hp : p < (lstK s o.key).length := by omega
    have hb : Bef L t u := by
      by_cases et : (lstK s o.key)[p] = t
      · have hpq : p < q := by
          rcases Nat.lt_or_ge p q with h | h
          · exact h
          · have : p = q := by omega
            subst this
            exact absurd (e.symm.trans et) (hne hu)
        rw [← et, ← e]
        exact ov_bef hn hO k0 k8 hq hpq
      · have h1 := hnx _ (List.getElem?_eq_getElem hp) et
        rcases Nat.lt_or_ge p q with h | h
        · exact bef_tr hn h1 (by rw [← e]; exact ov_bef hn hO k0 k8 hq h)
        · have : p = q := by omega
          subst this
          rw [← e]; exact h1
    exact hir hu hb
  have hmem : ∀ u, u ∈ A.filter (comI s) → 0 < wroI s u o.key → (0 ≤ u ∧ u < s.txs.length) → u ∈ lstK s o.key := fun u hu hw hr => (hok.mem o.key u k0 k8).2 ⟨hr, (List.mem_filter.1 hu).2, hw⟩
  have hrng : ∀ u, 0 < wroI s u o.key → comI s u = true → u < s.txs.length := fun u _ hcu => by
    refine Classical.byContradiction fun h => ?_
    unfold comI txI at hcu
    rw [List.getD_eq_getElem?_getD, List.getElem?_eq_none (by omega)] at hcu
    cases hcu
  have hin : ∀ u, u ∈ A.filter (comI s) → 0 < wroI s u o.key → u ∈ lstK s o.key := fun u hu hw =>
    hmem u hu hw ⟨hpos u (by rw [hL]; exact List.mem_append_left _ (List.mem_filter.1 hu).1), hrng u hw (List.mem_filter.1 hu).2⟩
  rcases hfr with e1 | ⟨f0, f1, n0, n1⟩
  · rw [lasW_none fun u hu => ?_, e1]
    refine Classical.byContradiction fun h => ?_
    have hw' : 0 < wroI s u o.key := by omega
    obtain ⟨q, hq, e⟩ := List.getElem_of_mem (hin u hu hw')
    have := key (p := 0) (u := u) (fun b hb hbt' => hA t b ht0 ⟨hc, o, ho, hw, .inl (by omega), by unfold behI; rw [if_neg (by omega)]; exact hb, hbt'⟩) (List.mem_filter.1 hu).1 q hq e
    omega
  · have hcf := hAb f0
    have hbf := hBt f0
    have hwf : 0 < wroI s o.frm o.key := by omega
    have hft' : Bef L o.frm t := hS _ _ ht0 ⟨hc, o, ho, hw, rfl, f0, hcf, hft, hbf⟩
    have hnL := hn
    rw [hL] at hnL
    obtain ⟨_, hnB, hdis⟩ := List.nodup_append.1 hnL
    have hfA : o.frm ∈ A := by
      have h := hft'
      rw [hL, bef_app] at h
      rcases h with h | ⟨h, _⟩ | h
      · exact (bef_mem h).1
      · exact h
      · rw [bef_cons] at h
        rcases h with ⟨h, _⟩ | h
        · exact absurd h hft
        · exact absurd (bef_mem h).2 (List.nodup_cons.1 hnB).1
    have hfF : o.frm ∈ A.filter (comI s) := List.mem_filter.2 ⟨hfA, hcf⟩
    have hfl := hin o.frm hfF hwf
    have hp0 : (lstK s o.key).idxOf o.frm < (lstK s o.key).length := List.idxOf_lt_length_of_mem hfl
    have hp1 : (lstK s o.key)[(lstK s o.key).idxOf o.frm] = o.frm := List.getElem_idxOf hp0
    refine (lasW_some hAn hfF hwf fun u hu hw' => ?_).symm
    obtain ⟨q, hq, e⟩ := List.getElem_of_mem (hin u hu hw')
    have hlt := key (p := (lstK s o.key).idxOf o.frm + 1) (u := u) (fun b hb hbt' => hA t b ht0 ⟨hc, o, ho, hw, .inr hcf, by unfold behI; rw [if_pos f0]; exact hb, hbt'⟩) (List.mem_filter.1 hu).1 q hq e
    by_cases eq : q = (lstK s o.key).idxOf o.frm
    · refine .inl ?_
      subst eq
      exact e.symm.trans hp1
    · refine .inr ?_
      have hb : Bef L u o.frm := by
        have := ov_bef hn hO k0 k8 (p := q) hp0 (by omega)
        rw [e, hp1] at this
        exact this
      rw [bef_filter]
      refine ⟨?_, (List.mem_filter.1 hu).2, hcf⟩
      rw [hL, bef_app] at hb
      rcases hb with hb | ⟨_, hb⟩ | hb
      · exact hb
      · exact absurd rfl (hdis _ hfA _ hb)
      · exact absurd rfl (hdis _ hfA _ (bef_mem hb).2)

/-- What is kept of a list, taken apart at a place. -/
theorem filter_at {α : Type} {p : α → Bool} : ∀ {L : List α} {i : Nat} (hi : i < (L.filter p).length), ∃ A B, L = A ++ (L.filter p)[i] :: B ∧ A.filter p = (L.filter p).take i
  | [], i, hi => absurd hi (by simp)
  | a :: L, i, hi => by
    by_cases h : p a = true
    · have e : (a :: L).filter p = a :: L.filter p := List.filter_cons_of_pos h
      cases i with
      | zero => exact ⟨[], L, by simp [e], by simp⟩
      | succ i =>
        have hi' : i < (L.filter p).length := by rw [e] at hi; simpa using hi
        obtain ⟨A, B, h1, h2⟩ := filter_at hi'
        refine ⟨a :: A, B, ?_, ?_⟩
        · have e2 : ((a :: L).filter p)[i + 1] = (L.filter p)[i] := by simp [e]
          rw [e2, List.cons_append, ← h1]
        · rw [List.filter_cons_of_pos h, h2, e, List.take_succ_cons]
    · have e : (a :: L).filter p = L.filter p := List.filter_cons_of_neg h
      have hi' : i < (L.filter p).length := by rw [e] at hi; exact hi
      obtain ⟨A, B, h1, h2⟩ := filter_at hi'
      refine ⟨a :: A, B, ?_, ?_⟩
      · have e2 : ((a :: L).filter p)[i] = (L.filter p)[i] := by simp [e]
        rw [e2, List.cons_append, ← h1]
      · rw [List.filter_cons_of_neg h, h2, e]
theorem rd_mem {s : ISt} {k : Nat} {o : IOp} (hk : k < s.txs.length) (hc : comI s (k : Int) = true) (ho : o ∈ (txI s (k : Int)).ops) (hw : o.wr = false) : (k, o) ∈ rdI s := by
  unfold rdI rdN
  refine List.mem_flatMap.2 ⟨k, List.mem_range.2 hk, List.mem_map.2 ⟨o, ?_, rfl⟩⟩
  unfold rdT
  rw [if_pos (show (txI s (k : Int)).com = true from hc), List.take_length]
  exact List.mem_filter.2 ⟨ho, by rw [hw]; rfl⟩
theorem tx_mem {s : ISt} {k : Int} (h0 : 0 ≤ k) (h1 : k < s.txs.length) : txI s k ∈ s.txs := by
  obtain ⟨i, rfl⟩ := Int.eq_ofNat_of_zero_le h0
  rw [txI_at (by omega)]
  exact List.getElem_mem _
theorem com_lt {s : ISt} {k : Int} (h : comI s k = true) (h0 : 0 ≤ k) : k < s.txs.length := by
  refine Classical.byContradiction fun hn => ?_
  unfold comI txI at h
  rw [List.getD_eq_getElem?_getD, List.getElem?_eq_none (by omega)] at h
  cases h
theorem op_of {s : ISt} (ok : IOk s) {k : Int} {o : IOp} (h0 : 0 ≤ k) (hc : comI s k = true) (ho : o ∈ (txI s k).ops) : fltP s o = 0 := (ok.ops _ (tx_mem h0 (com_lt hc h0))).2 o ho
/-- The three kinds of edges, as the program has them. -/
theorem ov_edge {s : ISt} (ok : IOk s) {i k : Int} (h : OvR s i k) : ∃ a b : Nat, i = a ∧ k = b ∧ a < s.txs.length ∧ b < s.txs.length ∧ edB s a b = true := by
  obtain ⟨key, ⟨k0, k8⟩, j, h1, h2⟩ := h
  obtain ⟨⟨a0, a1⟩, _, _⟩ := (ok.ord.mem key i k0 k8).1 (List.mem_of_getElem? h1)
  obtain ⟨⟨b0, b1⟩, _, _⟩ := (ok.ord.mem key k k0 k8).1 (List.mem_of_getElem? h2)
  obtain ⟨a, rfl⟩ := Int.eq_ofNat_of_zero_le a0
  obtain ⟨b, rfl⟩ := Int.eq_ofNat_of_zero_le b0
  obtain ⟨q, rfl⟩ := Int.eq_ofNat_of_zero_le k0
  refine ⟨a, b, rfl, rfl, by omega, by omega, ?_⟩
  have e : ovB s a b = true := by
    unfold ovB ovS
    refine List.any_eq_true.2 ⟨q, List.mem_range.2 (by omega), ?_⟩
    unfold ovK
    refine List.any_eq_true.2 ⟨j, List.mem_range.2 (List.getElem?_eq_some_iff.1 h1).1, ?_⟩
    rw [h1, h2]
    simp
  unfold edB orR
  rw [e]
  rfl
theorem se_edge {s : ISt} (ok : IOk s) {i k : Int} (hk0 : 0 ≤ k) (h : SeR s i k) : ∃ a b : Nat, i = a ∧ k = b ∧ a < s.txs.length ∧ b < s.txs.length ∧ edB s a b = true := by
  obtain ⟨hc, o, ho, hw, rfl, i0, hci, hne, hn⟩ := h
  have hk1 := com_lt hc hk0
  have hi1 := com_lt hci i0
  obtain ⟨⟨q0, q7⟩, _⟩ := fltP_zero (op_of ok hk0 hc ho)
  obtain ⟨b, rfl⟩ := Int.eq_ofNat_of_zero_le hk0
  refine ⟨o.frm.toNat, b, by omega, rfl, by omega, by omega, ?_⟩
  have e : seB s o.frm.toNat b = true := by
    unfold seB seeL
    refine List.any_eq_true.2 ⟨(b, o), rd_mem (by omega) hc ho hw, ?_⟩
    unfold seeP othB lastB verF
    rw [show ((o.frm.toNat : Nat) : Int) = o.frm by omega, show ((o.key.toNat : Nat) : Int) = o.key by omega]
    simp only [Bool.and_eq_true, Bool.or_eq_true, bne_iff_ne, beq_iff_eq]
    exact ⟨⟨.inr hci, ⟨by omega, hne⟩, by omega⟩, trivial, trivial⟩
  unfold edB orR
  rw [e]
  simp
theorem an_edge {s : ISt} (ok : IOk s) {i k : Int} (hi0 : 0 ≤ i) (h : AnR s i k) : ∃ a b : Nat, i = a ∧ k = b ∧ a < s.txs.length ∧ b < s.txs.length ∧ edB s a b = true := by
  obtain ⟨hc, o, ho, hw, hfr, hbe, hne⟩ := h
  have hi1 := com_lt hc hi0
  obtain ⟨⟨q0, q7⟩, _, _, _, _, hrd⟩ := fltP_zero (op_of ok hi0 hc ho)
  obtain ⟨_, hrd⟩ := hrd hw
  have hkm : k ∈ lstK s o.key := List.mem_of_getElem? hbe
  obtain ⟨⟨b0, b1⟩, _, _⟩ := (ok.ord.mem o.key k q0 (by omega)).1 hkm
  have hv : behV (lstK s o.key) o.frm = k := by
    unfold behV
    unfold behI at hbe
    rcases hrd with e1 | ⟨f0, f1, n0, n1⟩
    · have hno : o.frm ∉ lstK s o.key := fun hm => by
        have := ((ok.ord.mem o.key o.frm q0 (by omega)).1 hm).1.1
        omega
      rw [if_neg (by omega)] at hbe
      unfold idxN
      rw [if_neg hno]
      show ((lstK s o.key)[0]?).getD (-1) = k
      rw [hbe]
      rfl
    · have hcf : comI s o.frm = true := by
        rcases hfr with h | h
        · omega
        · exact h
      have hm : o.frm ∈ lstK s o.key := (ok.ord.mem o.key o.frm q0 (by omega)).2 ⟨⟨f0, f1⟩, hcf, by omega⟩
      rw [if_pos f0] at hbe
      unfold idxN
      rw [if_pos hm, show (((lstK s o.key).idxOf o.frm : Int) + 1).toNat = (lstK s o.key).idxOf o.frm + 1 by omega, hbe]
      rfl
  obtain ⟨a, rfl⟩ := Int.eq_ofNat_of_zero_le hi0
  obtain ⟨b, rfl⟩ := Int.eq_ofNat_of_zero_le b0
  refine ⟨a, b, rfl, rfl, by omega, by omega, ?_⟩
  have e : anB s a b = true := by
    unfold anB anwL
    refine List.any_eq_true.2 ⟨(a, o), rd_mem (by omega) hc ho hw, ?_⟩
    unfold anwP anwV
    dsimp only
    rw [hv]
    simp only [Bool.and_eq_true, Bool.or_eq_true, bne_iff_ne, beq_iff_eq]
    refine ⟨⟨?_, by omega, hne⟩, trivial, trivial⟩
    rcases hrd with e1 | ⟨f0, _⟩
    · exact .inl e1
    · rcases hfr with h | h
      · omega
      · exact .inr h
  unfold edB orR
  rw [e]
  simp
theorem lv_three {s : ISt} (h : lvlI s = 3) : fndB s 1 = false ∧ fndB s 2 = false ∧ fndB s 3 = false ∧ fndB s 5 = false := by
  unfold lvlI at h
  revert h
  generalize fndB s 0 = x0
  generalize fndB s 1 = x1
  generalize fndB s 2 = x2
  generalize fndB s 3 = x3
  generalize fndB s 5 = x5
  cases x0 <;> cases x1 <;> cases x2 <;> cases x3 <;> cases x5 <;> simp
/-- What the statement asks of each place of the order. -/
theorem replay_at {s : ISt} (hf : fltI s = 0) (h3 : lvlI s = 3) : serG s = 0 ∧ (serV s).length ≤ 8 ∧ ∀ i (hi : i < (serV s).length), (0 ≤ (serV s)[i] ∧ (serV s)[i] < s.txs.length) ∧ comI s (serV s)[i] = true ∧
    ∀ o ∈ (txI s (serV s)[i]).ops, (0 ≤ o.key ∧ o.key < 8) ∧ (o.wr = false → o.frm ≠ (serV s)[i] → o.frm = lasW s ((serV s).take i) o.key) := by
  have ok := iOk_of hf
  obtain ⟨n1, n2, n3, n5⟩ := lv_three h3
  have hg : serG s = 0 := (lv_facts hf).2.2.2 ⟨n3, n5⟩
  have hck : ckG (serR s) = 0 := matN_ok (by have := ok.few; omega) _
  have hlen : (serR s).length = s.txs.length := matN_len _ _
  obtain ⟨L0, hL0⟩ : ∃ L0, ordG (gB (serR s)) s.txs.length s.txs.length = some L0 := by
    have h := hg
    unfold serG oG at h
    rw [if_pos hf, if_pos hck, hlen] at h
    split at h
    · rename_i h'
      exact Option.isSome_iff_exists.1 h'
    · cases h
  have hV : serV s = (natI L0).filter (comI s) := by
    unfold serV oL
    rw [if_pos hg, if_pos hck, hlen, hL0]
    rfl
  obtain ⟨hl, oo⟩ := ordG_ok hL0
  have hedge : ∀ a b : Nat, a < s.txs.length → b < s.txs.length → edB s a b = true → Bef (natI L0) (a : Int) (b : Int) := fun a b ha hb he => by
    obtain ⟨p, hp, rfl⟩ := idx_of_mem (full_mem hl oo.nd oo.lt ha)
    obtain ⟨q, hq, rfl⟩ := idx_of_mem (full_mem hl oo.nd oo.lt hb)
    have hpq := ord_keeps hL0 hp hq (by rw [show gB (serR s) = gB (matN s.txs.length (edB s)) from rfl, matN_gB _ _ ha hb]; exact he)
    exact bef_at (l := natI L0) (p := p) (q := q) (by simpa [natI] using hq) hpq (by simp [natI]) (by simp [natI])
  have hnd : (natI L0).Nodup := by
    unfold natI
    rw [List.nodup_iff_pairwise_ne, List.pairwise_map]
    exact (List.nodup_iff_pairwise_ne.1 oo.nd).imp fun h e => h (by omega)
  have hpos : ∀ u ∈ natI L0, 0 ≤ u := fun u hu => by
    unfold natI at hu
    obtain ⟨x, _, rfl⟩ := List.mem_map.1 hu
    omega
  refine ⟨hg, ?_, fun i hi => ?_⟩
  · rw [hV]
    refine Nat.le_trans (List.length_filter_le _ _) ?_
    unfold natI
    rw [List.length_map, hl]
    exact ok.few
  · have hm : (serV s)[i] ∈ (natI L0).filter (comI s) := by rw [← hV]; exact List.getElem_mem hi
    obtain ⟨hm1, hc⟩ := List.mem_filter.1 hm
    have h0 := hpos _ hm1
    have h1 := com_lt hc h0
    obtain ⟨A, B, hA, hAf⟩ := filter_at (p := comI s) (L := natI L0) (i := i) (by rw [← hV]; exact hi)
    have eT : ((natI L0).filter (comI s))[i]'(by rw [← hV]; exact hi) = (serV s)[i] := by simp [hV]
    rw [eT] at hA
    rw [← hV] at hAf
    refine ⟨⟨h0, h1⟩, hc, fun o ho => ?_⟩
    obtain ⟨⟨q0, q7⟩, ⟨f0, f1⟩, _, _, _, hrd⟩ := fltP_zero (op_of ok h0 hc ho)
    refine ⟨⟨q0, by omega⟩, fun hw hne => ?_⟩
    have hin : ((serV s)[i].toNat, o) ∈ rdI s := rd_mem (by omega) (by rw [show (((serV s)[i].toNat : Nat) : Int) = (serV s)[i] by omega]; exact hc) (by rw [show (((serV s)[i].toNat : Nat) : Int) = (serV s)[i] by omega]; exact ho) hw
    have hoth : 0 ≤ o.frm → othB ((serV s)[i].toNat : Int) o = true := fun hp => by
      unfold othB
      simp only [Bool.and_eq_true, bne_iff_ne]
      exact ⟨by omega, by omega⟩
    rw [← hAf]
    refine replayJ ok.ord hnd hpos ?_ ?_ ?_ hc hA ho hw (hrd hw) hne ?_ ?_
    · intro i k h
      obtain ⟨a, b, rfl, rfl, ha, hb, he⟩ := ov_edge ok h
      exact hedge a b ha hb he
    · intro i k hk h
      obtain ⟨a, b, rfl, rfl, ha, hb, he⟩ := se_edge ok hk h
      exact hedge a b ha hb he
    · intro i k hi h
      obtain ⟨a, b, rfl, rfl, ha, hb, he⟩ := an_edge ok hi h
      exact hedge a b ha hb he
    · intro hp
      have h' : ((rdI s).any (abtP s)) = false := n1
      have := List.any_eq_false.1 h' _ hin
      unfold abtP at this
      rw [hoth hp] at this
      simpa using this
    · intro hp
      have h' : ((rdI s).any (btwP s)) = false := n2
      have := List.any_eq_false.1 h' _ hin
      unfold btwP at this
      rw [hoth hp] at this
      unfold lastB verF at this
      rw [show ((o.frm.toNat : Nat) : Int) = o.frm by omega, show ((o.key.toNat : Nat) : Int) = o.key by omega] at this
      simp at this
      omega
end Go.Proofs.YtaopigjhdkdklaaDoor
