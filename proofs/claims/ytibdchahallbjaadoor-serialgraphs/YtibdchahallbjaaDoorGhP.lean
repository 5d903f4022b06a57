/-
  Chapter 10 in plain Lean: the order of nodes, what goes round, groups. (Nothing of the program in it.)
-/
import Derived.Test.YtibdchahallbjaaDoorCaP
namespace Go.Proofs.YtibdchahallbjaaDoor

/-! ### the order -/
/-- A node that may stand next: not placed, and all that lead to it are. -/
def mayG (g : Nat → Nat → Bool) (n : Nat) (P : Nat → Bool) (i : Nat) : Bool := !P i && (List.range n).all fun k => P k || !g k i
theorem mayG_iff {g : Nat → Nat → Bool} {n : Nat} {P : Nat → Bool} {i : Nat} : mayG g n P i = true ↔ P i = false ∧ ∀ k, k < n → g k i = true → P k = true := by
  unfold mayG
  rw [Bool.and_eq_true, List.all_eq_true]
  constructor
  · rintro ⟨h1, h2⟩
    refine ⟨by simpa using h1, fun k hk hg => ?_⟩
    have := h2 k (List.mem_range.2 hk)
    rw [hg] at this
    simpa using this
  · rintro ⟨h1, h2⟩
    refine ⟨by simp [h1], fun k hk => ?_⟩
    cases hg : g k i
    · simp
    · rw [h2 k (List.mem_range.1 hk) hg]; rfl
def memB (L : List Nat) (i : Nat) : Bool := L.contains i
theorem memB_iff {L : List Nat} {i : Nat} : memB L i = true ↔ i ∈ L := by simp [memB]
def ordG (g : Nat → Nat → Bool) (n : Nat) : Nat → Option (List Nat)
  | 0 => some []
  | m + 1 => match ordG g n m with
    | none => none
    | some L => match firstN (mayG g n (memB L)) n with
      | none => none
      | some i => some (L ++ [i])
theorem ordG_succ {g : Nat → Nat → Bool} {n m : Nat} {L : List Nat} (h : ordG g n (m + 1) = some L) : ∃ K i, ordG g n m = some K ∧ firstN (mayG g n (memB K)) n = some i ∧ L = K ++ [i] := by
  unfold ordG at h
  cases h1 : ordG g n m with
  | none => rw [h1] at h; cases h
  | some K =>
    rw [h1] at h
    dsimp only at h
    cases h2 : firstN (mayG g n (memB K)) n with
    | none => rw [h2] at h; cases h
    | some i => rw [h2] at h; exact ⟨K, i, rfl, h2, (Option.some.inj h).symm⟩
theorem firstN_some {f : Nat → Bool} {n i : Nat} (h : firstN f n = some i) : i < n ∧ f i = true ∧ ∀ j, j < i → f j = false := by
  rcases firstN_cases f n with ⟨e, _⟩ | ⟨k, hk, e, hf, ha⟩
  · rw [e] at h; cases h
  · rw [e] at h
    obtain rfl := Option.some.inj h
    exact ⟨hk, hf, ha⟩
/-- What a beginning of an order is. -/
structure OrdOk (g : Nat → Nat → Bool) (n : Nat) (L : List Nat) : Prop where
  lt : ∀ x ∈ L, x < n
  nd : L.Nodup
  pre : ∀ j (h : j < L.length) k, k < n → g k L[j] = true → ∃ i, i < j ∧ ∃ hi : i < L.length, L[i] = k
theorem ordG_ok {g : Nat → Nat → Bool} {n : Nat} : ∀ {m : Nat} {L : List Nat}, ordG g n m = some L → L.length = m ∧ OrdOk g n L
  | 0, L, h => by
    obtain rfl := Option.some.inj h
    exact ⟨rfl, ⟨fun x hx => (by cases hx), List.nodup_nil, fun j hj => absurd hj (by simp)⟩⟩
  | m + 1, L, h => by
    obtain ⟨K, i, h1, h2, rfl⟩ := ordG_succ h
    obtain ⟨hl, ok⟩ := ordG_ok h1
    obtain ⟨hi, hm, _⟩ := firstN_some h2
    rw [mayG_iff] at hm
    have hni : i ∉ K := fun hx => by rw [memB_iff.2 hx] at hm; cases hm.1
    refine ⟨by simp [hl], ⟨fun x hx => ?_, ?_, fun j hj k hk hg => ?_⟩⟩
    · rcases List.mem_append.1 hx with hx | hx
      · exact ok.lt x hx
      · rw [List.mem_singleton.1 hx]; exact hi
    · rw [List.nodup_append]
      exact ⟨ok.nd, by simp, fun a ha b hb => by rw [List.mem_singleton.1 hb]; intro e; exact hni (e ▸ ha)⟩
    · by_cases e : j < K.length
      · rw [List.getElem_append_left e] at hg
        obtain ⟨i', h1', h2', h3⟩ := ok.pre j e k hk hg
        exact ⟨i', h1', by simp; omega, by rw [List.getElem_append_left h2']; exact h3⟩
      · have hj' : j = K.length := by simp at hj; omega
        subst hj'
        rw [List.getElem_append_right (Nat.le_refl _)] at hg
        simp at hg
        have := memB_iff.1 (hm.2 k hk hg)
        obtain ⟨i', hi', e'⟩ := List.getElem_of_mem this
        exact ⟨i', hi', by simp; omega, by rw [List.getElem_append_left hi']; exact e'⟩
theorem sub_len : ∀ {A B : List Nat}, A.Nodup → A ⊆ B → A.length ≤ B.length
  | [], B, _, _ => Nat.zero_le _
  | x :: A, B, hn, hs => by
    obtain ⟨hx, hn⟩ := List.nodup_cons.1 hn
    have hxB : x ∈ B := hs (List.mem_cons_self ..)
    have h1 := sub_len (A := A) (B := B.erase x) hn fun y hy => (List.mem_erase_of_ne (show y ≠ x from fun e => hx (by rw [← e]; exact hy))).2 (hs (List.mem_cons_of_mem _ hy))
    rw [List.length_erase_of_mem hxB] at h1
    have := List.length_pos_of_mem hxB
    simp
    omega
/-- A row of as many unlike nodes as there are has them all. -/
theorem full_mem {L : List Nat} {n : Nat} (hl : L.length = n) (hn : L.Nodup) (hlt : ∀ x ∈ L, x < n) {i : Nat} (hi : i < n) : i ∈ L := by
  refine Classical.byContradiction fun h => ?_
  have hnd : (i :: L).Nodup := List.nodup_cons.2 ⟨h, hn⟩
  have hsub : (i :: L) ⊆ List.range n := fun x hx => by
    rcases List.mem_cons.1 hx with rfl | hx
    · exact List.mem_range.2 hi
    · exact List.mem_range.2 (hlt x hx)
  have := sub_len hnd hsub
  simp at this
  omega
theorem idx_of_mem {L : List Nat} {i : Nat} (h : i ∈ L) : ∃ a, ∃ ha : a < L.length, L[a] = i := List.getElem_of_mem h
theorem nd_idx {L : List Nat} (h : L.Nodup) {a b : Nat} (ha : a < L.length) (hb : b < L.length) (e : L[a] = L[b]) : a = b := by
  rcases Nat.lt_trichotomy a b with h' | h' | h'
  · exact absurd e (List.pairwise_iff_getElem.1 h a b ha hb h')
  · exact h'
  · exact absurd e.symm (List.pairwise_iff_getElem.1 h b a hb ha h')
/-- An order keeps all roads. -/
theorem ord_keeps {g : Nat → Nat → Bool} {n : Nat} {L : List Nat} (h : ordG g n n = some L) {a b : Nat} (ha : a < L.length) (hb : b < L.length) (hg : g L[a] L[b] = true) : a < b := by
  obtain ⟨_, ok⟩ := ordG_ok h
  obtain ⟨i, hij, hi, e⟩ := ok.pre b hb L[a] (ok.lt _ (List.getElem_mem ha)) hg
  rw [nd_idx ok.nd hi ha e] at hij
  exact hij
theorem ord_way {g : Nat → Nat → Bool} {n : Nat} {L : List Nat} (h : ordG g n n = some L) {i k : Nat} (hw : Way g n i k) : ∀ a b (ha : a < L.length) (hb : b < L.length), L[a] = i → L[b] = k → a < b := by
  obtain ⟨hl, ok⟩ := ordG_ok h
  induction hw with
  | one _ _ hg => intro a b ha hb e1 e2; subst e1 e2; exact ord_keeps h ha hb hg
  | more h1 _ hg ih =>
    intro a b ha hb e1 e2
    obtain ⟨c, hc, e3⟩ := idx_of_mem (full_mem hl ok.nd ok.lt h1.lt.2)
    have h2 := ih a c ha hc e1 e3
    subst e2 e3
    have h3 := ord_keeps h hc hb hg
    omega
theorem ord_none_round {g : Nat → Nat → Bool} {n : Nat} {L : List Nat} (h : ordG g n n = some L) {i : Nat} : ¬ Way g n i i := fun hw => by
  obtain ⟨hl, ok⟩ := ordG_ok h
  obtain ⟨a, ha, e⟩ := idx_of_mem (full_mem hl ok.nd ok.lt hw.lt.1)
  exact Nat.lt_irrefl _ (ord_way h hw a a ha ha e e)

/-! ### where there is no order, something goes round -/
theorem countP_strict {p q : Nat → Bool} : ∀ {L : List Nat}, (∀ x ∈ L, p x = true → q x = true) → ∀ {y : Nat}, y ∈ L → q y = true → p y = false → L.countP p < L.countP q
  | [], _, y, hy, _, _ => by cases hy
  | x :: L, h, y, hy, hq, hp => by
    have hle : L.countP p ≤ L.countP q := List.countP_mono_left fun z hz => h z (List.mem_cons_of_mem _ hz)
    rw [List.countP_cons, List.countP_cons]
    rcases List.mem_cons.1 hy with rfl | hy
    · rw [hq, hp]; simp; omega
    · have ih := countP_strict (p := p) (q := q) (fun z hz => h z (List.mem_cons_of_mem _ hz)) hy hq hp
      cases hpx : p x
      · simp; split <;> omega
      · rw [h x (List.mem_cons_self ..) hpx]; simp; omega
/-- Of some nodes, where nothing goes round, one has none of them leading to it. -/
theorem least_in {g : Nat → Nat → Bool} {n : Nat} (hr : ∀ x, ¬ Way g n x x) (U : Nat → Bool) : ∀ (m x : Nat), x < n → U x = true → (List.range n).countP (fun k => U k && war g n k x) ≤ m → ∃ y, y < n ∧ U y = true ∧ ∀ k, k < n → U k = true → g k y = false
  | m, x, hx, hU, hm => by
    by_cases h : ∀ k, k < n → U k = true → g k x = false
    · exact ⟨x, hx, hU, h⟩
    · obtain ⟨k, hk⟩ := Classical.not_forall.1 h
      obtain ⟨hkn, hk⟩ := Classical.not_imp.1 hk
      obtain ⟨hUk, hk⟩ := Classical.not_imp.1 hk
      have hg : g k x = true := by simpa using hk
      have hkx : Way g n k x := .one hkn hx hg
      have hlt := countP_strict (p := fun j => U j && war g n j k) (q := fun j => U j && war g n j x) (L := List.range n) (fun j hj hp => by
        rw [Bool.and_eq_true] at hp ⊢
        exact ⟨hp.1, way_war ((war_way n (Nat.le_refl _) j k (List.mem_range.1 hj) hkn hp.2).trans hkx)⟩) (y := k) (List.mem_range.2 hkn) (by rw [hUk, way_war hkx]; rfl) (by
        cases hw : war g n k k
        · rw [Bool.and_false]
        · exact absurd (war_way n (Nat.le_refl _) k k hkn hkn hw) (hr k))
      match m, hm with
      | 0, hm => omega
      | m + 1, hm => exact least_in hr U m k hkn hUk (by omega)
theorem ord_some {g : Nat → Nat → Bool} {n : Nat} (hr : ∀ x, ¬ Way g n x x) : ∀ {m : Nat}, m ≤ n → ∃ L, ordG g n m = some L
  | 0, _ => ⟨[], rfl⟩
  | m + 1, hm => by
    obtain ⟨L, hL⟩ := ord_some hr (m := m) (by omega)
    obtain ⟨hl, ok⟩ := ordG_ok hL
    obtain ⟨x, hx, hxL⟩ : ∃ x, x < n ∧ x ∉ L := by
      refine Classical.byContradiction fun h => ?_
      have hsub : List.range n ⊆ L := fun x hx => Classical.byContradiction fun hxL => h ⟨x, List.mem_range.1 hx, hxL⟩
      have := sub_len List.nodup_range hsub
      simp at this
      omega
    obtain ⟨y, hy, hU, hn⟩ := least_in hr (fun i => !memB L i) _ x hx (by simp only [Bool.not_eq_true']; cases h : memB L x; rfl; exact absurd (memB_iff.1 h) hxL) (Nat.le_refl _)
    have hmay : mayG g n (memB L) y = true := by
      rw [mayG_iff]
      refine ⟨by simpa using hU, fun k hk hg => ?_⟩
      cases h : memB L k
      · have := hn k hk (by rw [h]; rfl)
        rw [hg] at this
        cases this
      · rfl
    rcases firstN_cases (mayG g n (memB L)) n with ⟨_, ha⟩ | ⟨i, _, e, _⟩
    · rw [ha y hy] at hmay; cases hmay
    · exact ⟨L ++ [i], by unfold ordG; rw [hL]; dsimp only; rw [e]⟩
/-- There is an order just if nothing goes round. -/
theorem ord_iff {g : Nat → Nat → Bool} {n : Nat} : (∃ L, ordG g n n = some L) ↔ ∀ x, ¬ Way g n x x := ⟨fun ⟨_, h⟩ _ => ord_none_round h, fun h => ord_some h (Nat.le_refl _)⟩
theorem ordG_up {g : Nat → Nat → Bool} {n m : Nat} (h : ordG g n m = none) : ∀ d, ordG g n (m + d) = none
  | 0 => h
  | d + 1 => by show ordG g n (m + d + 1) = none; unfold ordG; rw [ordG_up h d]

/-! ### groups -/
/-- The least one that a node is, or leads to and back. -/
def grpG (g : Nat → Nat → Bool) (n i : Nat) : Nat := (firstN (fun k => k == i || (war g n i k && war g n k i)) n).getD i
theorem grpG_spec (g : Nat → Nat → Bool) {n i : Nat} (hi : i < n) : grpG g n i ≤ i ∧ (grpG g n i = i ∨ (Way g n i (grpG g n i) ∧ Way g n (grpG g n i) i)) ∧ ∀ k, k < grpG g n i → ¬ (Way g n i k ∧ Way g n k i) := by
  unfold grpG
  rcases firstN_cases (fun k => k == i || (war g n i k && war g n k i)) n with ⟨_, ha⟩ | ⟨k, hk, e, hf, ha⟩
  · have := ha i hi; simp at this
  · rw [e]
    simp only [Option.getD_some]
    have hki : k ≤ i := by
      rcases Nat.lt_or_ge i k with h | h
      · have := ha i h; simp at this
      · exact h
    refine ⟨hki, ?_, fun j hj ⟨h1, h2⟩ => ?_⟩
    · rw [Bool.or_eq_true, beq_iff_eq, Bool.and_eq_true] at hf
      rcases hf with h | ⟨h1, h2⟩
      · exact .inl h
      · exact .inr ⟨war_way n (Nat.le_refl _) _ _ hi hk h1, war_way n (Nat.le_refl _) _ _ hk hi h2⟩
    · have := ha j hj
      rw [way_war h1, way_war h2] at this
      simp at this
/-- Something goes round just if two nodes are in one group, or one leads to itself. -/
theorem round_grp {g : Nat → Nat → Bool} {n : Nat} : (∃ x, Way g n x x) ↔ ∃ i, i < n ∧ (grpG g n i ≠ i ∨ g i i = true) := by
  constructor
  · rintro ⟨x, hw⟩
    have hx := hw.lt.1
    have key : ∀ j, Way g n x j → Way g n j x → j ≠ x → ∃ i, i < n ∧ (grpG g n i ≠ i ∨ g i i = true) := fun j h1 h2 hne => by
      rcases Nat.lt_or_gt_of_ne hne with h | h
      · refine ⟨x, hx, .inl fun e => ?_⟩
        exact (grpG_spec g hx).2.2 j (by rw [e]; exact h) ⟨h1, h2⟩
      · refine ⟨j, h1.lt.2, .inl fun e => ?_⟩
        exact (grpG_spec g h1.lt.2).2.2 x (by rw [e]; exact h) ⟨h2, h1⟩
    cases hw with
    | one _ _ hg => exact ⟨x, hx, .inr hg⟩
    | more h1 hk hg =>
      rename Nat => j
      by_cases e : j = x
      · subst e; exact ⟨j, hx, .inr hg⟩
      · exact key j h1 (.one h1.lt.2 hx hg) e
  · rintro ⟨i, hi, h | h⟩
    · rcases (grpG_spec g hi).2.1 with e | ⟨h1, h2⟩
      · exact absurd e h
      · exact ⟨i, h1.trans h2⟩
    · exact ⟨i, .one hi hi h⟩

/-! ### ways round -/
/-- A row of nodes, each leading to the next one. -/
def RdG (g : Nat → Nat → Bool) (n : Nat) (c : List Nat) : Prop := (∀ x ∈ c, x < n) ∧ ∀ i (h : i + 1 < c.length), g c[i] c[i + 1] = true
/-- A way round. -/
def CycG (g : Nat → Nat → Bool) (n : Nat) (c : List Nat) : Prop := RdG g n c ∧ ∃ h : 0 < c.length, g c[c.length - 1] c[0] = true
theorem row_way {g : Nat → Nat → Bool} {n : Nat} {c : List Nat} (h : RdG g n c) : ∀ j (hj : j < c.length), 0 < j → Way g n (c[0]'(by omega)) c[j]
  | 0, _, h0 => absurd h0 (by omega)
  | 1, hj, _ => .one (h.1 _ (List.getElem_mem _)) (h.1 _ (List.getElem_mem _)) (h.2 0 hj)
  | j + 2, hj, _ => .more (row_way h (j + 1) (by omega) (by omega)) (h.1 _ (List.getElem_mem _)) (h.2 (j + 1) hj)
theorem cyc_way {g : Nat → Nat → Bool} {n : Nat} {c : List Nat} (h : CycG g n c) : ∃ x, Way g n x x := by
  obtain ⟨hr, h0, hg⟩ := h
  by_cases e : c.length = 1
  · have e1 : c.length - 1 = 0 := by omega
    refine ⟨c[0], .one (hr.1 _ (List.getElem_mem _)) (hr.1 _ (List.getElem_mem _)) ?_⟩
    simpa [e1] using hg
  · exact ⟨c[0], .more (row_way hr (c.length - 1) (by omega) (by omega)) (hr.1 _ (List.getElem_mem _)) hg⟩
theorem way_row {g : Nat → Nat → Bool} {n i k : Nat} (h : Way g n i k) : ∃ c, RdG g n c ∧ ∃ hc : 0 < c.length, c[0] = i ∧ g c[c.length - 1] k = true := by
  induction h with
  | one hi hk hg => exact ⟨[i], ⟨fun x hx => by rw [List.mem_singleton.1 hx]; exact hi, fun j hj => by simp at hj⟩, by simp, rfl, hg⟩
  | more h1 hk hg ih =>
    rename_i j k
    obtain ⟨c, hr, hc, e, hgj⟩ := ih
    refine ⟨c ++ [j], ⟨fun x hx => ?_, fun a ha => ?_⟩, by simp, by rw [List.getElem_append_left hc]; exact e, ?_⟩
    · rcases List.mem_append.1 hx with hx | hx
      · exact hr.1 x hx
      · rw [List.mem_singleton.1 hx]; exact h1.lt.2
    · simp at ha
      by_cases e' : a + 1 < c.length
      · rw [List.getElem_append_left (by omega), List.getElem_append_left e']; exact hr.2 a e'
      · have : a = c.length - 1 := by omega
        subst this
        rw [List.getElem_append_left (by omega), List.getElem_append_right (by omega)]
        simpa using hgj
    · simpa using hg
theorem way_cyc {g : Nat → Nat → Bool} {n x : Nat} (h : Way g n x x) : ∃ c, CycG g n c := by
  obtain ⟨c, hr, hc, e, hg⟩ := way_row h
  exact ⟨c, hr, hc, by rw [e]; exact hg⟩
end Go.Proofs.YtibdchahallbjaaDoor
