/-
  Chapter 10 in plain Lean: the order of nodes, what goes round, groups. (Nothing of the program in it.)
  Chapter 10 in plain Lean: the shortest way round, the first of several; the document's search for it. (Nothing of the program in it.)
  Shortest ways (Floyd, Warshall), in plain Lean: over how many roads one node leads to another; and the way round that is told by them.
  Chapter 11 in plain Lean: steps of transactions, which clash; transactions one behind the other: what clashes well sees well. (Nothing of the program in it.)
  Chapter 12 in plain Lean: a story of transactions, its edges; one copy: in an order that keeps all edges each reads what it reads.
  Chapter 12.1 in plain Lean: the first fault of a story; what is so where there is none.
  Chapter 12 in plain Lean: going round by some edges, and by more; Adya's levels lie one within the other.
-/
import Derived.Test.YtaopigjhdkdklaaDoorZnPZ
namespace Go.Proofs.YtaopigjhdkdklaaDoor

/-! ### the order -/
/-- A node that may stand next: not placed, and all that lead to it are. -/
def mayG (g : Nat → Nat → Bool) (n : Nat) (P : Nat → Bool) (i : Nat) : Bool := !P i && (List.range n).all fun k => P k || !g k i
theorem mayG_iff {g : Nat → Nat → Bool} {n : Nat} {P : Nat → Bool} {i : Nat} : mayG g n P i = true ↔ P i = false ∧ ∀ k, k < n → g k i = true → P k = true := by
  unfold mayG
  rw [Bool.and_eq_true, List.all_eq_true]
  constructor
  · rintro ⟨h1, h2⟩
    refine ⟨by simpa using h1, fun k hk hg => ?_⟩
    have := h2 k (List.mem_range.2 hk)
    rw [hg] at this
    simpa using this
  · rintro ⟨h1, h2⟩
    refine ⟨by simp [h1], fun k hk => ?_⟩
    cases hg : g k i
    · simp
    · rw [h2 k (List.mem_range.1 hk) hg]; rfl
def memB (L : List Nat) (i : Nat) : Bool := L.contains i
theorem memB_iff {L : List Nat} {i : Nat} : memB L i = true ↔ i ∈ L := by simp [memB]
def ordG (g : Nat → Nat → Bool) (n : Nat) : Nat → Option (List Nat)
  | 0 => some []
  | m + 1 => match ordG g n m with
    | none => none
    | some L => match firstN (mayG g n (memB L)) n with
      | none => none
      | some i => some (L ++ [i])
theorem ordG_succ {g : Nat → Nat → Bool} {n m : Nat} {L : List Nat} (h : ordG g n (m + 1) = some L) : ∃ K i, ordG g n m = some K ∧ firstN (mayG g n (memB K)) n = some i ∧ L = K ++ [i] := by
  unfold ordG at h
  cases h1 : ordG g n m with
  | none => rw [h1] at h; cases h
  | some K =>
    rw [h1] at h
    dsimp only at h
    cases h2 : firstN (mayG g n (memB K)) n with
    | none => rw [h2] at h; cases h
    | some i => rw [h2] at h; exact ⟨K, i, rfl, h2, (Option.some.inj h).symm⟩
theorem firstN_some {f : Nat → Bool} {n i : Nat} (h : firstN f n = some i) : i < n ∧ f i = true ∧ ∀ j, j < i → f j = false := by
  rcases firstN_cases f n with ⟨e, _⟩ | ⟨k, hk, e, hf, ha⟩
  · rw [e] at h; cases h
  · rw [e] at h
    obtain rfl := Option.some.inj h
    exact ⟨hk, hf, ha⟩
/-- What a beginning of an order is. -/
structure OrdOk (g : Nat → Nat → Bool) (n : Nat) (L : List Nat) : Prop where
  lt : ∀ x ∈ L, x < n
  nd : L.Nodup
  pre : ∀ j (h : j < L.length) k, k < n → g k L[j] = true → ∃ i, i < j ∧ ∃ hi : i < L.length, L[i] = k
theorem ordG_ok {g : Nat → Nat → Bool} {n : Nat} : ∀ {m : Nat} {L : List Nat}, ordG g n m = some L → L.length = m ∧ OrdOk g n L
  | 0, L, h => by
    obtain rfl := Option.some.inj h
    exact ⟨rfl, ⟨fun x hx => (by cases hx), List.nodup_nil, fun j hj => absurd hj (by simp)⟩⟩
  | m + 1, L, h => by
    obtain ⟨K, i, h1, h2, rfl⟩ := ordG_succ h
    obtain ⟨hl, ok⟩ := ordG_ok h1
    obtain ⟨hi, hm, _⟩ := firstN_some h2
    rw [mayG_iff] at hm
    have hni : i ∉ K := fun hx => by rw [memB_iff.2 hx] at hm; cases hm.1
    refine ⟨by simp [hl], ⟨fun x hx => ?_, ?_, fun j hj k hk hg => ?_⟩⟩
    · rcases List.mem_append.1 hx with hx | hx
      · exact ok.lt x hx
      · rw [List.mem_singleton.1 hx]; exact hi
    · rw [List.nodup_append]
      exact ⟨ok.nd, by simp, fun a ha b hb => by rw [List.mem_singleton.1 hb]; intro e; exact hni (e ▸ ha)⟩
    · by_cases e : j < K.length
      · rw [List.getElem_append_left e] at hg
        obtain ⟨i', h1', h2', h3⟩ := ok.pre j e k hk hg
        exact ⟨i', h1', by simp; omega, by rw [List.getElem_append_left h2']; exact h3⟩
      · have hj' : j = K.length := by simp at hj; omega
        subst hj'
        rw [List.getElem_append_right (Nat.le_refl _)] at hg
        simp at hg
        have := memB_iff.1 (hm.2 k hk hg)
        obtain ⟨i', hi', e'⟩ := List.getElem_of_mem this
        exact ⟨i', hi', by simp; omega, by rw [List.getElem_append_left hi']; exact e'⟩
theorem sub_len : ∀ {A B : List Nat}, A.Nodup → A ⊆ B → A.length ≤ B.length
  | [], B, _, _ => Nat.zero_le _
  | x :: A, B, hn, hs => by
    obtain ⟨hx, hn⟩ := List.nodup_cons.1 hn
    have hxB : x ∈ B := hs (List.mem_cons_self ..)
    have h1 := sub_len (A := A) (B := B.erase x) hn fun y hy => (List.mem_erase_of_ne (show y ≠ x from fun e => hx (by rw [← e]; exact hy))).2 (hs (List.mem_cons_of_mem _ hy))
    rw [List.length_erase_of_mem hxB] at h1
    have := List.length_pos_of_mem hxB
    simp
    omega
/-- A row of as many unlike nodes as there are has them all. -/
theorem full_mem {L : List Nat} {n : Nat} (hl : L.length = n) (hn : L.Nodup) (hlt : ∀ x ∈ L, x < n) {i : Nat} (hi : i < n) : i ∈ L := by
  refine Classical.byContradiction fun h => ?_
  have hnd : (i :: L).Nodup := List.nodup_cons.2 ⟨h, hn⟩
  have hsub : (i :: L) ⊆ List.range n := fun x hx => by
    rcases List.mem_cons.1 hx with rfl | hx
    · exact List.mem_range.2 hi
    · exact List.mem_range.2 (hlt x hx)
  have := sub_len hnd hsub
  simp at this
  omega
theorem idx_of_mem {L : List Nat} {i : Nat} (h : i ∈ L) : ∃ a, ∃ ha : a < L.length, L[a] = i := List.getElem_of_mem h
theorem nd_idx {L : List Nat} (h : L.Nodup) {a b : Nat} (ha : a < L.length) (hb : b < L.length) (e : L[a] = L[b]) : a = b := by
  rcases Nat.lt_trichotomy a b with h' | h' | h'
  · exact absurd e (List.pairwise_iff_getElem.1 h a b ha hb h')
  · exact h'
  · exact absurd e.symm (List.pairwise_iff_getElem.1 h b a hb ha h')
/-- An order keeps all roads. -/
theorem ord_keeps {g : Nat → Nat → Bool} {n : Nat} {L : List Nat} (h : ordG g n n = some L) {a b : Nat} (ha : a < L.length) (hb : b < L.length) (hg : g L[a] L[b] = true) : a < b := by
  obtain ⟨_, ok⟩ := ordG_ok h
  obtain ⟨i, hij, hi, e⟩ := ok.pre b hb L[a] (ok.lt _ (List.getElem_mem ha)) hg
  rw [nd_idx ok.nd hi ha e] at hij
  exact hij
theorem ord_way {g : Nat → Nat → Bool} {n : Nat} {L : List Nat} (h : ordG g n n = some L) {i k : Nat} (hw : Way g n i k) : ∀ a b (ha : a < L.length) (hb : b < L.length), L[a] = i → L[b] = k → a < b := by
  obtain ⟨hl, ok⟩ := ordG_ok h
  induction hw with
  | one _ _ hg => intro a b ha hb e1 e2; subst e1 e2; exact ord_keeps h ha hb hg
  | more h1 _ hg ih =>
    intro a b ha hb e1 e2
    obtain ⟨c, hc, e3⟩ := idx_of_mem (full_mem hl ok.nd ok.lt h1.lt.2)
    have h2 := ih a c ha hc e1 e3
    subst e2 e3
    have h3 := ord_keeps h hc hb hg
    omega
theorem ord_none_round {g : Nat → Nat → Bool} {n : Nat} {L : List Nat} (h : ordG g n n = some L) {i : Nat} : ¬ Way g n i i := fun hw => by
  obtain ⟨hl, ok⟩ := ordG_ok h
  obtain ⟨a, ha, e⟩ := idx_of_mem (full_mem hl ok.nd ok.lt hw.lt.1)
  exact Nat.lt_irrefl _ (ord_way h hw a a ha ha e e)

/-! ### where there is no order, something goes round -/
theorem countP_strict {p q : Nat → Bool} : ∀ {L : List Nat}, (∀ x ∈ L, p x = true → q x = true) → ∀ {y : Nat}, y ∈ L → q y = true → p y = false → L.countP p < L.countP q
  | [], _, y, hy, _, _ => by cases hy
  | x :: L, h, y, hy, hq, hp => by
    have hle : L.countP p ≤ L.countP q := List.countP_mono_left fun z hz => h z (List.mem_cons_of_mem _ hz)
    rw [List.countP_cons, List.countP_cons]
    rcases List.mem_cons.1 hy with rfl | hy
    · rw [hq, hp]; simp; omega
    · have ih := countP_strict (p := p) (q := q) (fun z hz => h z (List.mem_cons_of_mem _ hz)) hy hq hp
      cases hpx : p x
      · simp; split <;> omega
      · rw [h x (List.mem_cons_self ..) hpx]; simp; omega
/-- Of some nodes, where nothing goes round, one has none of them leading to it. -/
theorem least_in {g : Nat → Nat → Bool} {n : Nat} (hr : ∀ x, ¬ Way g n x x) (U : Nat → Bool) : ∀ (m x : Nat), x < n → U x = true → (List.range n).countP (fun k => U k && war g n k x) ≤ m → ∃ y, y < n ∧ U y = true ∧ ∀ k, k < n → U k = true → g k y = false
  | m, x, hx, hU, hm => by
    by_cases h : ∀ k, k < n → U k = true → g k x = false
    · exact ⟨x, hx, hU, h⟩
    · obtain ⟨k, hk⟩ := Classical.not_forall.1 h
      obtain ⟨hkn, hk⟩ := Classical.not_imp.1 hk
      obtain ⟨hUk, hk⟩ := Classical.not_imp.1 hk
      have hg : g k x = true := by simpa using hk
      have hkx : Way g n k x := .one hkn hx hg
      have hlt := countP_strict (p := fun j => U j && war g n j k) (q := fun j => U j && war g n j x) (L := List.range n) (fun j hj hp => by
        rw [Bool.and_eq_true] at hp ⊢
        exact ⟨hp.1, way_war ((war_way n (Nat.le_refl _) j k (List.mem_range.1 hj) hkn hp.2).trans hkx)⟩) (y := k) (List.mem_range.2 hkn) (by rw [hUk, way_war hkx]; rfl) (by
        cases hw : war g n k k
        · rw [Bool.and_false]
        · exact absurd (war_way n (Nat.le_refl _) k k hkn hkn hw) (hr k))
      match m, hm with
      | 0, hm => omega
      | m + 1, hm => exact least_in hr U m k hkn hUk (by omega)
theorem ord_some {g : Nat → Nat → Bool} {n : Nat} (hr : ∀ x, ¬ Way g n x x) : ∀ {m : Nat}, m ≤ n → ∃ L, ordG g n m = some L
  | 0, _ => ⟨[], rfl⟩
  | m + 1, hm => by
    obtain ⟨L, hL⟩ := ord_some hr (m := m) (by omega)
    obtain ⟨hl, ok⟩ := ordG_ok hL
    obtain ⟨x, hx, hxL⟩ : ∃ x, x < n ∧ x ∉ L := by
      refine Classical.byContradiction fun h => ?_
      have hsub : List.range n ⊆ L := fun x hx => Classical.byContradiction fun hxL => h ⟨x, List.mem_range.1 hx, hxL⟩
      have := sub_len List.nodup_range hsub
      simp at this
      omega
    obtain ⟨y, hy, hU, hn⟩ := least_in hr (fun i => !memB L i) _ x hx (by simp only [Bool.not_eq_true']; cases h : memB L x; rfl; exact absurd (memB_iff.1 h) hxL) (Nat.le_refl _)
    have hmay : mayG g n (memB L) y = true := by
      rw [mayG_iff]
      refine ⟨by simpa using hU, fun k hk hg => ?_⟩
      cases h : memB L k
      · have := hn k hk (by rw [h]; rfl)
        rw [hg] at this
        cases this
      · rfl
    rcases firstN_cases (mayG g n (memB L)) n with ⟨_, ha⟩ | ⟨i, _, e, _⟩
    · rw [ha y hy] at hmay; cases hmay
    · exact ⟨L ++ [i], by unfold ordG; rw [hL]; dsimp only; rw [e]⟩
/-- There is an order just if nothing goes round. -/
theorem ord_iff {g : Nat → Nat → Bool} {n : Nat} : (∃ L, ordG g n n = some L) ↔ ∀ x, ¬ Way g n x x := ⟨fun ⟨_, h⟩ _ => ord_none_round h, fun h => ord_some h (Nat.le_refl _)⟩
theorem ordG_up {g : Nat → Nat → Bool} {n m : Nat} (h : ordG g n m = none) : ∀ d, ordG g n (m + d) = none
  | 0 => h
  | d + 1 => by show ordG g n (m + d + 1) = none; unfold ordG; rw [ordG_up h d]

/-! ### groups -/
/-- The least one that a node is, or leads to and back. -/
def grpG (g : Nat → Nat → Bool) (n i : Nat) : Nat := (firstN (fun k => k == i || (war g n i k && war g n k i)) n).getD i
theorem grpG_spec (g : Nat → Nat → Bool) {n i : Nat} (hi : i < n) : grpG g n i ≤ i ∧ (grpG g n i = i ∨ (Way g n i (grpG g n i) ∧ Way g n (grpG g n i) i)) ∧ ∀ k, k < grpG g n i → ¬ (Way g n i k ∧ Way g n k i) := by
  unfold grpG
  rcases firstN_cases (fun k => k == i || (war g n i k && war g n k i)) n with ⟨_, ha⟩ | ⟨k, hk, e, hf, ha⟩
  · have := ha i hi; simp at this
  · rw [e]
    simp only [Option.getD_some]
    have hki : k ≤ i := by
      rcases Nat.lt_or_ge i k with h | h
      · have := ha i h; simp at this
      · exact h
    refine ⟨hki, ?_, fun j hj ⟨h1, h2⟩ => ?_⟩
    · rw [Bool.or_eq_true, beq_iff_eq, Bool.and_eq_true] at hf
      rcases hf with h | ⟨h1, h2⟩
      · exact .inl h
      · exact .inr ⟨war_way n (Nat.le_refl _) _ _ hi hk h1, war_way n (Nat.le_refl _) _ _ hk hi h2⟩
    · have := ha j hj
      rw [way_war h1, way_war h2] at this
      simp at this
/-- Something goes round just if two nodes are in one group, or one leads to itself. -/
theorem round_grp {g : Nat → Nat → Bool} {n : Nat} : (∃ x, Way g n x x) ↔ ∃ i, i < n ∧ (grpG g n i ≠ i ∨ g i i = true) := by
  constructor
  · rintro ⟨x, hw⟩
    have hx := hw.lt.1
    have key : ∀ j, Way g n x j → Way g n j x → j ≠ x → ∃ i, i < n ∧ (grpG g n i ≠ i ∨ g i i = true) := fun j h1 h2 hne => by
      rcases Nat.lt_or_gt_of_ne hne with h | h
      · refine ⟨x, hx, .inl fun e => ?_⟩
        exact (grpG_spec g hx).2.2 j (by rw [e]; exact h) ⟨h1, h2⟩
      · refine ⟨j, h1.lt.2, .inl fun e => ?_⟩
        exact (grpG_spec g h1.lt.2).2.2 x (by rw [e]; exact h) ⟨h2, h1⟩
    cases hw with
    | one _ _ hg => exact ⟨x, hx, .inr hg⟩
    | more h1 hk hg =>
      rename Nat => j
      by_cases e : j = x
      · subst e; exact ⟨j, hx, .inr hg⟩
      · exact key j h1 (.one h1.lt.2 hx hg) e
  · rintro ⟨i, hi, h | h⟩
    · rcases (grpG_spec g hi).2.1 with e | ⟨h1, h2⟩
      · exact absurd e h
      · exact ⟨i, h1.trans h2⟩
    · exact ⟨i, .one hi hi h⟩

/-! ### ways round -/
/-- A row of nodes, each leading to the next one. -/
def RdG (g : Nat → Nat → Bool) (n : Nat) (c : List Nat) : Prop := (∀ x ∈ c, x < n) ∧ ∀ i (h : i + 1 < c.length), g c[i] c[i + 1] = true
/-- A way round. -/
def CycG (g : Nat → Nat → Bool) (n : Nat) (c : List Nat) : Prop := RdG g n c ∧ ∃ h : 0 < c.length, g c[c.length - 1] c[0] = true
theorem row_way {g : Nat → Nat → Bool} {n : Nat} {c : List Nat} (h : RdG g n c) : ∀ j (hj : j < c.length), 0 < j → Way g n (c[0]'(by omega)) c[j]
  | 0, _, h0 => absurd h0 (by omega)
  | 1, hj, _ => .one (h.1 _ (List.getElem_mem _)) (h.1 _ (List.getElem_mem _)) (h.2 0 hj)
  | j + 2, hj, _ => .more (row_way h (j + 1) (by omega) (by omega)) (h.1 _ (List.getElem_mem _)) (h.2 (j + 1) hj)
theorem cyc_way {g : Nat → Nat → Bool} {n : Nat} {c : List Nat} (h : CycG g n c) : ∃ x, Way g n x x := by
  obtain ⟨hr, h0, hg⟩ := h
  by_cases e : c.length = 1
  · have e1 : c.length - 1 = 0 := by omega
    refine ⟨c[0], .one (hr.1 _ (List.getElem_mem _)) (hr.1 _ (List.getElem_mem _)) ?_⟩
    simpa [e1] using hg
  · exact ⟨c[0], .more (row_way hr (c.length - 1) (by omega) (by omega)) (hr.1 _ (List.getElem_mem _)) hg⟩
theorem way_row {g : Nat → Nat → Bool} {n i k : Nat} (h : Way g n i k) : ∃ c, RdG g n c ∧ ∃ hc : 0 < c.length, c[0] = i ∧ g c[c.length - 1] k = true := by
  induction h with
  | one hi hk hg => exact ⟨[i], ⟨fun x hx => by rw [List.mem_singleton.1 hx]; exact hi, fun j hj => by simp at hj⟩, by simp, rfl, hg⟩
  | more h1 hk hg ih =>
    rename_i j k
    obtain ⟨c, hr, hc, e, hgj⟩ := ih
    refine ⟨c ++ [j], ⟨fun x hx => ?_, fun a ha => ?_⟩, by simp, by rw [List.getElem_append_left hc]; exact e, ?_⟩
    · rcases List.mem_append.1 hx with hx | hx
      · exact hr.1 x hx
      · rw [List.mem_singleton.1 hx]; exact h1.lt.2
    · simp at ha
      by_cases e' : a + 1 < c.length
      · rw [List.getElem_append_left (by omega), List.getElem_append_left e']; exact hr.2 a e'
      · have : a = c.length - 1 := by omega
        subst this
        rw [List.getElem_append_left (by omega), List.getElem_append_right (by omega)]
        simpa using hgj
    · simpa using hg
theorem way_cyc {g : Nat → Nat → Bool} {n x : Nat} (h : Way g n x x) : ∃ c, CycG g n c := by
  obtain ⟨c, hr, hc, e, hg⟩ := way_row h
  exact ⟨c, hr, hc, by rw [e]; exact hg⟩
end Go.Proofs.YtaopigjhdkdklaaDoor

namespace Go.Proofs.YtaopigjhdkdklaaDoor

/-- By the first number in which they differ. -/
def lexL : List Nat → List Nat → Prop
  | x :: a, y :: b => x < y ∨ (x = y ∧ lexL a b)
  | _, _ => True
theorem lexL_refl : ∀ a, lexL a a
  | [] => trivial
  | _ :: a => .inr ⟨rfl, lexL_refl a⟩
theorem lexL_anti : ∀ {a b : List Nat}, a.length = b.length → lexL a b → lexL b a → a = b
  | [], [], _, _, _ => rfl
  | [], _ :: _, h, _, _ => by cases h
  | _ :: _, [], h, _, _ => by cases h
  | x :: a, y :: b, h, h1, h2 => by
    rcases h1 with h1 | ⟨rfl, h1⟩
    · rcases h2 with h2 | ⟨e, _⟩
      · omega
      · omega
    · rcases h2 with h2 | ⟨_, h2⟩
      · omega
      · rw [lexL_anti (by simpa using h) h1 h2]
theorem lexL_app : ∀ (w : List Nat) {a b : List Nat}, lexL a b → lexL (w ++ a) (w ++ b)
  | [], _, _, h => h
  | _ :: w, _, _, h => .inr ⟨rfl, lexL_app w h⟩

/-- The best way round: a shortest one, its least node first; of several the first. -/
structure BestC (g : Nat → Nat → Bool) (n : Nat) (c : List Nat) : Prop where
  cyc : CycG g n c
  short : ∀ d, CycG g n d → c.length ≤ d.length
  head : ∀ (h : 0 < c.length), ∀ x ∈ c, c[0] ≤ x
  first : ∀ d (h : 0 < d.length), CycG g n d → d.length = c.length → (∀ x ∈ d, d[0] ≤ x) → lexL c d
theorem BestC.one {g : Nat → Nat → Bool} {n : Nat} {c d : List Nat} (h1 : BestC g n c) (h2 : BestC g n d) : c = d := by
  have e : c.length = d.length := Nat.le_antisymm (h1.short d h2.cyc) (h2.short c h1.cyc)
  obtain ⟨_, hc, _⟩ := h1.cyc
  obtain ⟨_, hd, _⟩ := h2.cyc
  exact lexL_anti e (h1.first d hd h2.cyc e.symm (h2.head hd)) (h2.first c hc h1.cyc e (h1.head hc))

/-! ### a shortest one is simple, and may begin anywhere -/
theorem cyc_part {g : Nat → Nat → Bool} {n : Nat} {c : List Nat} (h : CycG g n c) {i j : Nat} (hij : i < j) (hj : j < c.length) (e : c[i] = c[j]) : CycG g n ((c.drop i).take (j - i)) := by
  obtain ⟨hr, _, _⟩ := h
  have hl : ((c.drop i).take (j - i)).length = j - i := by simp; omega
  have hat : ∀ a (ha : a < j - i), ((c.drop i).take (j - i))[a]'(by rw [hl]; exact ha) = c[i + a] := fun a ha => by simp
  refine ⟨⟨fun x hx => hr.1 x (List.mem_of_mem_drop (List.mem_of_mem_take hx)), fun a ha => ?_⟩, by rw [hl]; omega, ?_⟩
  · rw [hl] at ha
    rw [hat a (by omega), hat (a + 1) ha]
    exact hr.2 (i + a) (by omega)
  · rw [hat 0 (by omega)]
    have h2 : ((c.drop i).take (j - i))[((c.drop i).take (j - i)).length - 1]'(by rw [hl]; omega) = c[j - 1] := by
      have := hat (j - i - 1) (by omega)
      simp only [hl]
      rw [this]
      congr 1
      omega
    rw [h2]
    have h3 := hr.2 (j - 1) (by omega)
    have e1 : j - 1 + 1 = j := by omega
    simp only [e1] at h3
    have e2 : c[i + 0] = c[j] := by simpa using e
    rw [e2]
    exact h3
theorem cyc_simple {g : Nat → Nat → Bool} {n : Nat} {c : List Nat} (h : CycG g n c) (hs : ∀ d, CycG g n d → c.length ≤ d.length) : c.Nodup := by
  rw [List.Nodup, List.pairwise_iff_getElem]
  intro i j hi hj hij e
  have := hs _ (cyc_part h hij hj e)
  have hl : ((c.drop i).take (j - i)).length = j - i := by simp; omega
  rw [hl] at this
  omega
theorem cyc_turn {g : Nat → Nat → Bool} {n : Nat} {c : List Nat} (h : CycG g n c) {i : Nat} (hi : i < c.length) : CycG g n (c.drop i ++ c.take i) := by
  obtain ⟨hr, h0, hg⟩ := h
  have hl : (c.drop i ++ c.take i).length = c.length := by simp; omega
  have hat : ∀ a (ha : a < c.length), (c.drop i ++ c.take i)[a]'(by rw [hl]; exact ha) = if h : i + a < c.length then c[i + a] else c[i + a - c.length]'(by omega) := fun a ha => by
    split
    · rw [List.getElem_append_left (by simp; omega)]; simp
    · rw [List.getElem_append_right (by simp; omega)]
      simp
      congr 1
      omega
  refine ⟨⟨fun x hx => ?_, fun a ha => ?_⟩, by rw [hl]; exact h0, ?_⟩
  · rcases List.mem_append.1 hx with hx | hx
    · exact hr.1 x (List.mem_of_mem_drop hx)
    · exact hr.1 x (List.mem_of_mem_take hx)
  · rw [hl] at ha
    rw [hat a (by omega), hat (a + 1) ha]
    by_cases e1 : i + (a + 1) < c.length
    · rw [dif_pos (by omega), dif_pos e1]; exact hr.2 (i + a) e1
    · rw [dif_neg e1]
      by_cases e2 : i + a < c.length
      · rw [dif_pos e2]
        have e3 : i + a = c.length - 1 := by omega
        have e4 : i + (a + 1) - c.length = 0 := by omega
        simp only [e3, e4]
        exact hg
      · rw [dif_neg e2]
        have e3 : i + (a + 1) - c.length = (i + a - c.length) + 1 := by omega
        simp only [e3]
        exact hr.2 (i + a - c.length) (by omega)
  · have h1 := hat (c.length - 1) (by omega)
    have h2 := hat 0 (by omega)
    simp only [hl]
    rw [h1, h2]
    by_cases e1 : i = 0
    · subst e1
      rw [dif_pos (by omega), dif_pos (by omega)]
      simpa using hg
    · rw [dif_neg (by omega), dif_pos (by omega)]
      have e3 : i + (c.length - 1) - c.length = i - 1 := by omega
      simp only [e3]
      have := hr.2 (i - 1) (by omega)
      have e4 : i - 1 + 1 = i := by omega
      simp only [e4] at this
      simpa using this
theorem min_at : ∀ (c : List Nat), 0 < c.length → ∃ i, ∃ hi : i < c.length, ∀ x ∈ c, c[i] ≤ x
  | [], h => absurd h (by simp)
  | [a], _ => ⟨0, by simp, fun x hx => by rw [List.mem_singleton.1 hx]; exact Nat.le_refl _⟩
  | a :: b :: c, _ => by
    obtain ⟨i, hi, hm⟩ := min_at (b :: c) (by simp)
    by_cases e : a ≤ (b :: c)[i]
    · refine ⟨0, by simp, fun x hx => ?_⟩
      rcases List.mem_cons.1 hx with rfl | hx
      · exact Nat.le_refl _
      · exact Nat.le_trans e (hm x hx)
    · refine ⟨i + 1, by simpa using hi, fun x hx => ?_⟩
      rcases List.mem_cons.1 hx with rfl | hx
      · exact Nat.le_of_lt (Nat.lt_of_not_le e)
      · exact hm x hx
/-- Where something goes round, a shortest way round begins at its least node. -/
theorem cyc_short {g : Nat → Nat → Bool} {n x : Nat} (h : Way g n x x) : ∃ c, CycG g n c ∧ (∀ d, CycG g n d → c.length ≤ d.length) ∧ ∀ (h : 0 < c.length), ∀ x ∈ c, c[0] ≤ x := by
  obtain ⟨c0, hc0⟩ := way_cyc h
  have hex : ∃ m, ∃ c, CycG g n c ∧ c.length = m := ⟨_, c0, hc0, rfl⟩
  have hmin : ∀ m, (∃ c, CycG g n c ∧ c.length = m) → ∃ c, CycG g n c ∧ ∀ d, CycG g n d → c.length ≤ d.length := by
    intro m
    induction m using Nat.strongRecOn with
    | _ m ih =>
      rintro ⟨c, hc, hl⟩
      by_cases hs : ∀ d, CycG g n d → c.length ≤ d.length
      · exact ⟨c, hc, hs⟩
      · obtain ⟨d, hd⟩ := Classical.not_forall.1 hs
        obtain ⟨hd, hlt⟩ := Classical.not_imp.1 hd
        exact ih d.length (by omega) ⟨d, hd, rfl⟩
  obtain ⟨m, hm⟩ := hex
  obtain ⟨c, hc, hs⟩ := hmin m hm
  obtain ⟨i, hi, hmi⟩ := min_at c hc.2.1
  have hl : (c.drop i ++ c.take i).length = c.length := by simp; omega
  refine ⟨c.drop i ++ c.take i, cyc_turn hc hi, fun d hd => by rw [hl]; exact hs d hd, fun h0 x hx => ?_⟩
  rw [List.getElem_append_left (by simp; omega)]
  simp only [List.getElem_drop, Nat.add_zero]
  refine hmi x ?_
  rcases List.mem_append.1 hx with hx | hx
  · exact List.mem_of_mem_drop hx
  · exact List.mem_of_mem_take hx

/-! ### the document's search -/
def cycT (g : Nat → Nat → Bool) (way : List Nat) (k : Nat) : Bool := decide (way.headD 0 < k) && g (way.getLastD 0) k && !memB way k
/-- On from a row of nodes, so many more. -/
def cycW (g : Nat → Nat → Bool) (n : Nat) : Nat → List Nat → Option (List Nat)
  | 0, way => if g (way.getLastD 0) (way.headD 0) then some way else none
  | f + 1, way => (List.range n).findSome? fun k => if cycT g way k then cycW g n f (way ++ [k]) else none
/-- What it looks for. -/
structure ExtC (g : Nat → Nat → Bool) (n : Nat) (f : Nat) (way c : List Nat) : Prop where
  app : ∃ e : List Nat, c = way ++ e ∧ e.length = f ∧ ∀ x ∈ e, way.headD 0 < x
  cyc : CycG g n c
  nd : c.Nodup
theorem getLastD_at {c : List Nat} (h : 0 < c.length) : c.getLastD 0 = c[c.length - 1] := by
  rw [List.getLastD_eq_getLast?, List.getLast?_eq_getElem?, List.getElem?_eq_getElem (by omega)]; rfl
theorem headD_at {c : List Nat} (h : 0 < c.length) : c.headD 0 = c[0] := by
  cases c with
  | nil => simp at h
  | cons a c => rfl
theorem findSome_cases {α : Type} (F : Nat → Option α) : ∀ n, ((List.range n).findSome? F = none ∧ ∀ k, k < n → F k = none) ∨ ∃ k c, k < n ∧ (List.range n).findSome? F = some c ∧ F k = some c ∧ ∀ j, j < k → F j = none
  | 0 => .inl ⟨rfl, fun k hk => absurd hk (by omega)⟩
  | n + 1 => by
    rw [List.range_succ, List.findSome?_append]
    rcases findSome_cases F n with ⟨e, ha⟩ | ⟨k, c, hk, e, hf, ha⟩
    · rw [e]
      cases hF : F n with
      | none =>
        refine .inl ⟨by simp [hF], fun k hk => ?_⟩
        by_cases h : k = n
        · rw [h]; exact hF
        · exact ha k (by omega)
      | some c => exact .inr ⟨n, c, by omega, by simp [hF], hF, ha⟩
    · rw [e]
      exact .inr ⟨k, c, by omega, rfl, hf, ha⟩
theorem cycW_spec {g : Nat → Nat → Bool} {n : Nat} : ∀ (f : Nat) (way : List Nat), 0 < way.length → RdG g n way → way.Nodup → (∀ x ∈ way, way.headD 0 ≤ x) →
    (∀ c, cycW g n f way = some c → ExtC g n f way c ∧ ∀ d, ExtC g n f way d → lexL c d) ∧ (cycW g n f way = none → ∀ d, ¬ ExtC g n f way d)
  | 0, way, h0, hr, hnd, _ => by
    have hd : ∀ d, ExtC g n 0 way d → d = way := fun d ⟨⟨e, h1, h2, _⟩, _, _⟩ => by
      have : e = [] := List.length_eq_zero_iff.1 h2
      rw [h1, this, List.append_nil]
    unfold cycW
    cases hg : g (way.getLastD 0) (way.headD 0)
    · refine ⟨fun c hc => by simp at hc, fun _ d h => ?_⟩
      obtain rfl := hd d h
      obtain ⟨_, h1, h2⟩ := h.cyc
      rw [getLastD_at h0, headD_at h0, h2] at hg
      cases hg
    · refine ⟨fun c hc => ?_, fun hc => by simp at hc⟩
      have e : way = c := by simpa using hc
      subst e
      exact ⟨⟨⟨[], by simp, rfl, fun x hx => by cases hx⟩, ⟨hr, h0, by rw [← getLastD_at h0, ← headD_at h0]; exact hg⟩, hnd⟩, fun d h => by rw [hd d h]; exact lexL_refl _⟩
  | f + 1, way, h0, hr, hnd, hmin => by
    have hnext : ∀ k, k < n → cycT g way k = true → RdG g n (way ++ [k]) ∧ (way ++ [k]).Nodup ∧ (way ++ [k]).headD 0 = way.headD 0 ∧ ∀ x ∈ way ++ [k], (way ++ [k]).headD 0 ≤ x := fun k hk ht => by
      unfold cycT at ht
      simp only [Bool.and_eq_true, decide_eq_true_eq, Bool.not_eq_true'] at ht
      obtain ⟨⟨h1, h2⟩, h3⟩ := ht
      have hh : (way ++ [k]).headD 0 = way.headD 0 := by
        cases way with
        | nil => simp at h0
        | cons a w => rfl
      have hnk : k ∉ way := fun h => by rw [memB_iff.2 h] at h3; cases h3
      refine ⟨⟨fun x hx => ?_, fun a ha => ?_⟩, ?_, hh, fun x hx => ?_⟩
      · rcases List.mem_append.1 hx with hx | hx
        · exact hr.1 x hx
        · rw [List.mem_singleton.1 hx]; exact hk
      · simp at ha
        by_cases e : a + 1 < way.length
        · rw [List.getElem_append_left (by omega), List.getElem_append_left e]; exact hr.2 a e
        · have : a = way.length - 1 := by omega
          subst this
          rw [List.getElem_append_left (by omega), List.getElem_append_right (by omega)]
          rw [getLastD_at h0] at h2
          simpa using h2
      · rw [List.nodup_append]
        exact ⟨hnd, by simp, fun a ha b hb => by rw [List.mem_singleton.1 hb]; intro e; exact hnk (e ▸ ha)⟩
      · rw [hh]
        rcases List.mem_append.1 hx with hx | hx
        · exact hmin x hx
        · rw [List.mem_singleton.1 hx]; omega
    have hup : ∀ k, k < n → cycT g way k = true → ∀ d, ExtC g n f (way ++ [k]) d → ExtC g n (f + 1) way d := fun k hk ht d ⟨⟨e, h1, h2, h3⟩, hc, hn⟩ => by
      refine ⟨⟨k :: e, by rw [h1]; simp, by simp [h2], fun x hx => ?_⟩, hc, hn⟩
      rw [(hnext k hk ht).2.2.1] at h3
      rcases List.mem_cons.1 hx with rfl | hx
      · unfold cycT at ht
        simp only [Bool.and_eq_true, decide_eq_true_eq] at ht
        exact ht.1.1
      · exact h3 x hx
    have hdown : ∀ d, ExtC g n (f + 1) way d → ∃ k, k < n ∧ cycT g way k = true ∧ ExtC g n f (way ++ [k]) d ∧ ∃ e, d = way ++ (k :: e) := fun d ⟨⟨e, h1, h2, h3⟩, hc, hn⟩ => by
      cases e with
      | nil => simp at h2
      | cons k e =>
        have hkd : k ∈ d := by rw [h1]; simp
        have hk : k < n := hc.1.1 k hkd
        have ht : cycT g way k = true := by
          unfold cycT
          simp only [Bool.and_eq_true, decide_eq_true_eq, Bool.not_eq_true']
          refine ⟨⟨h3 k (List.mem_cons_self ..), ?_⟩, ?_⟩
          · have := hc.1.2 (way.length - 1) (by rw [h1]; simp; omega)
            rw [getLastD_at h0]
            have e1 : way.length - 1 + 1 = way.length := by omega
            simp only [h1, e1] at this
            rw [List.getElem_append_left (by omega), List.getElem_append_right (Nat.le_refl _)] at this
            simpa using this
          · cases hin : memB way k
            · rfl
            · rw [h1, List.nodup_append] at hn
              exact absurd rfl (hn.2.2 k (memB_iff.1 hin) k (List.mem_cons_self ..))
        refine ⟨k, hk, ht, ⟨⟨e, by rw [h1]; simp, by simpa using h2, fun x hx => ?_⟩, hc, hn⟩, e, h1⟩
        rw [(hnext k hk ht).2.2.1]
        exact h3 x (List.mem_cons_of_mem _ hx)
    unfold cycW
    rcases findSome_cases (fun k => if cycT g way k then cycW g n f (way ++ [k]) else none) n with ⟨e, ha⟩ | ⟨k, c, hk, e, hf, ha⟩
    · rw [e]
      refine ⟨fun c hc => (by cases hc), fun _ d hd => ?_⟩
      obtain ⟨k, hk, ht, hx, _⟩ := hdown d hd
      have := ha k hk
      simp only [ht, if_true] at this
      obtain ⟨h1, h2, _, h4⟩ := hnext k hk ht
      exact (cycW_spec f (way ++ [k]) (by simp) h1 h2 h4).2 this d hx
    · rw [e]
      refine ⟨fun c' hc => ?_, fun hc => by cases hc⟩
      obtain rfl := Option.some.inj hc
      have ht : cycT g way k = true := by
        cases h : cycT g way k
        · simp [h] at hf
        · rfl
      simp only [ht, if_true] at hf
      obtain ⟨h1, h2, h3, h4⟩ := hnext k hk ht
      obtain ⟨hx, hlex⟩ := (cycW_spec f (way ++ [k]) (by simp) h1 h2 h4).1 c hf
      refine ⟨hup k hk ht c hx, fun d hd => ?_⟩
      obtain ⟨k', hk', ht', hx', e', he'⟩ := hdown d hd
      rcases Nat.lt_trichotomy k k' with h | h | h
      · obtain ⟨⟨e1, h11, _, _⟩, _, _⟩ := hx
        rw [h11, he', List.append_assoc]
        exact lexL_app way (.inl h)
      · subst h; exact hlex d hx'
      · have := ha k' h
        simp only [ht', if_true] at this
        obtain ⟨h1', h2', _, h4'⟩ := hnext k' hk' ht'
        exact absurd hx' ((cycW_spec f (way ++ [k']) (by simp) h1' h2' h4').2 this d)
/-- Of one length: from each node in turn. -/
def cycL (g : Nat → Nat → Bool) (n m : Nat) : Option (List Nat) := (List.range n).findSome? fun i => cycW g n (m - 1) [i]
/-- From the shortest on. -/
def cycD (g : Nat → Nat → Bool) (n : Nat) : Option (List Nat) := (List.range n).findSome? fun m => cycL g n (m + 1)
theorem one_row {g : Nat → Nat → Bool} {n i : Nat} (hi : i < n) : RdG g n [i] := ⟨fun x hx => by rw [List.mem_singleton.1 hx]; exact hi, fun a ha => by simp at ha⟩
theorem ext_of {g : Nat → Nat → Bool} {n m : Nat} {d : List Nat} (h : CycG g n d) (hnd : d.Nodup) (hm : d.length = m + 1) (hh : ∀ (h : 0 < d.length), ∀ x ∈ d, d[0] ≤ x) : ∃ i, i < n ∧ ExtC g n m [i] d ∧ ∃ e, d = i :: e := by
  cases d with
  | nil => simp at hm
  | cons i e =>
    refine ⟨i, h.1.1 i (List.mem_cons_self ..), ⟨⟨e, rfl, by simpa using hm, fun x hx => ?_⟩, h, hnd⟩, e, rfl⟩
    have h1 := hh (by simp) x (List.mem_cons_of_mem _ hx)
    have h2 : i ≠ x := fun e' => (List.nodup_cons.1 hnd).1 (e' ▸ hx)
    show i < x
    simp at h1
    omega
theorem cycL_spec {g : Nat → Nat → Bool} {n m : Nat} : (∀ c, cycL g n (m + 1) = some c → CycG g n c ∧ c.length = m + 1 ∧ (∀ (h : 0 < c.length), ∀ x ∈ c, c[0] ≤ x) ∧ ∀ d, CycG g n d → d.Nodup → d.length = m + 1 → (∀ (h : 0 < d.length), ∀ x ∈ d, d[0] ≤ x) → lexL c d) ∧ (cycL g n (m + 1) = none → ∀ d, CycG g n d → d.Nodup → d.length = m + 1 → ¬ ∀ (h : 0 < d.length), ∀ x ∈ d, d[0] ≤ x) := by
  have hsp : ∀ i, i < n → _ := fun i hi => cycW_spec (g := g) (n := n) m [i] (by simp) (one_row hi) (by simp) (fun x hx => by rw [List.mem_singleton.1 hx]; exact Nat.le_refl _)
  unfold cycL
  rw [Nat.add_sub_cancel]
  rcases findSome_cases (fun i => cycW g n m [i]) n with ⟨e, ha⟩ | ⟨i, c, hi, e, hf, ha⟩
  · rw [e]
    refine ⟨fun c hc => (by cases hc), fun _ d hd hnd hl hh => ?_⟩
    obtain ⟨i, hi, hx, _⟩ := ext_of hd hnd hl hh
    exact (hsp i hi).2 (ha i hi) d hx
  · rw [e]
    refine ⟨fun c' hc => ?_, fun hc => by cases hc⟩
    obtain rfl := Option.some.inj hc
    obtain ⟨hx, hlex⟩ := (hsp i hi).1 c hf
    obtain ⟨⟨e1, h1, h2, h3⟩, hcy, hnd⟩ := hx
    refine ⟨hcy, by rw [h1]; simp [h2], fun h0 x hxc => ?_, fun d hd hdn hl hh => ?_⟩
    · subst h1
      simp only [List.singleton_append, List.getElem_cons_zero]
      rcases List.mem_cons.1 hxc with rfl | hxc
      · exact Nat.le_refl _
      · exact Nat.le_of_lt (h3 x hxc)
    · obtain ⟨k, hk, hx', e', he'⟩ := ext_of hd hdn hl hh
      rcases Nat.lt_trichotomy i k with h | h | h
      · rw [h1, he']; exact .inl h
      · subst h; exact hlex d hx'
      · exact absurd hx' ((hsp k hk).2 (ha k h) d)
theorem cyc_few {g : Nat → Nat → Bool} {n : Nat} {c : List Nat} (h : CycG g n c) (hn : c.Nodup) : c.length ≤ n := by
  have := sub_len hn fun x hx => List.mem_range.2 (h.1.1 x hx)
  simpa using this
/-- The document's search tells the best one, or that nothing goes round. -/
theorem cycD_spec (g : Nat → Nat → Bool) (n : Nat) : (∃ c, cycD g n = some c ∧ BestC g n c) ∨ (cycD g n = none ∧ ∀ x, ¬ Way g n x x) := by
  unfold cycD
  rcases findSome_cases (fun m => cycL g n (m + 1)) n with ⟨e, ha⟩ | ⟨m, c, hm, e, hf, ha⟩
  · refine .inr ⟨e, fun x hw => ?_⟩
    obtain ⟨c, hc, hs, hh⟩ := cyc_short hw
    have hnd := cyc_simple hc hs
    have hl := cyc_few hc hnd
    have h0 := hc.2.1
    exact cycL_spec.2 (ha (c.length - 1) (by omega)) c hc hnd (by omega) hh
  · obtain ⟨hc, hl, hh, hlex⟩ := cycL_spec.1 c hf
    have hs : ∀ d, CycG g n d → c.length ≤ d.length := fun d hd => by
      obtain ⟨x, hw⟩ := cyc_way hd
      obtain ⟨b, hb, hbs, hbh⟩ := cyc_short hw
      have hnd := cyc_simple hb hbs
      have h0 := hb.2.1
      have h1 := hbs d hd
      refine Classical.byContradiction fun hlt => ?_
      exact cycL_spec.2 (ha (b.length - 1) (by omega)) b hb hnd (by omega) hbh
    exact .inl ⟨c, e, ⟨hc, hs, hh, fun d h0 hd hdl hdh => hlex d hd (cyc_simple hd fun b hb => by rw [hdl]; exact hs b hb) (by omega) (fun _ => hdh)⟩⟩
end Go.Proofs.YtaopigjhdkdklaaDoor

namespace Go.Proofs.YtaopigjhdkdklaaDoor

/-- A way over m roads, the nodes between below t. -/
inductive WayT (g : Nat → Nat → Bool) (n t : Nat) : Nat → Nat → Nat → Prop
  | one {i k : Nat} (hi : i < n) (hk : k < n) (h : g i k = true) : WayT g n t 1 i k
  | more {m i j k : Nat} (h1 : WayT g n t m i j) (hj : j < t) (hk : k < n) (h : g j k = true) : WayT g n t (m + 1) i k
theorem WayT.lt {g : Nat → Nat → Bool} {n t m i k : Nat} (h : WayT g n t m i k) : i < n ∧ k < n ∧ 0 < m := by
  induction h with
  | one hi hk _ => exact ⟨hi, hk, Nat.one_pos⟩
  | more _ _ hk _ ih => exact ⟨ih.1, hk, Nat.succ_pos _⟩
theorem WayT.up {g : Nat → Nat → Bool} {n t s m i k : Nat} (h : WayT g n t m i k) (hs : t ≤ s) : WayT g n s m i k := by
  induction h with
  | one hi hk h => exact .one hi hk h
  | more _ hj hk h ih => exact .more ih (by omega) hk h
theorem WayT.trans {g : Nat → Nat → Bool} {n t a b i j k : Nat} (h1 : WayT g n t a i j) (hj : j < t) (h2 : WayT g n t b j k) : WayT g n t (a + b) i k := by
  induction h2 with
  | one _ hk h => exact .more h1 hj hk h
  | more _ hj' hk h ih => exact .more (ih h1 hj) hj' hk h
theorem WayT.split {g : Nat → Nat → Bool} {n t m i k : Nat} (ht : t < n) (h : WayT g n (t + 1) m i k) : (∃ m', m' ≤ m ∧ WayT g n t m' i k) ∨ ∃ a b, a + b ≤ m ∧ WayT g n t a i t ∧ WayT g n t b t k := by
  induction h with
  | one hi hk h => exact .inl ⟨1, Nat.le_refl _, .one hi hk h⟩
  | more h1 hj hk h ih =>
    rename_i m i j k
    rcases ih with ⟨m', hm, h2⟩ | ⟨a, b, hm, h2, h3⟩
    · by_cases e : j < t
      · exact .inl ⟨m' + 1, by omega, .more h2 e hk h⟩
      · obtain rfl : j = t := by omega
        exact .inr ⟨m', 1, by omega, h2, .one ht hk h⟩
    · by_cases e : j < t
      · exact .inr ⟨a, b + 1, by omega, h2, .more h3 e hk h⟩
      · obtain rfl : j = t := by omega
        have := h3.lt
        exact .inr ⟨a, 1, by omega, h2, .one ht hk h⟩
theorem WayT.front {g : Nat → Nat → Bool} {n m i k : Nat} (h : WayT g n n m i k) : (m = 1 ∧ g i k = true) ∨ ∃ m' j, m = m' + 1 ∧ j < n ∧ g i j = true ∧ WayT g n n m' j k := by
  induction h with
  | one hi hk h => exact .inl ⟨rfl, h⟩
  | more h1 hj hk h ih =>
    rename_i m i j k
    rcases ih with ⟨rfl, hg⟩ | ⟨m', j', rfl, hj', hg, h2⟩
    · exact .inr ⟨1, j, rfl, hj, hg, .one hj hk h⟩
    · exact .inr ⟨m' + 1, j', rfl, hj', hg, .more h2 hj hk h⟩
theorem wayT_way {g : Nat → Nat → Bool} {n t m i k : Nat} (h : WayT g n t m i k) : Way g n i k := by
  induction h with
  | one hi hk h => exact .one hi hk h
  | more _ _ hk h ih => exact .more ih hk h
theorem way_wayT {g : Nat → Nat → Bool} {n i k : Nat} (h : Way g n i k) : ∃ m, WayT g n n m i k := by
  induction h with
  | one hi hk h => exact ⟨1, .one hi hk h⟩
  | more h1 hk h ih =>
    obtain ⟨m, h2⟩ := ih
    exact ⟨m + 1, .more h2 h1.lt.2 hk h⟩

/-- A pass over t. -/
def fwS (D : Nat → Nat → Nat) (t : Nat) : Nat → Nat → Nat := fun i k => if 0 < D i t ∧ 0 < D t k ∧ (D i k = 0 ∨ D i t + D t k < D i k) then D i t + D t k else D i k
def fwD (g : Nat → Nat → Bool) : Nat → Nat → Nat → Nat
  | 0 => fun i k => if g i k = true then 1 else 0
  | t + 1 => fwS (fwD g t) t
theorem fwS_row (D : Nat → Nat → Nat) (t k : Nat) : fwS D t t k = D t k := by
  unfold fwS
  rw [if_neg]
  omega
theorem fwS_col (D : Nat → Nat → Nat) (t i : Nat) : fwS D t i t = D i t := by
  unfold fwS
  rw [if_neg]
  omega
theorem fwD_ok {g : Nat → Nat → Bool} {n : Nat} : ∀ t, t ≤ n → ∀ i k, i < n → k < n → (0 < fwD g t i k → WayT g n t (fwD g t i k) i k) ∧ ∀ m, WayT g n t m i k → 0 < fwD g t i k ∧ fwD g t i k ≤ m
  | 0, _, i, k, hi, hk => by
    unfold fwD
    by_cases e : g i k = true
    · rw [if_pos e]
      exact ⟨fun _ => .one hi hk e, fun m h => ⟨Nat.one_pos, h.lt.2.2⟩⟩
    · rw [if_neg e]
      refine ⟨fun h => absurd h (by omega), fun m h => ?_⟩
      cases h with
      | one _ _ h => exact absurd h e
      | more _ hj _ _ => exact absurd hj (by omega)
  | t + 1, ht, i, k, hi, hk => by
    have ih := fwD_ok (g := g) (n := n) t (by omega)
    have h1 := ih i k hi hk
    have h2 := ih i t hi (by omega)
    have h3 := ih t k (by omega) hk
    unfold fwD fwS
    generalize fwD g t i k = d at *
    generalize fwD g t i t = a at *
    generalize fwD g t t k = b at *
    by_cases e : 0 < a ∧ 0 < b ∧ (d = 0 ∨ a + b < d)
    · rw [if_pos e]
      refine ⟨fun _ => WayT.trans ((h2.1 e.1).up (Nat.le_succ _)) (by omega) ((h3.1 e.2.1).up (Nat.le_succ _)), fun m h => ⟨by omega, ?_⟩⟩
      rcases h.split (by omega) with ⟨m', hm, h4⟩ | ⟨x, y, hm, h4, h5⟩
      · have := h1.2 m' h4; omega
      · have := h2.2 x h4; have := h3.2 y h5; omega
    · rw [if_neg e]
      refine ⟨fun h => (h1.1 h).up (Nat.le_succ _), fun m h => ?_⟩
      rcases h.split (by omega) with ⟨m', hm, h4⟩ | ⟨x, y, hm, h4, h5⟩
      · have := h1.2 m' h4; omega
      · have := h2.2 x h4; have := h3.2 y h5; omega
/-- Over how many roads at the fewest. -/
def farG (g : Nat → Nat → Bool) (n : Nat) : Nat → Nat → Nat := fwD g n
theorem far_way {g : Nat → Nat → Bool} {n i k : Nat} (hi : i < n) (hk : k < n) (h : 0 < farG g n i k) : WayT g n n (farG g n i k) i k := (fwD_ok n (Nat.le_refl _) i k hi hk).1 h
theorem far_le {g : Nat → Nat → Bool} {n m i k : Nat} (h : WayT g n n m i k) : 0 < farG g n i k ∧ farG g n i k ≤ m := (fwD_ok n (Nat.le_refl _) i k h.lt.1 h.lt.2.1).2 m h
theorem far_war {g : Nat → Nat → Bool} {n i k : Nat} (hi : i < n) (hk : k < n) : decide (0 < farG g n i k) = war g n i k := by
  have h := war_iff (R := g) hi hk
  cases e : war g n i k
  · refine decide_eq_false fun h0 => ?_
    rw [h.2 (wayT_way (far_way hi hk h0))] at e
    cases e
  · obtain ⟨m, hm⟩ := way_wayT (h.1 e)
    exact decide_eq_true (far_le hm).1
theorem fwD_most {g : Nat → Nat → Bool} : ∀ t i k, fwD g t i k ≤ 2 ^ t
  | 0, i, k => by unfold fwD; split <;> omega
  | t + 1, i, k => by
    have h1 := fwD_most (g := g) t i k
    have h2 := fwD_most (g := g) t i t
    have h3 := fwD_most (g := g) t t k
    unfold fwD fwS
    rw [Nat.pow_succ]
    split <;> omega

/-! ### the least node that leads back over the fewest roads -/
def NearT (D : Nat → Nat → Nat) (m : Nat) (x : Int) : Prop := (x = -1 ∧ ∀ i, i < m → D i i = 0) ∨ ∃ b : Nat, x = (b : Int) ∧ b < m ∧ 0 < D b b ∧ (∀ j, j < m → 0 < D j j → D b b ≤ D j j) ∧ ∀ j, j < b → 0 < D j j → D b b < D j j
theorem NearT.zero (D : Nat → Nat → Nat) : NearT D 0 (-1) := .inl ⟨rfl, fun i hi => absurd hi (by omega)⟩
theorem NearT.keep {D : Nat → Nat → Nat} {m : Nat} {x : Int} (h : NearT D m x) (hm : D m m = 0 ∨ ∃ b : Nat, x = (b : Int) ∧ D b b ≤ D m m) : NearT D (m + 1) x := by
  rcases h with ⟨rfl, h⟩ | ⟨b, rfl, h1, h2, h3, h4⟩
  · refine .inl ⟨rfl, fun i hi => ?_⟩
    by_cases e : i = m
    · subst e
      rcases hm with h | ⟨b, hb, _⟩
      · exact h
      · omega
    · exact h i (by omega)
  · refine .inr ⟨b, rfl, by omega, h2, fun j hj h0 => ?_, h4⟩
    by_cases e : j = m
    · subst e
      rcases hm with h | ⟨b', hb, h⟩
      · omega
      · obtain rfl : b = b' := by omega
        exact h
    · exact h3 j (by omega) h0
theorem NearT.take {D : Nat → Nat → Nat} {m : Nat} {x : Int} (h : NearT D m x) (h0 : 0 < D m m) (hm : x = -1 ∨ ∃ b : Nat, x = (b : Int) ∧ D m m < D b b) : NearT D (m + 1) (m : Int) := by
  refine .inr ⟨m, rfl, by omega, h0, fun j hj hj0 => ?_, fun j hj hj0 => ?_⟩
  · by_cases e : j = m
    · subst e; exact Nat.le_refl _
    · rcases h with ⟨rfl, h⟩ | ⟨b, rfl, h1, h2, h3, h4⟩
      · have := h j (by omega); omega
      · rcases hm with hm | ⟨b', hb, hm⟩
        · omega
        · obtain rfl : b = b' := by omega
          have := h3 j (by omega) hj0
          omega
  · rcases h with ⟨rfl, h⟩ | ⟨b, rfl, h1, h2, h3, h4⟩
    · have := h j (by omega); omega
    · rcases hm with hm | ⟨b', hb, hm⟩
      · omega
      · obtain rfl : b = b' := by omega
        have := h3 j (by omega) hj0
        omega

/-! ### the way round, node by node -/
structure PartC (g : Nat → Nat → Bool) (n f : Nat) (c : List Nat) (left : Nat) : Prop where
  pos : 0 < c.length
  head : c[0] = f
  rd : RdG g n c
  len : c.length + left = farG g n f f
  far : ∀ i (h : i < c.length), 0 < i → farG g n c[i] f = farG g n f f - i
  least : ∀ i (h : i + 1 < c.length), ∀ x, x < c[i + 1] → ¬ (g c[i] x = true ∧ farG g n x f = farG g n f f - (i + 1))
theorem way_seg {g : Nat → Nat → Bool} {n : Nat} {c : List Nat} (h : RdG g n c) {i : Nat} : ∀ d (hj : i + d + 1 < c.length), WayT g n n (d + 1) c[i] c[i + d + 1]
  | 0, hj => .one (h.1 _ (List.getElem_mem _)) (h.1 _ (List.getElem_mem _)) (h.2 i hj)
  | d + 1, hj => .more (way_seg h d (by omega)) (h.1 _ (List.getElem_mem _)) (h.1 _ (List.getElem_mem _)) (h.2 (i + d + 1) hj)
theorem cyc_seg {g : Nat → Nat → Bool} {n : Nat} {c : List Nat} (h : CycG g n c) {i : Nat} (hi : i < c.length) : WayT g n n (c.length - i) c[i] (c[0]'(by omega)) := by
  obtain ⟨hr, h0, hg⟩ := h
  by_cases e : i = c.length - 1
  · subst e
    rw [show c.length - (c.length - 1) = 1 by omega]
    exact .one (hr.1 _ (List.getElem_mem _)) (hr.1 _ (List.getElem_mem _)) hg
  · have h1 := way_seg hr (i := i) (c.length - 1 - i - 1) (by omega)
    have h2 : WayT g n n (c.length - 1 - i - 1 + 1 + 1) c[i] (c[0]'(by omega)) := .more h1 (hr.1 _ (List.getElem_mem _)) (hr.1 _ (List.getElem_mem _)) (by
      have e2 : i + (c.length - 1 - i - 1) + 1 = c.length - 1 := by omega
      simpa only [e2] using hg)
    rwa [show c.length - 1 - i - 1 + 1 + 1 = c.length - i by omega] at h2
theorem PartC.start {g : Nat → Nat → Bool} {n f : Nat} (hf : f < n) (h0 : 0 < farG g n f f) : PartC g n f [f] (farG g n f f - 1) :=
  ⟨by simp, rfl, one_row hf, by simp; omega, fun i h h0 => by simp at h; omega, fun i h => by simp at h⟩
theorem PartC.last {g : Nat → Nat → Bool} {n f left : Nat} {c : List Nat} (h : PartC g n f c left) : farG g n (c[c.length - 1]'(by have := h.pos; omega)) f = left + 1 := by
  have hp := h.pos
  have hl := h.len
  by_cases e : c.length = 1
  · have e1 : c.length - 1 = 0 := by omega
    simp only [e1]
    rw [h.head]; omega
  · rw [h.far (c.length - 1) (by omega) (by omega)]; omega
/-- There is a next one. -/
theorem PartC.some {g : Nat → Nat → Bool} {n f left : Nat} {c : List Nat} (hf : f < n) (h : PartC g n f c (left + 1)) : ∃ x, x < n ∧ g (c[c.length - 1]'(by have := h.pos; omega)) x = true ∧ farG g n x f = left + 1 := by
  have hp := h.pos
  have h1 := h.last
  have hlt := h.rd.1 _ (List.getElem_mem (show c.length - 1 < c.length by omega))
  generalize c[c.length - 1] = y at h1 hlt
  have h2 := far_way hlt hf (by rw [h1]; omega)
  rw [h1] at h2
  rcases h2.front with ⟨e, _⟩ | ⟨m', j, e, hj, hg, h3⟩
  · omega
  · refine ⟨j, hj, hg, ?_⟩
    have h4 := far_le h3
    have h5 := far_le (WayT.trans (WayT.one hlt hj hg) hj (far_way hj hf h4.1))
    omega
theorem PartC.next {g : Nat → Nat → Bool} {n f left : Nat} {c : List Nat} (h : PartC g n f c (left + 1)) {x : Nat} (hx : x < n) (hg : g (c[c.length - 1]'(by have := h.pos; omega)) x = true) (hf : farG g n x f = left + 1) (hl : ∀ y, y < x → ¬ (g (c[c.length - 1]'(by have := h.pos; omega)) y = true ∧ farG g n y f = left + 1)) : PartC g n f (c ++ [x]) left := by
  have hp := h.pos
  have hlen := h.len
  refine ⟨by simp, by rw [List.getElem_append_left hp]; exact h.head, ⟨fun y hy => ?_, fun i hi => ?_⟩, by simp; omega, fun i hi h0 => ?_, fun i hi y hy => ?_⟩
  · rcases List.mem_append.1 hy with hy | hy
    · exact h.rd.1 y hy
    · rw [List.mem_singleton.1 hy]; exact hx
  · simp at hi
    by_cases e : i + 1 < c.length
    · rw [List.getElem_append_left (by omega), List.getElem_append_left e]; exact h.rd.2 i e
    · obtain rfl : i = c.length - 1 := by omega
      rw [List.getElem_append_left (by omega), List.getElem_append_right (by omega)]
      simpa using hg
  · simp at hi
    by_cases e : i < c.length
    · rw [List.getElem_append_left e]; exact h.far i e h0
    · obtain rfl : i = c.length := by omega
      rw [List.getElem_append_right (by omega)]
      simp
      omega
  · simp at hi
    by_cases e : i + 1 < c.length
    · rw [List.getElem_append_left (by omega)]
      rw [List.getElem_append_left e] at hy
      exact h.least i e y hy
    · obtain rfl : i = c.length - 1 := by omega
      rw [List.getElem_append_left (by omega)]
      rw [List.getElem_append_right (by omega)] at hy
      have e2 : farG g n f f - (c.length - 1 + 1) = left + 1 := by omega
      rw [e2]
      exact hl y (by simpa using hy)
theorem lexL_of : ∀ {a b : List Nat}, (he : a.length = b.length) → (∀ i (hi : i < a.length), (∀ j (hj : j < i), a[j] = b[j]'(by omega)) → a[i] ≤ b[i]'(by omega)) → lexL a b
  | [], [], _, _ => lexL_refl []
  | x :: a, y :: b, he, h => by
    have h0 := h 0 (by simp) (fun j hj => absurd hj (by omega))
    simp at h0
    by_cases e : x = y
    · subst e
      refine .inr ⟨rfl, lexL_of (by simpa using he) fun i hi hj => ?_⟩
      have := h (i + 1) (by simpa using hi) (fun j hj' => by
        cases j with
        | zero => rfl
        | succ j => simpa using hj j (by omega))
      simpa using this
    · exact .inl (by omega)
theorem PartC.best {g : Nat → Nat → Bool} {n f : Nat} {c : List Nat} (hf : f < n) (h : PartC g n f c 0) (hm : ∀ j, j < n → 0 < farG g n j j → farG g n f f ≤ farG g n j j) (hl : ∀ j, j < f → 0 < farG g n j j → farG g n f f < farG g n j j) : BestC g n c := by
  have hp := h.pos
  have hlen := h.len
  have hc : CycG g n c := by
    refine ⟨h.rd, hp, ?_⟩
    have h1 := h.last
    have hlt := h.rd.1 _ (List.getElem_mem (show c.length - 1 < c.length by omega))
    rw [h.head]
    generalize c[c.length - 1] = y at h1 hlt ⊢
    have h2 := far_way hlt hf (by rw [h1]; omega)
    rw [h1] at h2
    rcases h2.front with ⟨_, e⟩ | ⟨m', j, e, _, _, h3⟩
    · exact e
    · have := h3.lt; omega
  have hlow : ∀ d (h0 : 0 < d.length), CycG g n d → 0 < farG g n d[0] d[0] ∧ farG g n d[0] d[0] ≤ d.length ∧ d[0] < n := fun d h0 hd => by
    have := cyc_seg hd h0
    exact ⟨(far_le this).1, (far_le this).2, this.lt.1⟩
  refine ⟨hc, fun d hd => ?_, fun _ x hx => ?_, fun d h0 hd he hhd => ?_⟩
  · have h0 := hd.2.1
    have h1 := hlow d h0 hd
    have := hm d[0] h1.2.2 h1.1
    omega
  · rw [h.head]
    obtain ⟨i, hi, rfl⟩ := List.getElem_of_mem hx
    apply Nat.le_of_not_lt
    intro hlt
    have ht := cyc_turn hc hi
    have h0 : 0 < (c.drop i ++ c.take i).length := by simp; omega
    have h1 := hlow _ h0 ht
    have e : (c.drop i ++ c.take i)[0] = c[i] := by
      rw [List.getElem_append_left (by simp; omega)]
      simp
    rw [e] at h1
    have e2 : (c.drop i ++ c.take i).length = c.length := by simp; omega
    have := hl _ hlt h1.1
    omega
  · have h1 := hlow d h0 hd
    refine lexL_of he.symm fun i hi hj => ?_
    cases i with
    | zero =>
      rw [h.head]
      apply Nat.le_of_not_lt
      intro hlt
      have := hl _ hlt h1.1
      omega
    | succ i =>
      have e0 : f = d[0] := by rw [← h.head]; exact hj 0 (by omega)
      have ei := hj i (by omega)
      apply Nat.le_of_not_lt
      intro hlt
      refine h.least i hi _ hlt ⟨by rw [ei]; exact hd.1.2 i (by omega), ?_⟩
      have h2 := cyc_seg hd (i := i + 1) (by omega)
      rw [← e0] at h2
      have h3 := far_le h2
      have h4 := way_seg hd.1 (i := 0) i (by omega)
      have h5 := WayT.trans h4 (hd.1.1 _ (List.getElem_mem _)) (by simpa using far_way h2.lt.1 hf h3.1)
      have h6 := far_le h5
      rw [← e0] at h6
      have e3 : 0 + i + 1 = i + 1 := by omega
      omega
/-- No way round: none leads back. -/
theorem near_none {g : Nat → Nat → Bool} {n : Nat} (h : ∀ i, i < n → farG g n i i = 0) : ∀ x, ¬ Way g n x x := fun x hw => by
  obtain ⟨m, hm⟩ := way_wayT hw
  have := far_le hm
  have := h x hm.lt.1
  omega
theorem best_way {g : Nat → Nat → Bool} {n : Nat} {c : List Nat} (h : BestC g n c) : ∃ x, Way g n x x := cyc_way h.cyc
end Go.Proofs.YtaopigjhdkdklaaDoor

namespace Go.Proofs.YtaopigjhdkdklaaDoor

/-! ### a search in order -/
def dfsW (T : List Nat → Nat → Bool) (F : List Nat → Bool) (n : Nat) : Nat → List Nat → Option (List Nat)
  | 0, way => if F way then some way else none
  | f + 1, way => (List.range n).findSome? fun k => if T way k then dfsW T F n f (way ++ [k]) else none
def ExtT (T : List Nat → Nat → Bool) (F : List Nat → Bool) (n : Nat) : Nat → List Nat → List Nat → Prop
  | 0, way, c => c = way ∧ F way = true
  | f + 1, way, c => ∃ k, k < n ∧ T way k = true ∧ ExtT T F n f (way ++ [k]) c
theorem extT_app {T : List Nat → Nat → Bool} {F : List Nat → Bool} {n : Nat} : ∀ {f : Nat} {way c : List Nat}, ExtT T F n f way c → ∃ e, c = way ++ e ∧ e.length = f
  | 0, way, c, h => ⟨[], by rw [h.1]; simp, rfl⟩
  | f + 1, way, c, ⟨k, _, _, h⟩ => by
    obtain ⟨e, h1, h2⟩ := extT_app h
    exact ⟨k :: e, by rw [h1]; simp, by simp [h2]⟩
theorem dfsW_spec {T : List Nat → Nat → Bool} {F : List Nat → Bool} {n : Nat} : ∀ (f : Nat) (way : List Nat), (∀ c, dfsW T F n f way = some c → ExtT T F n f way c ∧ ∀ d, ExtT T F n f way d → lexL c d) ∧ (dfsW T F n f way = none → ∀ d, ¬ ExtT T F n f way d)
  | 0, way => by
    unfold dfsW
    cases hF : F way
    · exact ⟨fun c hc => (by simp at hc), fun _ d h => by rw [h.2] at hF; cases hF⟩
    · refine ⟨fun c hc => ?_, fun hc => (by simp at hc)⟩
      have e : way = c := by simpa using hc
      subst e
      exact ⟨⟨rfl, hF⟩, fun d h => by rw [h.1]; exact lexL_refl _⟩
  | f + 1, way => by
    unfold dfsW
    rcases findSome_cases (fun k => if T way k then dfsW T F n f (way ++ [k]) else none) n with ⟨e, ha⟩ | ⟨k, c, hk, e, hf, ha⟩
    · rw [e]
      refine ⟨fun c hc => (by cases hc), fun _ d ⟨k, hk, ht, hd⟩ => ?_⟩
      have := ha k hk
      simp only [ht, if_true] at this
      exact (dfsW_spec f (way ++ [k])).2 this d hd
    · rw [e]
      refine ⟨fun c' hc => ?_, fun hc => (by cases hc)⟩
      obtain rfl := Option.some.inj hc
      have ht : T way k = true := by
        cases h : T way k
        · simp [h] at hf
        · rfl
      simp only [ht, if_true] at hf
      obtain ⟨hx, hlex⟩ := (dfsW_spec f (way ++ [k])).1 c hf
      refine ⟨⟨k, hk, ht, hx⟩, fun d ⟨k', hk', ht', hx'⟩ => ?_⟩
      rcases Nat.lt_trichotomy k k' with h | h | h
      · obtain ⟨e1, h1, _⟩ := extT_app hx
        obtain ⟨e2, h2, _⟩ := extT_app hx'
        rw [h1, h2, List.append_assoc, List.append_assoc]
        exact lexL_app way (.inl h)
      · subst h; exact hlex d hx'
      · have := ha k' h
        simp only [ht', if_true] at this
        exact absurd hx' ((dfsW_spec f (way ++ [k'])).2 this d)
/-- Rows of unlike ones out of some. -/
def pickT (I : Nat → Bool) (way : List Nat) (k : Nat) : Bool := I k && !memB way k
theorem pick_ext {I : Nat → Bool} {F : List Nat → Bool} {n : Nat} : ∀ {f : Nat} {way c : List Nat}, ExtT (pickT I) F n f way c ↔ F c = true ∧ ∃ e, c = way ++ e ∧ e.length = f ∧ e.Nodup ∧ ∀ x ∈ e, x < n ∧ I x = true ∧ x ∉ way
  | 0, way, c => by
    constructor
    · rintro ⟨rfl, h⟩; exact ⟨h, [], by simp, rfl, List.nodup_nil, fun x hx => by cases hx⟩
    · rintro ⟨h, e, h1, h2, _⟩
      have : e = [] := List.length_eq_zero_iff.1 h2
      rw [this, List.append_nil] at h1
      exact ⟨h1, h1 ▸ h⟩
  | f + 1, way, c => by
    constructor
    · rintro ⟨k, hk, ht, h⟩
      obtain ⟨hF, e, h1, h2, h3, h4⟩ := pick_ext.1 h
      unfold pickT at ht
      rw [Bool.and_eq_true, Bool.not_eq_true'] at ht
      have hkw : k ∉ way := fun h => by rw [memB_iff.2 h] at ht; cases ht.2
      refine ⟨hF, k :: e, by rw [h1]; simp, by simp [h2], List.nodup_cons.2 ⟨fun h => (h4 k h).2.2 (by simp), h3⟩, fun x hx => ?_⟩
      rcases List.mem_cons.1 hx with rfl | hx
      · exact ⟨hk, ht.1, hkw⟩
      · exact ⟨(h4 x hx).1, (h4 x hx).2.1, fun h => (h4 x hx).2.2 (List.mem_append.2 (.inl h))⟩
    · rintro ⟨hF, e, h1, h2, h3, h4⟩
      cases e with
      | nil => simp at h2
      | cons k e =>
        obtain ⟨hk, hI, hw⟩ := h4 k (List.mem_cons_self ..)
        refine ⟨k, hk, ?_, pick_ext.2 ⟨hF, e, by rw [h1]; simp, by simpa using h2, (List.nodup_cons.1 h3).2, fun x hx => ?_⟩⟩
        · unfold pickT
          rw [hI]
          cases h : memB way k
          · rfl
          · exact absurd (memB_iff.1 h) hw
        · obtain ⟨h5, h6, h7⟩ := h4 x (List.mem_cons_of_mem _ hx)
          refine ⟨h5, h6, fun h => ?_⟩
          rcases List.mem_append.1 h with h | h
          · exact h7 h
          · rw [List.mem_singleton.1 h] at hx; exact (List.nodup_cons.1 h3).1 hx

/-! ### ahead in a list -/
/-- The one stands ahead of the other one. -/
def Bef {α : Type} (l : List α) (a b : α) : Prop := List.Sublist [a, b] l
section
variable {α : Type}
theorem bef_mem {l : List α} {a b : α} (h : Bef l a b) : a ∈ l ∧ b ∈ l := ⟨h.subset (by simp), h.subset (by simp)⟩
theorem bef_cons {l : List α} {x a b : α} : Bef (x :: l) a b ↔ (a = x ∧ b ∈ l) ∨ Bef l a b := by
  unfold Bef
  constructor
  · intro h
    cases h with
    | cons _ h => exact .inr h
    | cons_cons _ h => exact .inl ⟨rfl, List.singleton_sublist.1 h⟩
  · rintro (⟨rfl, h⟩ | h)
    · exact (List.singleton_sublist.2 h).cons_cons a
    · exact h.cons x
theorem bef_app {l m : List α} {a b : α} : Bef (l ++ m) a b ↔ Bef l a b ∨ (a ∈ l ∧ b ∈ m) ∨ Bef m a b := by
  induction l with
  | nil => simp [Bef]
  | cons x l ih =>
    rw [List.cons_append, bef_cons, ih, bef_cons]
    simp only [List.mem_append, List.mem_cons]
    constructor
    · rintro (⟨rfl, h | h⟩ | h | h | h)
      · exact .inl (.inl ⟨rfl, h⟩)
      · exact .inr (.inl ⟨.inl rfl, h⟩)
      · exact .inl (.inr h)
      · exact .inr (.inl ⟨.inr h.1, h.2⟩)
      · exact .inr (.inr h)
    · rintro ((⟨rfl, h⟩ | h) | ⟨rfl | h, h'⟩ | h)
      · exact .inl ⟨rfl, .inl h⟩
      · exact .inr (.inl h)
      · exact .inl ⟨rfl, .inr h'⟩
      · exact .inr (.inr (.inl ⟨h, h'⟩))
      · exact .inr (.inr (.inr h))
theorem bef_total : ∀ {l : List α} {a b : α}, a ∈ l → b ∈ l → a ≠ b → Bef l a b ∨ Bef l b a
  | x :: l, a, b, ha, hb, hne => by
    rcases List.mem_cons.1 ha with rfl | ha
    · rcases List.mem_cons.1 hb with rfl | hb
      · exact absurd rfl hne
      · exact .inl (bef_cons.2 (.inl ⟨rfl, hb⟩))
    · rename a ∈ l => ha'
      rcases List.mem_cons.1 hb with rfl | hb
      · exact .inr (bef_cons.2 (.inl ⟨rfl, ha'⟩))
      · rcases bef_total ha' hb hne with h | h
        · exact .inl (bef_cons.2 (.inr h))
        · exact .inr (bef_cons.2 (.inr h))
theorem bef_irr : ∀ {l : List α} {a : α}, l.Nodup → ¬ Bef l a a
  | [], a, _, h => by cases h
  | x :: l, a, hn, h => by
    rcases bef_cons.1 h with ⟨rfl, h'⟩ | h'
    · exact (List.nodup_cons.1 hn).1 h'
    · exact bef_irr (List.nodup_cons.1 hn).2 h'
theorem bef_asym : ∀ {l : List α} {a b : α}, l.Nodup → Bef l a b → ¬ Bef l b a
  | [], a, b, _, h, _ => by cases h
  | x :: l, a, b, hn, h1, h2 => by
    obtain ⟨hx, hn⟩ := List.nodup_cons.1 hn
    rcases bef_cons.1 h1 with ⟨rfl, h3⟩ | h3
    · rcases bef_cons.1 h2 with ⟨rfl, h4⟩ | h4
      · exact hx h3
      · exact hx (bef_mem h4).2
    · rcases bef_cons.1 h2 with ⟨rfl, h4⟩ | h4
      · exact hx (bef_mem h3).2
      · exact bef_asym hn h3 h4
theorem bef_filter {l : List α} {p : α → Bool} {a b : α} : Bef (l.filter p) a b ↔ Bef l a b ∧ p a = true ∧ p b = true := by
  constructor
  · intro h
    have hm := bef_mem h
    exact ⟨h.trans List.filter_sublist, (List.mem_filter.1 hm.1).2, (List.mem_filter.1 hm.2).2⟩
  · rintro ⟨h, ha, hb⟩
    have := h.filter p
    unfold Bef
    rwa [List.filter_cons_of_pos ha, List.filter_cons_of_pos hb, List.filter_nil] at this
end

/-! ### one behind the other -/
section
variable {α : Type} (tx : α → Nat)
/-- The steps of some transactions, one transaction behind the other. -/
def serL (d : List α) : List Nat → List α
  | [] => []
  | t :: ord => d.filter (fun s => tx s == t) ++ serL d ord
theorem serL_mem {d : List α} {s : α} : ∀ {ord : List Nat}, s ∈ serL tx d ord ↔ s ∈ d ∧ tx s ∈ ord
  | [] => by simp [serL]
  | t :: ord => by
    show s ∈ d.filter (fun s => tx s == t) ++ serL tx d ord ↔ _
    rw [List.mem_append, serL_mem, List.mem_filter, beq_iff_eq, List.mem_cons]
    constructor
    · rintro (⟨h1, h2⟩ | ⟨h1, h2⟩)
      · exact ⟨h1, .inl h2⟩
      · exact ⟨h1, .inr h2⟩
    · rintro ⟨h1, h2 | h2⟩
      · exact .inl ⟨h1, h2⟩
      · exact .inr ⟨h1, h2⟩
theorem serL_bef {d : List α} {a b : α} : ∀ {ord : List Nat}, ord.Nodup → (Bef (serL tx d ord) a b ↔ (tx a = tx b ∧ tx a ∈ ord ∧ Bef d a b) ∨ (Bef ord (tx a) (tx b) ∧ a ∈ d ∧ b ∈ d))
  | [], _ => by
    constructor
    · intro h; cases h
    · rintro (⟨_, h, _⟩ | ⟨h, _⟩) <;> cases h
  | t :: ord, hn => by
    obtain ⟨ht, hn⟩ := List.nodup_cons.1 hn
    show Bef (d.filter (fun s => tx s == t) ++ serL tx d ord) a b ↔ _
    rw [bef_app, bef_filter, serL_bef hn, serL_mem, List.mem_filter, beq_iff_eq, beq_iff_eq, bef_cons, List.mem_cons]
    constructor
    · rintro (⟨h, h1, h2⟩ | ⟨⟨h1, h2⟩, h3, h4⟩ | ⟨h1, h2, h3⟩ | ⟨h1, h2, h3⟩)
      · exact .inl ⟨h1.trans h2.symm, .inl h1, h⟩
      · exact .inr ⟨.inl ⟨h2, h4⟩, h1, h3⟩
      · exact .inl ⟨h1, .inr h2, h3⟩
      · exact .inr ⟨.inr h1, h2, h3⟩
    · rintro (⟨h1, h2 | h2, h3⟩ | ⟨⟨h1, h2⟩ | h1, h3, h4⟩)
      · exact .inl ⟨h3, h2, h1 ▸ h2⟩
      · exact .inr (.inr (.inl ⟨h1, h2, h3⟩))
      · exact .inr (.inl ⟨⟨h3, h1⟩, h4, h2⟩)
      · exact .inr (.inr (.inr ⟨h1, h3, h4⟩))

/-- A relation of clashing that is the same both ways, between unlike transactions alone. -/
structure Clash (cl : α → α → Bool) : Prop where
  sym : ∀ a b, cl a b = cl b a
  ne : ∀ a b, cl a b = true → tx a ≠ tx b
def GrS (cl : α → α → Bool) (d : List α) (i k : Nat) : Prop := ∃ a b, Bef d a b ∧ tx a = i ∧ tx b = k ∧ cl a b = true
/-- BERNSTEIN: one behind the other, in an order that keeps the graph, they clash as they do. -/
theorem ser_graph {cl : α → α → Bool} (hc : Clash tx cl) {d : List α} {ord : List Nat} (hn : ord.Nodup) (hk : ∀ i k, GrS tx cl d i k → Bef ord i k) (i k : Nat) : GrS tx cl (serL tx d ord) i k ↔ GrS tx cl d i k := by
  constructor
  · rintro ⟨a, b, h, rfl, rfl, hcl⟩
    rcases (serL_bef tx hn).1 h with ⟨e, _⟩ | ⟨ho, ha, hb⟩
    · exact absurd e (hc.ne a b hcl)
    · rcases bef_total ha hb (fun e => hc.ne a b hcl (by rw [e])) with h | h
      · exact ⟨a, b, h, rfl, rfl, hcl⟩
      · exact absurd (hk _ _ ⟨b, a, h, rfl, rfl, by rw [hc.sym]; exact hcl⟩) (bef_asym hn ho)
  · rintro ⟨a, b, h, rfl, rfl, hcl⟩
    have hm := bef_mem h
    exact ⟨a, b, (serL_bef tx hn).2 (.inr ⟨hk _ _ ⟨a, b, h, rfl, rfl, hcl⟩, hm.1, hm.2⟩), rfl, rfl, hcl⟩
/-- Of two steps that clash, or are of one transaction, the same one stands ahead. -/
theorem ser_keeps {cl : α → α → Bool} (hc : Clash tx cl) {d : List α} {ord : List Nat} (hn : ord.Nodup) (hall : ∀ s ∈ d, tx s ∈ ord) (hk : ∀ i k, GrS tx cl d i k → Bef ord i k) {a b : α} (h : tx a = tx b ∨ cl a b = true) : Bef (serL tx d ord) a b ↔ Bef d a b := by
  rw [serL_bef tx hn]
  rcases h with h | h
  · constructor
    · rintro (⟨_, _, h3⟩ | ⟨ho, _, _⟩)
      · exact h3
      · rw [h] at ho; exact absurd ho (bef_irr hn)
    · exact fun h3 => .inl ⟨h, hall a (bef_mem h3).1, h3⟩
  · constructor
    · rintro (⟨e, _⟩ | ⟨ho, ha, hb⟩)
      · exact absurd e (hc.ne a b h)
      · rcases bef_total ha hb (fun e => hc.ne a b h (by rw [e])) with h' | h'
        · exact h'
        · exact absurd (hk _ _ ⟨b, a, h', rfl, rfl, by rw [hc.sym]; exact h⟩) (bef_asym hn ho)
    · exact fun h3 => .inr ⟨hk _ _ ⟨a, b, h3, rfl, rfl, h⟩, (bef_mem h3).1, (bef_mem h3).2⟩
end

/-! ### who is read -/
section
variable {α : Type}
/-- The last one of some kind ahead of a step (of all, where there is none). -/
def LastB (d : List α) (W : α → Bool) (r w : α) : Prop := Bef d w r ∧ W w = true ∧ ∀ v, Bef d v r → W v = true → v = w ∨ Bef d v w
def LastE (d : List α) (W : α → Bool) (w : α) : Prop := w ∈ d ∧ W w = true ∧ ∀ v, v ∈ d → W v = true → v = w ∨ Bef d v w
theorem lastB_keeps {d e : List α} {W : α → Bool} {r w : α} (hr : ∀ v, W v = true → (Bef e v r ↔ Bef d v r)) (hw : ∀ v u, W v = true → W u = true → (Bef e v u ↔ Bef d v u)) : LastB e W r w ↔ LastB d W r w := by
  constructor
  · rintro ⟨h1, h2, h3⟩
    exact ⟨(hr w h2).1 h1, h2, fun v hv hW => (h3 v ((hr v hW).2 hv) hW).imp id (hw v w hW h2).1⟩
  · rintro ⟨h1, h2, h3⟩
    exact ⟨(hr w h2).2 h1, h2, fun v hv hW => (h3 v ((hr v hW).1 hv) hW).imp id (hw v w hW h2).2⟩
theorem lastE_keeps {d e : List α} {W : α → Bool} {w : α} (hm : ∀ v, v ∈ e ↔ v ∈ d) (hw : ∀ v u, W v = true → W u = true → (Bef e v u ↔ Bef d v u)) : LastE e W w ↔ LastE d W w := by
  constructor
  · rintro ⟨h1, h2, h3⟩
    exact ⟨(hm w).1 h1, h2, fun v hv hW => (h3 v ((hm v).2 hv) hW).imp id (hw v w hW h2).1⟩
  · rintro ⟨h1, h2, h3⟩
    exact ⟨(hm w).2 h1, h2, fun v hv hW => (h3 v ((hm v).1 hv) hW).imp id (hw v w hW h2).2⟩
theorem lastB_one {d : List α} (hn : d.Nodup) {W : α → Bool} {r w v : α} (h1 : LastB d W r w) (h2 : LastB d W r v) : w = v := by
  rcases h2.2.2 w h1.1 h1.2.1 with e | e
  · exact e
  · rcases h1.2.2 v h2.1 h2.2.1 with e' | e'
    · exact e'.symm
    · exact absurd e' (bef_asym hn e)
end
end Go.Proofs.YtaopigjhdkdklaaDoor

namespace Go.Proofs.YtaopigjhdkdklaaDoor

structure IOp where
  wr : Bool
  key : Int
  frm : Int
  num : Int
structure ITx where
  ops : List IOp
  com : Bool
structure ISt where
  txs : List ITx
  ord : List (List Int)
/-- How often one writes a key. -/
def wroT (t : ITx) (key : Int) : Nat := t.ops.countP fun o => o.wr && o.key == key
def txI (s : ISt) (t : Int) : ITx := s.txs.getD t.toNat ⟨[], false⟩
def comI (s : ISt) (t : Int) : Bool := (txI s t).com
def wroI (s : ISt) (t key : Int) : Nat := wroT (txI s t) key
def lstK (s : ISt) (key : Int) : List Int := s.ord.getD key.toNat []
/-- Who stands right behind one in a key's list (-1: at its head). -/
def behI (s : ISt) (key t : Int) : Option Int := (lstK s key)[if 0 ≤ t then (lstK s key).idxOf t + 1 else 0]?
/-- Of a key: those that commit and write it, each once. -/
structure IOrd (s : ISt) : Prop where
  nodup : ∀ key, 0 ≤ key → key < 8 → (lstK s key).Nodup
  mem : ∀ key t, 0 ≤ key → key < 8 → (t ∈ lstK s key ↔ (0 ≤ t ∧ t < s.txs.length) ∧ comI s t = true ∧ 0 < wroI s t key)
/-- What is read was written. -/
def IRead (s : ISt) (o : IOp) : Prop := (0 ≤ o.key ∧ o.key < 8) ∧ (o.frm = -1 ∨ (0 ≤ o.frm ∧ o.frm < s.txs.length ∧ 0 ≤ o.num ∧ o.num < wroI s o.frm o.key))
def OvR (s : ISt) (i k : Int) : Prop := ∃ key, (0 ≤ key ∧ key < 8) ∧ ∃ j : Nat, (lstK s key)[j]? = some i ∧ (lstK s key)[j + 1]? = some k
def SeR (s : ISt) (i k : Int) : Prop := comI s k = true ∧ ∃ o ∈ (txI s k).ops, o.wr = false ∧ o.frm = i ∧ 0 ≤ i ∧ comI s i = true ∧ i ≠ k ∧ o.num + 1 = wroI s i o.key
def AnR (s : ISt) (i k : Int) : Prop := comI s i = true ∧ ∃ o ∈ (txI s i).ops, o.wr = false ∧ (o.frm < 0 ∨ comI s o.frm = true) ∧ behI s o.key o.frm = some k ∧ k ≠ i

theorem bef_at {α : Type} {a b : α} : ∀ {l : List α} {p q : Nat} (hq : q < l.length) (hp : p < q), l[p]'(by omega) = a → l[q] = b → Bef l a b
  | x :: l, 0, q + 1, hq, _, h1, h2 => by
    rw [bef_cons]
    exact .inl ⟨h1.symm, by rw [← h2]; exact List.getElem_mem _⟩
  | x :: l, p + 1, q + 1, hq, hp, h1, h2 => by
    rw [bef_cons]
    exact .inr (bef_at (l := l) (p := p) (q := q) (by simpa using hq) (by omega) h1 h2)
theorem bef_tr {α : Type} : ∀ {l : List α} {a b c : α}, l.Nodup → Bef l a b → Bef l b c → Bef l a c
  | [], _, _, _, _, h1, _ => by cases h1
  | x :: l, a, b, c, hn, h1, h2 => by
    rw [List.nodup_cons] at hn
    rw [bef_cons] at h1 h2 ⊢
    rcases h1 with ⟨rfl, hb⟩ | h1
    · rcases h2 with ⟨rfl, _⟩ | h2
      · exact absurd hb hn.1
      · exact .inl ⟨rfl, (bef_mem h2).2⟩
    · rcases h2 with ⟨rfl, _⟩ | h2
      · exact absurd (bef_mem h1).2 hn.1
      · exact .inr (bef_tr hn.2 h1 h2)
/-- Who, of some, writes a key last. -/
def lasW (s : ISt) (M : List Int) (key : Int) : Int := M.foldl (fun o t => if 0 < wroI s t key then t else o) (-1)
theorem lasW_app (s : ISt) (M : List Int) (t key : Int) : lasW s (M ++ [t]) key = if 0 < wroI s t key then t else lasW s M key := by simp [lasW]
theorem lasW_none {s : ISt} {key : Int} : ∀ {M : List Int}, (∀ t ∈ M, wroI s t key = 0) → lasW s M key = -1 := fun {M} => by
  rw [← M.reverse_reverse]
  induction M.reverse with
  | nil => intro _; rfl
  | cons a t ih =>
    intro h
    rw [List.reverse_cons] at h ⊢
    rw [lasW_app, h a (by simp), if_neg (by omega)]
    exact ih fun u hu => h u (List.mem_append_left _ hu)
theorem lasW_some {s : ISt} {key f : Int} : ∀ {M : List Int}, M.Nodup → f ∈ M → 0 < wroI s f key → (∀ t ∈ M, 0 < wroI s t key → t = f ∨ Bef M t f) → lasW s M key = f := fun {M} => by
  rw [← M.reverse_reverse]
  induction M.reverse with
  | nil => intro _ h; simp at h
  | cons a t ih =>
    intro hn hf hw h
    rw [List.reverse_cons] at hn hf h ⊢
    rw [lasW_app]
    have hna : a ∉ t.reverse := fun hx => (List.nodup_append.1 hn).2.2 a hx a (by simp) rfl
    by_cases ha : 0 < wroI s a key
    · rw [if_pos ha]
      rcases h a (by simp) ha with e | hb
      · exact e
      · exfalso
        rw [bef_app] at hb
        rcases hb with hb | ⟨hb, _⟩ | hb
        · exact hna (bef_mem hb).1
        · exact hna hb
        · cases hb with
          | cons _ h' => cases h'
          | cons_cons _ h' => cases h'
    · rw [if_neg ha]
      have hfm : f ∈ t.reverse := by
        rcases List.mem_append.1 hf with h' | h'
        · exact h'
        · rw [List.mem_singleton] at h'
          subst h'
          exact absurd hw ha
      refine ih (List.nodup_append.1 hn).1 hfm hw fun u hu hu' => ?_
      rcases h u (List.mem_append_left _ hu) hu' with e | hb
      · exact .inl e
      · rw [bef_app] at hb
        rcases hb with hb | ⟨_, hb⟩ | hb
        · exact .inr hb
        · rw [List.mem_singleton] at hb
          subst hb
          exact absurd hw ha
        · cases hb with
          | cons _ h' => cases h'
          | cons_cons _ h' => cases h'
/-- What stands behind in a key's list comes behind in an order that keeps Over. -/
theorem ov_bef {s : ISt} {L : List Int} (hn : L.Nodup) (hO : ∀ i k, OvR s i k → Bef L i k) {key : Int} (h0 : 0 ≤ key) (h8 : key < 8) {p : Nat} : ∀ {q : Nat} (hq : q < (lstK s key).length) (hp : p < q), Bef L ((lstK s key)[p]'(by omega)) (lstK s key)[q]
  | q + 1, hq, hp => by
    have h1 : Bef L ((lstK s key)[q]'(by omega)) (lstK s key)[q + 1] := hO _ _ ⟨key, ⟨h0, h8⟩, q, List.getElem?_eq_getElem (by omega), List.getElem?_eq_getElem hq⟩
    by_cases e : p = q
    · subst e; exact h1
    · exact bef_tr hn (ov_bef hn hO h0 h8 (q := q) (by omega) (by omega)) h1
/-- ONE COPY: in an order that keeps all edges, whoever commits reads what those ahead of it wrote last. -/
theorem replayI {s : ISt} (hok : IOrd s) {L : List Int} (hn : L.Nodup) (hpos : ∀ u ∈ L, 0 ≤ u) (hO : ∀ i k, OvR s i k → Bef L i k) (hS : ∀ i k, SeR s i k → Bef L i k) (hA : ∀ i k, AnR s i k → Bef L i k)
    {t : Int} (hc : comI s t = true) {A B : List Int} (hL : L = A ++ t :: B) {o : IOp} (ho : o ∈ (txI s t).ops) (hw : o.wr = false) (hr : IRead s o) (hft : o.frm ≠ t)
    (hAb : 0 ≤ o.frm → comI s o.frm = true) (hBt : 0 ≤ o.frm → o.num + 1 = wroI s o.frm o.key) :
    o.frm = lasW s (A.filter (comI s)) o.key := by
  have hAn : (A.filter (comI s)).Nodup := by
    rw [hL] at hn
    exact (List.nodup_append.1 hn).1.sublist List.filter_sublist
  have hbt : ∀ u ∈ A, Bef L u t := fun u hu => by rw [hL, bef_app]; exact .inr (.inl ⟨hu, by simp⟩)
  have hir : ∀ {u}, u ∈ A → ¬ Bef L t u := fun {u} hu h => bef_asym hn (hbt u hu) h
  have hne : ∀ {u}, u ∈ A → u ≠ t := fun {u} hu e => by subst e; exact bef_irr hn (hbt u hu)
  obtain ⟨⟨k0, k8⟩, hfr⟩ := hr
  -- a writer ahead of t doesn't stand at or behind the place behind what is read
  have key : ∀ {p : Nat} {u : Int}, (∀ b, (lstK s o.key)[p]? = some b → b ≠ t → Bef L t b) → u ∈ A → ∀ q (hq : q < (lstK s o.key).length), (lstK s o.key)[q] = u → q < p := fun {p u} hnx hu q hq e => by
    refine Classical.byContradiction fun hle => ?_
    have hp : p < (lstK s o.key).length := by omega
    have hb : Bef L t u := by
      by_cases et : (lstK s o.key)[p] = t
      · have hpq : p < q := by
          rcases Nat.lt_or_ge p q with h | h
          · exact h
          · have : p = q := by omega
            subst this
            exact absurd (e.symm.trans et) (hne hu)
        rw [← et, ← e]
        exact ov_bef hn hO k0 k8 hq hpq
      · have h1 := hnx _ (List.getElem?_eq_getElem hp) et
        rcases Nat.lt_or_ge p q with h | h
        · exact bef_tr hn h1 (by rw [← e]; exact ov_bef hn hO k0 k8 hq h)
        · have : p = q := by omega
          subst this
          rw [← e]; exact h1
    exact hir hu hb
  have hmem : ∀ u, u ∈ A.filter (comI s) → 0 < wroI s u o.key → (0 ≤ u ∧ u < s.txs.length) → u ∈ lstK s o.key := fun u hu hw hr => (hok.mem o.key u k0 k8).2 ⟨hr, (List.mem_filter.1 hu).2, hw⟩
  have hrng : ∀ u, 0 < wroI s u o.key → comI s u = true → u < s.txs.length := fun u _ hcu => by
    refine Classical.byContradiction fun h => ?_
    unfold comI txI at hcu
    rw [List.getD_eq_getElem?_getD, List.getElem?_eq_none (by omega)] at hcu
    cases hcu
  have hin : ∀ u, u ∈ A.filter (comI s) → 0 < wroI s u o.key → u ∈ lstK s o.key := fun u hu hw =>
    hmem u hu hw ⟨hpos u (by rw [hL]; exact List.mem_append_left _ (List.mem_filter.1 hu).1), hrng u hw (List.mem_filter.1 hu).2⟩
  rcases hfr with e1 | ⟨f0, f1, n0, n1⟩
  · rw [lasW_none fun u hu => ?_, e1]
    refine Classical.byContradiction fun h => ?_
    have hw' : 0 < wroI s u o.key := by omega
    obtain ⟨q, hq, e⟩ := List.getElem_of_mem (hin u hu hw')
    have := key (p := 0) (u := u) (fun b hb hbt' => hA t b ⟨hc, o, ho, hw, .inl (by omega), by unfold behI; rw [if_neg (by omega)]; exact hb, hbt'⟩) (List.mem_filter.1 hu).1 q hq e
    omega
  · have hcf := hAb f0
    have hbf := hBt f0
    have hwf : 0 < wroI s o.frm o.key := by omega
    have hft' : Bef L o.frm t := hS _ _ ⟨hc, o, ho, hw, rfl, f0, hcf, hft, hbf⟩
    have hnL := hn
    rw [hL] at hnL
    obtain ⟨_, hnB, hdis⟩ := List.nodup_append.1 hnL
    have hfA : o.frm ∈ A := by
      have h := hft'
      rw [hL, bef_app] at h
      rcases h with h | ⟨h, _⟩ | h
      · exact (bef_mem h).1
      · exact h
      · rw [bef_cons] at h
        rcases h with ⟨h, _⟩ | h
        · exact absurd h hft
        · exact absurd (bef_mem h).2 (List.nodup_cons.1 hnB).1
    have hfF : o.frm ∈ A.filter (comI s) := List.mem_filter.2 ⟨hfA, hcf⟩
    have hfl := hin o.frm hfF hwf
    have hp0 : (lstK s o.key).idxOf o.frm < (lstK s o.key).length := List.idxOf_lt_length_of_mem hfl
    have hp1 : (lstK s o.key)[(lstK s o.key).idxOf o.frm] = o.frm := List.getElem_idxOf hp0
    refine (lasW_some hAn hfF hwf fun u hu hw' => ?_).symm
    obtain ⟨q, hq, e⟩ := List.getElem_of_mem (hin u hu hw')
    have hlt := key (p := (lstK s o.key).idxOf o.frm + 1) (u := u) (fun b hb hbt' => hA t b ⟨hc, o, ho, hw, .inr hcf, by unfold behI; rw [if_pos f0]; exact hb, hbt'⟩) (List.mem_filter.1 hu).1 q hq e
    by_cases eq : q = (lstK s o.key).idxOf o.frm
    · refine .inl ?_
      subst eq
      exact e.symm.trans hp1
    · refine .inr ?_
      have hb : Bef L u o.frm := by
        have := ov_bef hn hO k0 k8 (p := q) hp0 (by omega)
        rw [e, hp1] at this
        exact this
      rw [bef_filter]
      refine ⟨?_, (List.mem_filter.1 hu).2, hcf⟩
      rw [hL, bef_app] at hb
      rcases hb with hb | ⟨_, hb⟩ | hb
      · exact hb
      · exact absurd rfl (hdis _ hfA _ hb)
      · exact absurd rfl (hdis _ hfA _ (bef_mem hb).2)
end Go.Proofs.YtaopigjhdkdklaaDoor

namespace Go.Proofs.YtaopigjhdkdklaaDoor

theorem nd_sub {α : Type} [DecidableEq α] : ∀ {l m : List α}, l.Nodup → (∀ x ∈ l, x ∈ m) → l.length ≤ m.length
  | [], _, _, _ => Nat.zero_le _
  | a :: l, m, hn, hs => by
    rw [List.nodup_cons] at hn
    have h1 := nd_sub (m := m.erase a) hn.2 fun x hx => (List.mem_erase_of_ne (fun (e : x = a) => hn.1 (by rw [← e]; exact hx))).2 (hs x (List.mem_cons_of_mem _ hx))
    have h2 := List.length_erase_of_mem (hs a List.mem_cons_self)
    have h3 : 0 < m.length := List.length_pos_of_mem (hs a List.mem_cons_self)
    simp only [List.length_cons]
    omega
/-- The first of some faults, 0 for none. -/
def fstF : List Int → Int
  | [] => 0
  | a :: l => if a = 0 then fstF l else a
theorem fstF_zero : ∀ {l : List Int}, fstF l = 0 ↔ ∀ x ∈ l, x = 0
  | [] => by simp [fstF]
  | a :: l => by
    unfold fstF
    by_cases h : a = 0
    · rw [if_pos h, fstF_zero]
      simp [h]
    · rw [if_neg h]
      simp [h]
theorem fstF_app : ∀ {l m : List Int}, fstF (l ++ m) = if fstF l = 0 then fstF m else fstF l
  | [], m => by simp [fstF]
  | a :: l, m => by
    show (if a = 0 then fstF (l ++ m) else a) = if (if a = 0 then fstF l else a) = 0 then fstF m else if a = 0 then fstF l else a
    by_cases h : a = 0
    · rw [if_pos h, if_pos h, fstF_app]
    · rw [if_neg h, if_neg h, if_neg h]
/-- An op's fault. -/
def fltP (s : ISt) (o : IOp) : Int :=
  if o.key < 0 ∨ 7 < o.key ∨ o.frm < -1 ∨ (s.txs.length : Int) ≤ o.frm ∨ o.num < 0 then 2
  else if (o.wr = true ∧ (o.frm ≠ 0 ∨ o.num ≠ 0)) ∨ (o.frm = -1 ∧ o.num ≠ 0) then 1
  else if o.wr = false ∧ o.frm ≠ -1 ∧ (wroI s o.frm o.key : Int) ≤ o.num then 7 else 0
/-- A transaction's. -/
def fltX (s : ISt) (t : ITx) : Int := if 60 < t.ops.length then 4 else fstF (t.ops.map (fltP s))
/-- That of one place of a key's list. -/
def fltE (s : ISt) (key : Int) (l : List Int) (i : Nat) : Int :=
  if l.getD i 0 < 0 ∨ (s.txs.length : Int) ≤ l.getD i 0 then 2
  else if comI s (l.getD i 0) = false ∨ wroI s (l.getD i 0) key = 0 then 8
  else if l.getD i 0 ∈ l.take i then 9 else 0
def cntK (s : ISt) (key : Int) : Nat := s.txs.countP fun t => t.com && decide (0 < wroT t key)
/-- A key's. -/
def fltK (s : ISt) (key : Nat) : Int := fstF ((List.range (lstK s key).length).map (fltE s key (lstK s key)) ++ [if cntK s key = (lstK s key).length then 0 else 3])
/-- A story's. -/
def fltI (s : ISt) : Int :=
  if 8 < s.txs.length then 4 else if s.ord.length ≠ 8 then 3 else fstF (s.txs.map (fltX s) ++ (List.range 8).map (fltK s))
theorem txI_at {s : ISt} {i : Nat} (h : i < s.txs.length) : txI s (i : Int) = s.txs[i] := by
  unfold txI
  rw [List.getD_eq_getElem?_getD, show ((i : Nat) : Int).toNat = i by omega, List.getElem?_eq_getElem h]
  rfl
theorem cntK_eq (s : ISt) (key : Int) : cntK s key = ((List.range s.txs.length).filter fun (i : Nat) => comI s (i : Int) && decide (0 < wroI s (i : Int) key)).length := by
  unfold cntK
  have e : s.txs = (List.range s.txs.length).map fun (i : Nat) => txI s (i : Int) := by
    refine List.ext_getElem (by simp) fun i h1 h2 => ?_
    simp
    exact (txI_at h1).symm
  conv => lhs; rw [e]
  rw [List.countP_map, List.countP_eq_length_filter]
  rfl
structure IOk (s : ISt) : Prop where
  few : s.txs.length ≤ 8
  eight : s.ord.length = 8
  ord : IOrd s
  ops : ∀ t ∈ s.txs, t.ops.length ≤ 60 ∧ ∀ o ∈ t.ops, fltP s o = 0
theorem iOk_of {s : ISt} (h : fltI s = 0) : IOk s := by
  unfold fltI at h
  split at h
  · cases h
  rename_i h8
  split at h
  · cases h
  rename_i ho
  have hz := fstF_zero.1 h
  have hk : ∀ key : Nat, key < 8 → fltK s key = 0 := fun key hkey => hz _ (List.mem_append_right _ (List.mem_map.2 ⟨key, List.mem_range.2 hkey, rfl⟩))
  have hel : ∀ key : Nat, key < 8 → (∀ i, i < (lstK s key).length → fltE s key (lstK s key) i = 0) ∧ cntK s key = (lstK s key).length := fun key hkey => by
    have := fstF_zero.1 (hk key hkey)
    refine ⟨fun i hi => this _ (List.mem_append_left _ (List.mem_map.2 ⟨i, List.mem_range.2 hi, rfl⟩)), ?_⟩
    have h2 := this _ (List.mem_append_right _ (List.mem_singleton.2 rfl))
    split at h2
    · assumption
    · cases h2
  have hat : ∀ key : Nat, key < 8 → ∀ i (hi : i < (lstK s key).length), (0 ≤ (lstK s key)[i] ∧ (lstK s key)[i] < s.txs.length) ∧ comI s (lstK s key)[i] = true ∧ 0 < wroI s (lstK s key)[i] key ∧ (lstK s key)[i] ∉ (lstK s key).take i := fun key hkey i hi => by
    have h1 := (hel key hkey).1 i hi
    have e : (lstK s key).getD i 0 = (lstK s key)[i] := by rw [List.getD_eq_getElem?_getD, List.getElem?_eq_getElem hi]; rfl
    unfold fltE at h1
    rw [e] at h1
    split at h1
    · cases h1
    rename_i g1
    split at h1
    · cases h1
    rename_i g2
    split at h1
    · cases h1
    rename_i g3
    simp at g2
    exact ⟨by omega, g2.1, by omega, g3⟩
  have hnd : ∀ key : Nat, key < 8 → (lstK s key).Nodup := fun key hkey => by
    rw [List.nodup_iff_pairwise_ne, List.pairwise_iff_getElem]
    intro i j hi hj hij e
    exact (hat key hkey j hj).2.2.2 (by rw [← e]; exact List.mem_take_iff_getElem.2 ⟨i, by omega, rfl⟩)
  refine ⟨by omega, by omega, ⟨fun key h0 h1 => ?_, fun key t h0 h1 => ?_⟩, fun t ht => ?_⟩
  · obtain ⟨k, rfl⟩ := Int.eq_ofNat_of_zero_le h0
    exact hnd k (by omega)
  · obtain ⟨k, rfl⟩ := Int.eq_ofNat_of_zero_le h0
    have hk8 : k < 8 := by omega
    constructor
    · intro hm
      obtain ⟨i, hi, e⟩ := List.getElem_of_mem hm
      have := hat k hk8 i hi
      rw [e] at this
      exact ⟨this.1, this.2.1, this.2.2.1⟩
    · rintro ⟨⟨t0, t1⟩, hc, hw⟩
      obtain ⟨u, rfl⟩ := Int.eq_ofNat_of_zero_le t0
      refine Classical.byContradiction fun hno => ?_
      have h2 := nd_sub (l := (u : Int) :: lstK s k) (m := ((List.range s.txs.length).filter fun (i : Nat) => comI s (i : Int) && decide (0 < wroI s (i : Int) k)).map fun (i : Nat) => (i : Int)) (List.nodup_cons.2 ⟨hno, hnd k hk8⟩) fun x hx => by
        have hx' : (0 ≤ x ∧ x < s.txs.length) ∧ comI s x = true ∧ 0 < wroI s x k := by
          rcases List.mem_cons.1 hx with rfl | hx
          · exact ⟨⟨t0, t1⟩, hc, hw⟩
          · obtain ⟨i, hi, e⟩ := List.getElem_of_mem hx
            have := hat k hk8 i hi
            rw [e] at this
            exact ⟨this.1, this.2.1, this.2.2.1⟩
        obtain ⟨v, rfl⟩ := Int.eq_ofNat_of_zero_le hx'.1.1
        refine List.mem_map.2 ⟨v, List.mem_filter.2 ⟨List.mem_range.2 (by omega), ?_⟩, rfl⟩
        rw [hx'.2.1]
        simpa using hx'.2.2
      rw [List.length_cons, List.length_map, ← cntK_eq, (hel k hk8).2] at h2
      omega
  · have h1 := hz _ (List.mem_append_left _ (List.mem_map.2 ⟨t, ht, rfl⟩))
    unfold fltX at h1
    split at h1
    · cases h1
    exact ⟨by omega, fun o hop => fstF_zero.1 h1 _ (List.mem_map.2 ⟨o, hop, rfl⟩)⟩
theorem fltP_zero {s : ISt} {o : IOp} (h : fltP s o = 0) : (0 ≤ o.key ∧ o.key ≤ 7) ∧ (-1 ≤ o.frm ∧ o.frm < s.txs.length) ∧ 0 ≤ o.num ∧ (o.wr = true → o.frm = 0 ∧ o.num = 0) ∧ (o.frm = -1 → o.num = 0) ∧ (o.wr = false → IRead s o) := by
  unfold fltP at h
  split at h
  · cases h
  rename_i g1
  split at h
  · cases h
  rename_i g2
  split at h
  · cases h
  rename_i g3
  refine ⟨by omega, by omega, by omega, fun hw => ?_, fun hf => ?_, fun hw => ⟨by omega, ?_⟩⟩
  · refine Classical.byContradiction fun hc => g2 (.inl ⟨hw, ?_⟩)
    omega
  · refine Classical.byContradiction fun hc => g2 (.inr ⟨hf, hc⟩)
  · by_cases hf : o.frm = -1
    · exact .inl hf
    · refine .inr ⟨by omega, by omega, by omega, ?_⟩
      refine Classical.byContradiction fun hc => g3 ⟨hw, hf, by omega⟩
end Go.Proofs.YtaopigjhdkdklaaDoor

namespace Go.Proofs.YtaopigjhdkdklaaDoor

def orR (R S : Nat → Nat → Bool) : Nat → Nat → Bool := fun i k => R i k || S i k
theorem Way.mono {R S : Nat → Nat → Bool} {n : Nat} (h : ∀ i k, R i k = true → S i k = true) {i k : Nat} (hw : Way R n i k) : Way S n i k := by
  induction hw with
  | one hi hk h1 => exact .one hi hk (h _ _ h1)
  | more _ hk h1 ih => exact .more ih hk (h _ _ h1)
theorem way_inl {R S : Nat → Nat → Bool} {n i k : Nat} (h : Way R n i k) : Way (orR R S) n i k := h.mono fun i k h => by unfold orR; rw [h]; rfl
/-- A way by both goes by the first ones alone, or over one of the second ones. -/
theorem way_or {R S : Nat → Nat → Bool} {n i k : Nat} (h : Way (orR R S) n i k) : Way R n i k ∨ ∃ a b, S a b = true ∧ a < n ∧ b < n ∧ (i = a ∨ Way (orR R S) n i a) ∧ (b = k ∨ Way (orR R S) n b k) := by
  induction h with
  | @one k hi hk h1 =>
    unfold orR at h1
    rcases Bool.or_eq_true_iff.1 h1 with h1 | h1
    · exact .inl (.one hi hk h1)
    · exact .inr ⟨i, k, h1, hi, hk, .inl rfl, .inl rfl⟩
  | @more j k hw hk h1 ih =>
    have h1' := h1
    unfold orR at h1
    rcases Bool.or_eq_true_iff.1 h1 with h1 | h1
    · rcases ih with ih | ⟨a, b, hab, ha, hb, hia, hbj⟩
      · exact .inl (.more ih hk h1)
      · refine .inr ⟨a, b, hab, ha, hb, hia, .inr ?_⟩
        rcases hbj with e | hbj
        · subst e; exact .one hb hk h1'
        · exact .more hbj hk h1'
    · exact .inr ⟨j, k, h1, hw.lt.2, hk, .inr hw, .inl rfl⟩
/-- It goes round by both just if it does by the first ones, or a second one leads back over both. -/
theorem round_or {R S : Nat → Nat → Bool} {n : Nat} (hS : ∀ i, S i i = false) : (∃ x, Way (orR R S) n x x) ↔ (∃ x, Way R n x x) ∨ ∃ a b, S a b = true ∧ a < n ∧ Way (orR R S) n b a := by
  constructor
  · rintro ⟨x, h⟩
    rcases way_or h with h | ⟨a, b, hab, ha, hb, h1, h2⟩
    · exact .inl ⟨x, h⟩
    · refine .inr ⟨a, b, hab, ha, ?_⟩
      rcases h2 with rfl | h2
      · rcases h1 with rfl | h1
        · rw [hS] at hab; cases hab
        · exact h1
      · rcases h1 with rfl | h1
        · exact h2
        · exact h2.trans h1
  · rintro (⟨x, h⟩ | ⟨a, b, hab, ha, h⟩)
    · exact ⟨x, way_inl h⟩
    · exact ⟨b, .more h h.lt.1 (by unfold orR; rw [hab]; simp)⟩
/-- The six that there are, of three kinds of edges. -/
theorem levels_in {ov se an : Nat → Nat → Bool} {n : Nat} (hA : ∀ i, an i i = false) :
    ((∃ x, Way ov n x x) → ∃ x, Way (orR ov se) n x x) ∧
    ((∃ a b, an a b = true ∧ a < n ∧ Way (orR ov se) n b a) → ∃ a b, an a b = true ∧ a < n ∧ Way (orR (orR ov se) an) n b a) ∧
    ((∃ L, ordG (orR (orR ov se) an) n n = some L) ↔ ¬ (∃ x, Way (orR ov se) n x x) ∧ ¬ ∃ a b, an a b = true ∧ a < n ∧ Way (orR (orR ov se) an) n b a) := by
  refine ⟨fun ⟨x, h⟩ => ⟨x, way_inl h⟩, fun ⟨a, b, h1, h2, h3⟩ => ⟨a, b, h1, h2, way_inl h3⟩, ?_⟩
  rw [ord_iff]
  constructor
  · intro h
    exact ⟨fun ⟨x, hx⟩ => h x (way_inl hx), fun hx => by
      obtain ⟨x, hx⟩ := (round_or (R := orR ov se) hA).2 (.inr hx)
      exact h x hx⟩
  · rintro ⟨h1, h2⟩ x hx
    rcases (round_or (R := orR ov se) hA).1 ⟨x, hx⟩ with h | h
    · exact h1 h
    · exact h2 h
end Go.Proofs.YtaopigjhdkdklaaDoor
