/-
  Shortest ways (Floyd, Warshall), in plain Lean: over how many roads one node leads to another; and the way round that is told by them.
-/
import Derived.Test.YtibdchahallbjaaDoorGcP
namespace Go.Proofs.YtibdchahallbjaaDoor

/-- A way over m roads, the nodes between below t. -/
inductive WayT (g : Nat → Nat → Bool) (n t : Nat) : Nat → Nat → Nat → Prop
  | one {i k : Nat} (hi : i < n) (hk : k < n) (h : g i k = true) : WayT g n t 1 i k
  | more {m i j k : Nat} (h1 : WayT g n t m i j) (hj : j < t) (hk : k < n) (h : g j k = true) : WayT g n t (m + 1) i k
theorem WayT.lt {g : Nat → Nat → Bool} {n t m i k : Nat} (h : WayT g n t m i k) : i < n ∧ k < n ∧ 0 < m := by
  induction h with
  | one hi hk _ => exact ⟨hi, hk, Nat.one_pos⟩
  | more _ _ hk _ ih => exact ⟨ih.1, hk, Nat.succ_pos _⟩
theorem WayT.up {g : Nat → Nat → Bool} {n t s m i k : Nat} (h : WayT g n t m i k) (hs : t ≤ s) : WayT g n s m i k := by
  induction h with
  | one hi hk h => exact .one hi hk h
  | more _ hj hk h ih => exact .more ih (by omega) hk h
theorem WayT.trans {g : Nat → Nat → Bool} {n t a b i j k : Nat} (h1 : WayT g n t a i j) (hj : j < t) (h2 : WayT g n t b j k) : WayT g n t (a + b) i k := by
  induction h2 with
  | one _ hk h => exact .more h1 hj hk h
  | more _ hj' hk h ih => exact .more (ih h1 hj) hj' hk h
theorem WayT.split {g : Nat → Nat → Bool} {n t m i k : Nat} (ht : t < n) (h : WayT g n (t + 1) m i k) : (∃ m', m' ≤ m ∧ WayT g n t m' i k) ∨ ∃ a b, a + b ≤ m ∧ WayT g n t a i t ∧ WayT g n t b t k := by
  induction h with
  | one hi hk h => exact .inl ⟨1, Nat.le_refl _, .one hi hk h⟩
  | more h1 hj hk h ih =>
    rename_i m i j k
    rcases ih with ⟨m', hm, h2⟩ | ⟨a, b, hm, h2, h3⟩
    · by_cases e : j < t
      · exact .inl ⟨m' + 1, by omega, .more h2 e hk h⟩
      · obtain rfl : j = t := by omega
        exact .inr ⟨m', 1, by omega, h2, .one ht hk h⟩
    · by_cases e : j < t
      · exact .inr ⟨a, b + 1, by omega, h2, .more h3 e hk h⟩
      · obtain rfl : j = t := by omega
        have := h3.lt
        exact .inr ⟨a, 1, by omega, h2, .one ht hk h⟩
theorem WayT.front {g : Nat → Nat → Bool} {n m i k : Nat} (h : WayT g n n m i k) : (m = 1 ∧ g i k = true) ∨ ∃ m' j, m = m' + 1 ∧ j < n ∧ g i j = true ∧ WayT g n n m' j k := by
  induction h with
  | one hi hk h => exact .inl ⟨rfl, h⟩
  | more h1 hj hk h ih =>
    rename_i m i j k
    rcases ih with ⟨rfl, hg⟩ | ⟨m', j', rfl, hj', hg, h2⟩
    · exact .inr ⟨1, j, rfl, hj, hg, .one hj hk h⟩
    · exact .inr ⟨m' + 1, j', rfl, hj', hg, .more h2 hj hk h⟩
theorem wayT_way {g : Nat → Nat → Bool} {n t m i k : Nat} (h : WayT g n t m i k) : Way g n i k := by
  induction h with
  | one hi hk h => exact .one hi hk h
  | more _ _ hk h ih => exact .more ih hk h
theorem way_wayT {g : Nat → Nat → Bool} {n i k : Nat} (h : Way g n i k) : ∃ m, WayT g n n m i k := by
  induction h with
  | one hi hk h => exact ⟨1, .one hi hk h⟩
  | more h1 hk h ih =>
    obtain ⟨m, h2⟩ := ih
    exact ⟨m + 1, .more h2 h1.lt.2 hk h⟩

/-- A pass over t. -/
def fwS (D : Nat → Nat → Nat) (t : Nat) : Nat → Nat → Nat := fun i k => if 0 < D i t ∧ 0 < D t k ∧ (D i k = 0 ∨ D i t + D t k < D i k) then D i t + D t k else D i k
def fwD (g : Nat → Nat → Bool) : Nat → Nat → Nat → Nat
  | 0 => fun i k => if g i k = true then 1 else 0
  | t + 1 => fwS (fwD g t) t
theorem fwS_row (D : Nat → Nat → Nat) (t k : Nat) : fwS D t t k = D t k := by
  unfold fwS
  rw [if_neg]
  omega
theorem fwS_col (D : Nat → Nat → Nat) (t i : Nat) : fwS D t i t = D i t := by
  unfold fwS
  rw [if_neg]
  omega
theorem fwD_ok {g : Nat → Nat → Bool} {n : Nat} : ∀ t, t ≤ n → ∀ i k, i < n → k < n → (0 < fwD g t i k → WayT g n t (fwD g t i k) i k) ∧ ∀ m, WayT g n t m i k → 0 < fwD g t i k ∧ fwD g t i k ≤ m
  | 0, _, i, k, hi, hk => by
    unfold fwD
    by_cases e : g i k = true
    · rw [if_pos e]
      exact ⟨fun _ => .one hi hk e, fun m h => ⟨Nat.one_pos, h.lt.2.2⟩⟩
    · rw [if_neg e]
      refine ⟨fun h => absurd h (by omega), fun m h => ?_⟩
      cases h with
      | one _ _ h => exact absurd h e
      | more _ hj _ _ => exact absurd hj (by omega)
  | t + 1, ht, i, k, hi, hk => by
    have ih := fwD_ok (g := g) (n := n) t (by omega)
    have h1 := ih i k hi hk
    have h2 := ih i t hi (by omega)
    have h3 := ih t k (by omega) hk
    unfold fwD fwS
    generalize fwD g t i k = d at *
    generalize fwD g t i t = a at *
    generalize fwD g t t k = b at *
    by_cases e : 0 < a ∧ 0 < b ∧ (d = 0 ∨ a + b < d)
    · rw [if_pos e]
      refine ⟨fun _ => WayT.trans ((h2.1 e.1).up (Nat.le_succ _)) (by omega) ((h3.1 e.2.1).up (Nat.le_succ _)), fun m h => ⟨by omega, ?_⟩⟩
      rcases h.split (by omega) with ⟨m', hm, h4⟩ | ⟨x, y, hm, h4, h5⟩
      · have := h1.2 m' h4; omega
      · have := h2.2 x h4; have := h3.2 y h5; omega
    · rw [if_neg e]
      refine ⟨fun h => (h1.1 h).up (Nat.le_succ _), fun m h => ?_⟩
      rcases h.split (by omega) with ⟨m', hm, h4⟩ | ⟨x, y, hm, h4, h5⟩
      · have := h1.2 m' h4; omega
      · have := h2.2 x h4; have := h3.2 y h5; omega
/-- Over how many roads at the fewest. -/
def farG (g : Nat → Nat → Bool) (n : Nat) : Nat → Nat → Nat := fwD g n
theorem far_way {g : Nat → Nat → Bool} {n i k : Nat} (hi : i < n) (hk : k < n) (h : 0 < farG g n i k) : WayT g n n (farG g n i k) i k := (fwD_ok n (Nat.le_refl _) i k hi hk).1 h
theorem far_le {g : Nat → Nat → Bool} {n m i k : Nat} (h : WayT g n n m i k) : 0 < farG g n i k ∧ farG g n i k ≤ m := (fwD_ok n (Nat.le_refl _) i k h.lt.1 h.lt.2.1).2 m h
theorem far_war {g : Nat → Nat → Bool} {n i k : Nat} (hi : i < n) (hk : k < n) : decide (0 < farG g n i k) = war g n i k := by
  have h := war_iff (R := g) hi hk
  cases e : war g n i k
  · refine decide_eq_false fun h0 => ?_
    rw [h.2 (wayT_way (far_way hi hk h0))] at e
    cases e
  · obtain ⟨m, hm⟩ := way_wayT (h.1 e)
    exact decide_eq_true (far_le hm).1
theorem fwD_most {g : Nat → Nat → Bool} : ∀ t i k, fwD g t i k ≤ 2 ^ t
  | 0, i, k => by unfold fwD; split <;> omega
  | t + 1, i, k => by
    have h1 := fwD_most (g := g) t i k
    have h2 := fwD_most (g := g) t i t
    have h3 := fwD_most (g := g) t t k
    unfold fwD fwS
    rw [Nat.pow_succ]
    split <;> omega

/-! ### the least node that leads back over the fewest roads -/
def NearT (D : Nat → Nat → Nat) (m : Nat) (x : Int) : Prop := (x = -1 ∧ ∀ i, i < m → D i i = 0) ∨ ∃ b : Nat, x = (b : Int) ∧ b < m ∧ 0 < D b b ∧ (∀ j, j < m → 0 < D j j → D b b ≤ D j j) ∧ ∀ j, j < b → 0 < D j j → D b b < D j j
theorem NearT.zero (D : Nat → Nat → Nat) : NearT D 0 (-1) := .inl ⟨rfl, fun i hi => absurd hi (by omega)⟩
theorem NearT.keep {D : Nat → Nat → Nat} {m : Nat} {x : Int} (h : NearT D m x) (hm : D m m = 0 ∨ ∃ b : Nat, x = (b : Int) ∧ D b b ≤ D m m) : NearT D (m + 1) x := by
  rcases h with ⟨rfl, h⟩ | ⟨b, rfl, h1, h2, h3, h4⟩
  · refine .inl ⟨rfl, fun i hi => ?_⟩
    by_cases e : i = m
    · subst e
      rcases hm with h | ⟨b, hb, _⟩
      · exact h
      · omega
    · exact h i (by omega)
  · refine .inr ⟨b, rfl, by omega, h2, fun j hj h0 => ?_, h4⟩
    by_cases e : j = m
    · subst e
      rcases hm with h | ⟨b', hb, h⟩
      · omega
      · obtain rfl : b = b' := by omega
        exact h
    · exact h3 j (by omega) h0
theorem NearT.take {D : Nat → Nat → Nat} {m : Nat} {x : Int} (h : NearT D m x) (h0 : 0 < D m m) (hm : x = -1 ∨ ∃ b : Nat, x = (b : Int) ∧ D m m < D b b) : NearT D (m + 1) (m : Int) := by
  refine .inr ⟨m, rfl, by omega, h0, fun j hj hj0 => ?_, fun j hj hj0 => ?_⟩
  · by_cases e : j = m
    · subst e; exact Nat.le_refl _
    · rcases h with ⟨rfl, h⟩ | ⟨b, rfl, h1, h2, h3, h4⟩
      · have := h j (by omega); omega
      · rcases hm with hm | ⟨b', hb, hm⟩
        · omega
        · obtain rfl : b = b' := by omega
          have := h3 j (by omega) hj0
          omega
  · rcases h with ⟨rfl, h⟩ | ⟨b, rfl, h1, h2, h3, h4⟩
    · have := h j (by omega); omega
    · rcases hm with hm | ⟨b', hb, hm⟩
      · omega
      · obtain rfl : b = b' := by omega
        have := h3 j (by omega) hj0
        omega

/-! ### the way round, node by node -/
structure PartC (g : Nat → Nat → Bool) (n f : Nat) (c : List Nat) (left : Nat) : Prop where
  pos : 0 < c.length
  head : c[0] = f
  rd : RdG g n c
  len : c.length + left = farG g n f f
  far : ∀ i (h : i < c.length), 0 < i → farG g n c[i] f = farG g n f f - i
  least : ∀ i (h : i + 1 < c.length), ∀ x, x < c[i + 1] → ¬ (g c[i] x = true ∧ farG g n x f = farG g n f f - (i + 1))
theorem way_seg {g : Nat → Nat → Bool} {n : Nat} {c : List Nat} (h : RdG g n c) {i : Nat} : ∀ d (hj : i + d + 1 < c.length), WayT g n n (d + 1) c[i] c[i + d + 1]
  | 0, hj => .one (h.1 _ (List.getElem_mem _)) (h.1 _ (List.getElem_mem _)) (h.2 i hj)
  | d + 1, hj => .more (way_seg h d (by omega)) (h.1 _ (List.getElem_mem _)) (h.1 _ (List.getElem_mem _)) (h.2 (i + d + 1) hj)
theorem cyc_seg {g : Nat → Nat → Bool} {n : Nat} {c : List Nat} (h : CycG g n c) {i : Nat} (hi : i < c.length) : WayT g n n (c.length - i) c[i] (c[0]'(by omega)) := by
  obtain ⟨hr, h0, hg⟩ := h
  by_cases e : i = c.length - 1
  · subst e
    rw [show c.length - (c.length - 1) = 1 by omega]
    exact .one (hr.1 _ (List.getElem_mem _)) (hr.1 _ (List.getElem_mem _)) hg
  · have h1 := way_seg hr (i := i) (c.length - 1 - i - 1) (by omega)
    have h2 : WayT g n n (c.length - 1 - i - 1 + 1 + 1) c[i] (c[0]'(by omega)) := .more h1 (hr.1 _ (List.getElem_mem _)) (hr.1 _ (List.getElem_mem _)) (by
      have e2 : i + (c.length - 1 - i - 1) + 1 = c.length - 1 := by omega
      simpa only [e2] using hg)
    rwa [show c.length - 1 - i - 1 + 1 + 1 = c.length - i by omega] at h2
theorem PartC.start {g : Nat → Nat → Bool} {n f : Nat} (hf : f < n) (h0 : 0 < farG g n f f) : PartC g n f [f] (farG g n f f - 1) :=
  ⟨by simp, rfl, one_row hf, by simp; omega, fun i h h0 => by simp at h; omega, fun i h => by simp at h⟩
theorem PartC.last {g : Nat → Nat → Bool} {n f left : Nat} {c : List Nat} (h : PartC g n f c left) : farG g n (c[c.length - 1]'(by have := h.pos; omega)) f = left + 1 := by
  have hp := h.pos
  have hl := h.len
  by_cases e : c.length = 1
  · have e1 : c.length - 1 = 0 := by omega
    simp only [e1]
    rw [h.head]; omega
  · rw [h.far (c.length - 1) (by omega) (by omega)]; omega
/-- There is a next one. -/
theorem PartC.some {g : Nat → Nat → Bool} {n f left : Nat} {c : List Nat} (hf : f < n) (h : PartC g n f c (left + 1)) : ∃ x, x < n ∧ g (c[c.length - 1]'(by have := h.pos; omega)) x = true ∧ farG g n x f = left + 1 := by
  have hp := h.pos
  have h1 := h.last
  have hlt := h.rd.1 _ (List.getElem_mem (show c.length - 1 < c.length by omega))
  generalize c[c.length - 1] = y at h1 hlt
  have h2 := far_way hlt hf (by rw [h1]; omega)
  rw [h1] at h2
  rcases h2.front with ⟨e, _⟩ | ⟨m', j, e, hj, hg, h3⟩
  · omega
  · refine ⟨j, hj, hg, ?_⟩
    have h4 := far_le h3
    have h5 := far_le (WayT.trans (WayT.one hlt hj hg) hj (far_way hj hf h4.1))
    omega
theorem PartC.next {g : Nat → Nat → Bool} {n f left : Nat} {c : List Nat} (h : PartC g n f c (left + 1)) {x : Nat} (hx : x < n) (hg : g (c[c.length - 1]'(by have := h.pos; omega)) x = true) (hf : farG g n x f = left + 1) (hl : ∀ y, y < x → ¬ (g (c[c.length - 1]'(by have := h.pos; omega)) y = true ∧ farG g n y f = left + 1)) : PartC g n f (c ++ [x]) left := by
  have hp := h.pos
  have hlen := h.len
  refine ⟨by simp, by rw [List.getElem_append_left hp]; exact h.head, ⟨fun y hy => ?_, fun i hi => ?_⟩, by simp; omega, fun i hi h0 => ?_, fun i hi y hy => ?_⟩
  · rcases List.mem_append.1 hy with hy | hy
    · exact h.rd.1 y hy
    · rw [List.mem_singleton.1 hy]; exact hx
  · simp at hi
    by_cases e : i + 1 < c.length
    · rw [List.getElem_append_left (by omega), List.getElem_append_left e]; exact h.rd.2 i e
    · obtain rfl : i = c.length - 1 := by omega
      rw [List.getElem_append_left (by omega), List.getElem_append_right (by omega)]
      simpa using hg
  · simp at hi
    by_cases e : i < c.length
    · rw [List.getElem_append_left e]; exact h.far i e h0
    · obtain rfl : i = c.length := by omega
      rw [List.getElem_append_right (by omega)]
      simp
      omega
  · simp at hi
    by_cases e : i + 1 < c.length
    · rw [List.getElem_append_left (by omega)]
      rw [List.getElem_append_left e] at hy
      exact h.least i e y hy
    · obtain rfl : i = c.length - 1 := by omega
      rw [List.getElem_append_left (by omega)]
      rw [List.getElem_append_right (by omega)] at hy
      have e2 : farG g n f f - (c.length - 1 + 1) = left + 1 := by omega
      rw [e2]
      exact hl y (by simpa using hy)
theorem lexL_of : ∀ {a b : List Nat}, (he : a.length = b.length) → (∀ i (hi : i < a.length), (∀ j (hj : j < i), a[j] = b[j]'(by omega)) → a[i] ≤ b[i]'(by omega)) → lexL a b
  | [], [], _, _ => lexL_refl []
  | x :: a, y :: b, he, h => by
    have h0 := h 0 (by simp) (fun j hj => absurd hj (by omega))
    simp at h0
    by_cases e : x = y
    · subst e
      refine .inr ⟨rfl, lexL_of (by simpa using he) fun i hi hj => ?_⟩
      have := h (i + 1) (by simpa using hi) (fun j hj' => by
        cases j with
        | zero => rfl
        | succ j => simpa using hj j (by omega))
      simpa using this
    · exact .inl (by omega)
theorem PartC.best {g : Nat → Nat → Bool} {n f : Nat} {c : List Nat} (hf : f < n) (h : PartC g n f c 0) (hm : ∀ j, j < n → 0 < farG g n j j → farG g n f f ≤ farG g n j j) (hl : ∀ j, j < f → 0 < farG g n j j → farG g n f f < farG g n j j) : BestC g n c := by
  have hp := h.pos
  have hlen := h.len
  have hc : CycG g n c := by
    refine ⟨h.rd, hp, ?_⟩
    have h1 := h.last
    have hlt := h.rd.1 _ (List.getElem_mem (show c.length - 1 < c.length by omega))
    rw [h.head]
    generalize c[c.length - 1] = y at h1 hlt ⊢
    have h2 := far_way hlt hf (by rw [h1]; omega)
    rw [h1] at h2
    rcases h2.front with ⟨_, e⟩ | ⟨m', j, e, _, _, h3⟩
    · exact e
    · have := h3.lt; omega
  have hlow : ∀ d (h0 : 0 < d.length), CycG g n d → 0 < farG g n d[0] d[0] ∧ farG g n d[0] d[0] ≤ d.length ∧ d[0] < n := fun d h0 hd => by
    have := cyc_seg hd h0
    exact ⟨(far_le this).1, (far_le this).2, this.lt.1⟩
  refine ⟨hc, fun d hd => ?_, fun _ x hx => ?_, fun d h0 hd he hhd => ?_⟩
  · have h0 := hd.2.1
    have h1 := hlow d h0 hd
    have := hm d[0] h1.2.2 h1.1
    omega
  · rw [h.head]
    obtain ⟨i, hi, rfl⟩ := List.getElem_of_mem hx
    apply Nat.le_of_not_lt
    intro hlt
    have ht := cyc_turn hc hi
    have h0 : 0 < (c.drop i ++ c.take i).length := by simp; omega
    have h1 := hlow _ h0 ht
    have e : (c.drop i ++ c.take i)[0] = c[i] := by
      rw [List.getElem_append_left (by simp; omega)]
      simp
    rw [e] at h1
    have e2 : (c.drop i ++ c.take i).length = c.length := by simp; omega
    have := hl _ hlt h1.1
    omega
  · have h1 := hlow d h0 hd
    refine lexL_of he.symm fun i hi hj => ?_
    cases i with
    | zero =>
      rw [h.head]
      apply Nat.le_of_not_lt
      intro hlt
      have := hl _ hlt h1.1
      omega
    | succ i =>
      have e0 : f = d[0] := by rw [← h.head]; exact hj 0 (by omega)
      have ei := hj i (by omega)
      apply Nat.le_of_not_lt
      intro hlt
      refine h.least i hi _ hlt ⟨by rw [ei]; exact hd.1.2 i (by omega), ?_⟩
      have h2 := cyc_seg hd (i := i + 1) (by omega)
      rw [← e0] at h2
      have h3 := far_le h2
      have h4 := way_seg hd.1 (i := 0) i (by omega)
      have h5 := WayT.trans h4 (hd.1.1 _ (List.getElem_mem _)) (by simpa using far_way h2.lt.1 hf h3.1)
      have h6 := far_le h5
      rw [← e0] at h6
      have e3 : 0 + i + 1 = i + 1 := by omega
      omega
/-- No way round: none leads back. -/
theorem near_none {g : Nat → Nat → Bool} {n : Nat} (h : ∀ i, i < n → farG g n i i = 0) : ∀ x, ¬ Way g n x x := fun x hw => by
  obtain ⟨m, hm⟩ := way_wayT hw
  have := far_le hm
  have := h x hm.lt.1
  omega
theorem best_way {g : Nat → Nat → Bool} {n : Nat} {c : List Nat} (h : BestC g n c) : ∃ x, Way g n x x := cyc_way h.cyc
end Go.Proofs.YtibdchahallbjaaDoor
