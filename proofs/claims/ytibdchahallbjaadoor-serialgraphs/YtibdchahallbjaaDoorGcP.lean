/-
  Chapter 10 in plain Lean: the shortest way round, the first of several; the document's search for it. (Nothing of the program in it.)
-/
import Derived.Test.YtibdchahallbjaaDoorGhP
namespace Go.Proofs.YtibdchahallbjaaDoor

/-- By the first number in which they differ. -/
def lexL : List Nat → List Nat → Prop
  | x :: a, y :: b => x < y ∨ (x = y ∧ lexL a b)
  | _, _ => True
theorem lexL_refl : ∀ a, lexL a a
  | [] => trivial
  | _ :: a => .inr ⟨rfl, lexL_refl a⟩
theorem lexL_anti : ∀ {a b : List Nat}, a.length = b.length → lexL a b → lexL b a → a = b
  | [], [], _, _, _ => rfl
  | [], _ :: _, h, _, _ => by cases h
  | _ :: _, [], h, _, _ => by cases h
  | x :: a, y :: b, h, h1, h2 => by
    rcases h1 with h1 | ⟨rfl, h1⟩
    · rcases h2 with h2 | ⟨e, _⟩
      · omega
      · omega
    · rcases h2 with h2 | ⟨_, h2⟩
      · omega
      · rw [lexL_anti (by simpa using h) h1 h2]
theorem lexL_app : ∀ (w : List Nat) {a b : List Nat}, lexL a b → lexL (w ++ a) (w ++ b)
  | [], _, _, h => h
  | _ :: w, _, _, h => .inr ⟨rfl, lexL_app w h⟩

/-- The best way round: a shortest one, its least node first; of several the first. -/
structure BestC (g : Nat → Nat → Bool) (n : Nat) (c : List Nat) : Prop where
  cyc : CycG g n c
  short : ∀ d, CycG g n d → c.length ≤ d.length
  head : ∀ (h : 0 < c.length), ∀ x ∈ c, c[0] ≤ x
  first : ∀ d (h : 0 < d.length), CycG g n d → d.length = c.length → (∀ x ∈ d, d[0] ≤ x) → lexL c d
theorem BestC.one {g : Nat → Nat → Bool} {n : Nat} {c d : List Nat} (h1 : BestC g n c) (h2 : BestC g n d) : c = d := by
  have e : c.length = d.length := Nat.le_antisymm (h1.short d h2.cyc) (h2.short c h1.cyc)
  obtain ⟨_, hc, _⟩ := h1.cyc
  obtain ⟨_, hd, _⟩ := h2.cyc
  exact lexL_anti e (h1.first d hd h2.cyc e.symm (h2.head hd)) (h2.first c hc h1.cyc e (h1.head hc))

/-! ### a shortest one is simple, and may begin anywhere -/
theorem cyc_part {g : Nat → Nat → Bool} {n : Nat} {c : List Nat} (h : CycG g n c) {i j : Nat} (hij : i < j) (hj : j < c.length) (e : c[i] = c[j]) : CycG g n ((c.drop i).take (j - i)) := by
  obtain ⟨hr, _, _⟩ := h
  have hl : ((c.drop i).take (j - i)).length = j - i := by simp; omega
  have hat : ∀ a (ha : a < j - i), ((c.drop i).take (j - i))[a]'(by rw [hl]; exact ha) = c[i + a] := fun a ha => by simp
  refine ⟨⟨fun x hx => hr.1 x (List.mem_of_mem_drop (List.mem_of_mem_take hx)), fun a ha => ?_⟩, by rw [hl]; omega, ?_⟩
  · rw [hl] at ha
    rw [hat a (by omega), hat (a + 1) ha]
    exact hr.2 (i + a) (by omega)
  · rw [hat 0 (by omega)]
    have h2 : ((c.drop i).take (j - i))[((c.drop i).take (j - i)).length - 1]'(by rw [hl]; omega) = c[j - 1] := by
      have := hat (j - i - 1) (by omega)
      simp only [hl]
      rw [this]
      congr 1
      omega
    rw [h2]
    have h3 := hr.2 (j - 1) (by omega)
    have e1 : j - 1 + 1 = j := by omega
    simp only [e1] at h3
    have e2 : c[i + 0] = c[j] := by simpa using e
    rw [e2]
    exact h3
theorem cyc_simple {g : Nat → Nat → Bool} {n : Nat} {c : List Nat} (h : CycG g n c) (hs : ∀ d, CycG g n d → c.length ≤ d.length) : c.Nodup := by
  rw [List.Nodup, List.pairwise_iff_getElem]
  intro i j hi hj hij e
  have := hs _ (cyc_part h hij hj e)
  have hl : ((c.drop i).take (j - i)).length = j - i := by simp; omega
  rw [hl] at this
  omega
theorem cyc_turn {g : Nat → Nat → Bool} {n : Nat} {c : List Nat} (h : CycG g n c) {i : Nat} (hi : i < c.length) : CycG g n (c.drop i ++ c.take i) := by
  obtain ⟨hr, h0, hg⟩ := h
  have hl : (c.drop i ++ c.take i).length = c.length := by simp; omega
  have hat : ∀ a (ha : a < c.length), (c.drop i ++ c.take i)[a]'(by rw [hl]; exact ha) = if h : i + a < c.length then c[i + a] else c[i + a - c.length]'(by omega) := fun a ha => by
    split
    · rw [List.getElem_append_left (by simp; omega)]; simp
    · rw [List.getElem_append_right (by simp; omega)]
      simp
      congr 1
      omega
  refine ⟨⟨fun x hx => ?_, fun a ha => ?_⟩, by rw [hl]; exact h0, ?_⟩
  · rcases List.mem_append.1 hx with hx | hx
    · exact hr.1 x (List.mem_of_mem_drop hx)
    · exact hr.1 x (List.mem_of_mem_take hx)
  · rw [hl] at ha
    rw [hat a (by omega), hat (a + 1) ha]
    by_cases e1 : i + (a + 1) < c.length
    · rw [dif_pos (by omega), dif_pos e1]; exact hr.2 (i + a) e1
    · rw [dif_neg e1]
      by_cases e2 : i + a < c.length
      · rw [dif_pos e2]
        have e3 : i + a = c.length - 1 := by omega
        have e4 : i + (a + 1) - c.length = 0 := by omega
        simp only [e3, e4]
        exact hg
      · rw [dif_neg e2]
        have e3 : i + (a + 1) - c.length = (i + a - c.length) + 1 := by omega
        simp only [e3]
        exact hr.2 (i + a - c.length) (by omega)
  · have h1 := hat (c.length - 1) (by omega)
    have h2 := hat 0 (by omega)
    simp only [hl]
    rw [h1, h2]
    by_cases e1 : i = 0
    · subst e1
      rw [dif_pos (by omega), dif_pos (by omega)]
      simpa using hg
    · rw [dif_neg (by omega), dif_pos (by omega)]
      have e3 : i + (c.length - 1) - c.length = i - 1 := by omega
      simp only [e3]
      have := hr.2 (i - 1) (by omega)
      have e4 : i - 1 + 1 = i := by omega
      simp only [e4] at this
      simpa using this
theorem min_at : ∀ (c : List Nat), 0 < c.length → ∃ i, ∃ hi : i < c.length, ∀ x ∈ c, c[i] ≤ x
  | [], h => absurd h (by simp)
  | [a], _ => ⟨0, by simp, fun x hx => by rw [List.mem_singleton.1 hx]; exact Nat.le_refl _⟩
  | a :: b :: c, _ => by
    obtain ⟨i, hi, hm⟩ := min_at (b :: c) (by simp)
    by_cases e : a ≤ (b :: c)[i]
    · refine ⟨0, by simp, fun x hx => ?_⟩
      rcases List.mem_cons.1 hx with rfl | hx
      · exact Nat.le_refl _
      · exact Nat.le_trans e (hm x hx)
    · refine ⟨i + 1, by simpa using hi, fun x hx => ?_⟩
      rcases List.mem_cons.1 hx with rfl | hx
      · exact Nat.le_of_lt (Nat.lt_of_not_le e)
      · exact hm x hx
/-- Where something goes round, a shortest way round begins at its least node. -/
theorem cyc_short {g : Nat → Nat → Bool} {n x : Nat} (h : Way g n x x) : ∃ c, CycG g n c ∧ (∀ d, CycG g n d → c.length ≤ d.length) ∧ ∀ (h : 0 < c.length), ∀ x ∈ c, c[0] ≤ x := by
  obtain ⟨c0, hc0⟩ := way_cyc h
  have hex : ∃ m, ∃ c, CycG g n c ∧ c.length = m := ⟨_, c0, hc0, rfl⟩
  have hmin : ∀ m, (∃ c, CycG g n c ∧ c.length = m) → ∃ c, CycG g n c ∧ ∀ d, CycG g n d → c.length ≤ d.length := by
    intro m
    induction m using Nat.strongRecOn with
    | _ m ih =>
      rintro ⟨c, hc, hl⟩
      by_cases hs : ∀ d, CycG g n d → c.length ≤ d.length
      · exact ⟨c, hc, hs⟩
      · obtain ⟨d, hd⟩ := Classical.not_forall.1 hs
        obtain ⟨hd, hlt⟩ := Classical.not_imp.1 hd
        exact ih d.length (by omega) ⟨d, hd, rfl⟩
  obtain ⟨m, hm⟩ := hex
  obtain ⟨c, hc, hs⟩ := hmin m hm
  obtain ⟨i, hi, hmi⟩ := min_at c hc.2.1
  have hl : (c.drop i ++ c.take i).length = c.length := by simp; omega
  refine ⟨c.drop i ++ c.take i, cyc_turn hc hi, fun d hd => by rw [hl]; exact hs d hd, fun h0 x hx => ?_⟩
  rw [List.getElem_append_left (by simp; omega)]
  simp only [List.getElem_drop, Nat.add_zero]
  refine hmi x ?_
  rcases List.mem_append.1 hx with hx | hx
  · exact List.mem_of_mem_drop hx
  · exact List.mem_of_mem_take hx

/-! ### the document's search -/
def cycT (g : Nat → Nat → Bool) (way : List Nat) (k : Nat) : Bool := decide (way.headD 0 < k) && g (way.getLastD 0) k && !memB way k
/-- On from a row of nodes, so many more. -/
def cycW (g : Nat → Nat → Bool) (n : Nat) : Nat → List Nat → Option (List Nat)
  | 0, way => if g (way.getLastD 0) (way.headD 0) then some way else none
  | f + 1, way => (List.range n).findSome? fun k => if cycT g way k then cycW g n f (way ++ [k]) else none
/-- What it looks for. -/
structure ExtC (g : Nat → Nat → Bool) (n : Nat) (f : Nat) (way c : List Nat) : Prop where
  app : ∃ e : List Nat, c = way ++ e ∧ e.length = f ∧ ∀ x ∈ e, way.headD 0 < x
  cyc : CycG g n c
  nd : c.Nodup
theorem getLastD_at {c : List Nat} (h : 0 < c.length) : c.getLastD 0 = c[c.length - 1] := by
  rw [List.getLastD_eq_getLast?, List.getLast?_eq_getElem?, List.getElem?_eq_getElem (by omega)]; rfl
theorem headD_at {c : List Nat} (h : 0 < c.length) : c.headD 0 = c[0] := by
  cases c with
  | nil => simp at h
  | cons a c => rfl
theorem findSome_cases {α : Type} (F : Nat → Option α) : ∀ n, ((List.range n).findSome? F = none ∧ ∀ k, k < n → F k = none) ∨ ∃ k c, k < n ∧ (List.range n).findSome? F = some c ∧ F k = some c ∧ ∀ j, j < k → F j = none
  | 0 => .inl ⟨rfl, fun k hk => absurd hk (by omega)⟩
  | n + 1 => by
    rw [List.range_succ, List.findSome?_append]
    rcases findSome_cases F n with ⟨e, ha⟩ | ⟨k, c, hk, e, hf, ha⟩
    · rw [e]
      cases hF : F n with
      | none =>
        refine .inl ⟨by simp [hF], fun k hk => ?_⟩
        by_cases h : k = n
        · rw [h]; exact hF
        · exact ha k (by omega)
      | some c => exact .inr ⟨n, c, by omega, by simp [hF], hF, ha⟩
    · rw [e]
      exact .inr ⟨k, c, by omega, rfl, hf, ha⟩
theorem cycW_spec {g : Nat → Nat → Bool} {n : Nat} : ∀ (f : Nat) (way : List Nat), 0 < way.length → RdG g n way → way.Nodup → (∀ x ∈ way, way.headD 0 ≤ x) →
    (∀ c, cycW g n f way = some c → ExtC g n f way c ∧ ∀ d, ExtC g n f way d → lexL c d) ∧ (cycW g n f way = none → ∀ d, ¬ ExtC g n f way d)
  | 0, way, h0, hr, hnd, _ => by
    have hd : ∀ d, ExtC g n 0 way d → d = way := fun d ⟨⟨e, h1, h2, _⟩, _, _⟩ => by
      have : e = [] := List.length_eq_zero_iff.1 h2
      rw [h1, this, List.append_nil]
    unfold cycW
    cases hg : g (way.getLastD 0) (way.headD 0)
    · refine ⟨fun c hc => by simp at hc, fun _ d h => ?_⟩
      obtain rfl := hd d h
      obtain ⟨_, h1, h2⟩ := h.cyc
      rw [getLastD_at h0, headD_at h0, h2] at hg
      cases hg
    · refine ⟨fun c hc => ?_, fun hc => by simp at hc⟩
      have e : way = c := by simpa using hc
      subst e
      exact ⟨⟨⟨[], by simp, rfl, fun x hx => by cases hx⟩, ⟨hr, h0, by rw [← getLastD_at h0, ← headD_at h0]; exact hg⟩, hnd⟩, fun d h => by rw [hd d h]; exact lexL_refl _⟩
  | f + 1, way, h0, hr, hnd, hmin => by
    have hnext : ∀ k, k < n → cycT g way k = true → RdG g n (way ++ [k]) ∧ (way ++ [k]).Nodup ∧ (way ++ [k]).headD 0 = way.headD 0 ∧ ∀ x ∈ way ++ [k], (way ++ [k]).headD 0 ≤ x := fun k hk ht => by
      unfold cycT at ht
      simp only [Bool.and_eq_true, decide_eq_true_eq, Bool.not_eq_true'] at ht
      obtain ⟨⟨h1, h2⟩, h3⟩ := ht
      have hh : (way ++ [k]).headD 0 = way.headD 0 := by
        cases way with
        | nil => simp at h0
        | cons a w => rfl
      have hnk : k ∉ way := fun h => by rw [memB_iff.2 h] at h3; cases h3
      refine ⟨⟨fun x hx => ?_, fun a ha => ?_⟩, ?_, hh, fun x hx => ?_⟩
      · rcases List.mem_append.1 hx with hx | hx
        · exact hr.1 x hx
        · rw [List.mem_singleton.1 hx]; exact hk
      · simp at ha
        by_cases e : a + 1 < way.length
        · rw [List.getElem_append_left (by omega), List.getElem_append_left e]; exact hr.2 a e
        · have : a = way.length - 1 := by omega
          subst this
          rw [List.getElem_append_left (by omega), List.getElem_append_right (by omega)]
          rw [getLastD_at h0] at h2
          simpa using h2
      · rw [List.nodup_append]
        exact ⟨hnd, by simp, fun a ha b hb => by rw [List.mem_singleton.1 hb]; intro e; exact hnk (e ▸ ha)⟩
      · rw [hh]
        rcases List.mem_append.1 hx with hx | hx
        · exact hmin x hx
        · rw [List.mem_singleton.1 hx]; omega
    have hup : ∀ k, k < n → cycT g way k = true → ∀ d, ExtC g n f (way ++ [k]) d → ExtC g n (f + 1) way d := fun k hk ht d ⟨⟨e, h1, h2, h3⟩, hc, hn⟩ => by
      refine ⟨⟨k :: e, by rw [h1]; simp, by simp [h2], fun x hx => ?_⟩, hc, hn⟩
      rw [(hnext k hk ht).2.2.1] at h3
      rcases List.mem_cons.1 hx with rfl | hx
      · unfold cycT at ht
        simp only [Bool.and_eq_true, decide_eq_true_eq] at ht
        exact ht.1.1
      · exact h3 x hx
    have hdown : ∀ d, ExtC g n (f + 1) way d → ∃ k, k < n ∧ cycT g way k = true ∧ ExtC g n f (way ++ [k]) d ∧ ∃ e, d = way ++ (k :: e) := fun d ⟨⟨e, h1, h2, h3⟩, hc, hn⟩ => by
      cases e with
      | nil => simp at h2
      | cons k e =>
        have hkd : k ∈ d := by rw [h1]; simp
        have hk : k < n := hc.1.1 k hkd
        have ht : cycT g way k = true := by
          unfold cycT
          simp only [Bool.and_eq_true, decide_eq_true_eq, Bool.not_eq_true']
          refine ⟨⟨h3 k (List.mem_cons_self ..), ?_⟩, ?_⟩
          · have := hc.1.2 (way.length - 1) (by rw [h1]; simp; omega)
            rw [getLastD_at h0]
            have e1 : way.length - 1 + 1 = way.length := by omega
            simp only [h1, e1] at this
            rw [List.getElem_append_left (by omega), List.getElem_append_right (Nat.le_refl _)] at this
            simpa using this
          · cases hin : memB way k
            · rfl
            · rw [h1, List.nodup_append] at hn
              exact absurd rfl (hn.2.2 k (memB_iff.1 hin) k (List.mem_cons_self ..))
        refine ⟨k, hk, ht, ⟨⟨e, by rw [h1]; simp, by simpa using h2, fun x hx => ?_⟩, hc, hn⟩, e, h1⟩
        rw [(hnext k hk ht).2.2.1]
        exact h3 x (List.mem_cons_of_mem _ hx)
    unfold cycW
    rcases findSome_cases (fun k => if cycT g way k then cycW g n f (way ++ [k]) else none) n with ⟨e, ha⟩ | ⟨k, c, hk, e, hf, ha⟩
    · rw [e]
      refine ⟨fun c hc => (by cases hc), fun _ d hd => ?_⟩
      obtain ⟨k, hk, ht, hx, _⟩ := hdown d hd
      have := ha k hk
      simp only [ht, if_true] at this
      obtain ⟨h1, h2, _, h4⟩ := hnext k hk ht
      exact (cycW_spec f (way ++ [k]) (by simp) h1 h2 h4).2 this d hx
    · rw [e]
      refine ⟨fun c' hc => ?_, fun hc => by cases hc⟩
      obtain rfl := Option.some.inj hc
      have ht : cycT g way k = true := by
        cases h : cycT g way k
        · simp [h] at hf
        · rfl
      simp only [ht, if_true] at hf
      obtain ⟨h1, h2, h3, h4⟩ := hnext k hk ht
      obtain ⟨hx, hlex⟩ := (cycW_spec f (way ++ [k]) (by simp) h1 h2 h4).1 c hf
      refine ⟨hup k hk ht c hx, fun d hd => ?_⟩
      obtain ⟨k', hk', ht', hx', e', he'⟩ := hdown d hd
      rcases Nat.lt_trichotomy k k' with h | h | h
      · obtain ⟨⟨e1, h11, _, _⟩, _, _⟩ := hx
        rw [h11, he', List.append_assoc]
        exact lexL_app way (.inl h)
      · subst h; exact hlex d hx'
      · have := ha k' h
        simp only [ht', if_true] at this
        obtain ⟨h1', h2', _, h4'⟩ := hnext k' hk' ht'
        exact absurd hx' ((cycW_spec f (way ++ [k']) (by simp) h1' h2' h4').2 this d)
/-- Of one length: from each node in turn. -/
def cycL (g : Nat → Nat → Bool) (n m : Nat) : Option (List Nat) := (List.range n).findSome? fun i => cycW g n (m - 1) [i]
/-- From the shortest on. -/
def cycD (g : Nat → Nat → Bool) (n : Nat) : Option (List Nat) := (List.range n).findSome? fun m => cycL g n (m + 1)
theorem one_row {g : Nat → Nat → Bool} {n i : Nat} (hi : i < n) : RdG g n [i] := ⟨fun x hx => by rw [List.mem_singleton.1 hx]; exact hi, fun a ha => by simp at ha⟩
theorem ext_of {g : Nat → Nat → Bool} {n m : Nat} {d : List Nat} (h : CycG g n d) (hnd : d.Nodup) (hm : d.length = m + 1) (hh : ∀ (h : 0 < d.length), ∀ x ∈ d, d[0] ≤ x) : ∃ i, i < n ∧ ExtC g n m [i] d ∧ ∃ e, d = i :: e := by
  cases d with
  | nil => simp at hm
  | cons i e =>
    refine ⟨i, h.1.1 i (List.mem_cons_self ..), ⟨⟨e, rfl, by simpa using hm, fun x hx => ?_⟩, h, hnd⟩, e, rfl⟩
    have h1 := hh (by simp) x (List.mem_cons_of_mem _ hx)
    have h2 : i ≠ x := fun e' => (List.nodup_cons.1 hnd).1 (e' ▸ hx)
    show i < x
    simp at h1
    omega
theorem cycL_spec {g : Nat → Nat → Bool} {n m : Nat} : (∀ c, cycL g n (m + 1) = some c → CycG g n c ∧ c.length = m + 1 ∧ (∀ (h : 0 < c.length), ∀ x ∈ c, c[0] ≤ x) ∧ ∀ d, CycG g n d → d.Nodup → d.length = m + 1 → (∀ (h : 0 < d.length), ∀ x ∈ d, d[0] ≤ x) → lexL c d) ∧ (cycL g n (m + 1) = none → ∀ d, CycG g n d → d.Nodup → d.length = m + 1 → ¬ ∀ (h : 0 < d.length), ∀ x ∈ d, d[0] ≤ x) := by
  have hsp : ∀ i, i < n → _ := fun i hi => cycW_spec (g := g) (n := n) m [i] (by simp) (one_row hi) (by simp) (fun x hx => by rw [List.mem_singleton.1 hx]; exact Nat.le_refl _)
  unfold cycL
  rw [Nat.add_sub_cancel]
  rcases findSome_cases (fun i => cycW g n m [i]) n with ⟨e, ha⟩ | ⟨i, c, hi, e, hf, ha⟩
  · rw [e]
    refine ⟨fun c hc => (by cases hc), fun _ d hd hnd hl hh => ?_⟩
    obtain ⟨i, hi, hx, _⟩ := ext_of hd hnd hl hh
    exact (hsp i hi).2 (ha i hi) d hx
  · rw [e]
    refine ⟨fun c' hc => ?_, fun hc => by cases hc⟩
    obtain rfl := Option.some.inj hc
    obtain ⟨hx, hlex⟩ := (hsp i hi).1 c hf
    obtain ⟨⟨e1, h1, h2, h3⟩, hcy, hnd⟩ := hx
    refine ⟨hcy, by rw [h1]; simp [h2], fun h0 x hxc => ?_, fun d hd hdn hl hh => ?_⟩
    · subst h1
      simp only [List.singleton_append, List.getElem_cons_zero]
      rcases List.mem_cons.1 hxc with rfl | hxc
      · exact Nat.le_refl _
      · exact Nat.le_of_lt (h3 x hxc)
    · obtain ⟨k, hk, hx', e', he'⟩ := ext_of hd hdn hl hh
      rcases Nat.lt_trichotomy i k with h | h | h
      · rw [h1, he']; exact .inl h
      · subst h; exact hlex d hx'
      · exact absurd hx' ((hsp k hk).2 (ha k h) d)
theorem cyc_few {g : Nat → Nat → Bool} {n : Nat} {c : List Nat} (h : CycG g n c) (hn : c.Nodup) : c.length ≤ n := by
  have := sub_len hn fun x hx => List.mem_range.2 (h.1.1 x hx)
  simpa using this
/-- The document's search tells the best one, or that nothing goes round. -/
theorem cycD_spec (g : Nat → Nat → Bool) (n : Nat) : (∃ c, cycD g n = some c ∧ BestC g n c) ∨ (cycD g n = none ∧ ∀ x, ¬ Way g n x x) := by
  unfold cycD
  rcases findSome_cases (fun m => cycL g n (m + 1)) n with ⟨e, ha⟩ | ⟨m, c, hm, e, hf, ha⟩
  · refine .inr ⟨e, fun x hw => ?_⟩
    obtain ⟨c, hc, hs, hh⟩ := cyc_short hw
    have hnd := cyc_simple hc hs
    have hl := cyc_few hc hnd
    have h0 := hc.2.1
    exact cycL_spec.2 (ha (c.length - 1) (by omega)) c hc hnd (by omega) hh
  · obtain ⟨hc, hl, hh, hlex⟩ := cycL_spec.1 c hf
    have hs : ∀ d, CycG g n d → c.length ≤ d.length := fun d hd => by
      obtain ⟨x, hw⟩ := cyc_way hd
      obtain ⟨b, hb, hbs, hbh⟩ := cyc_short hw
      have hnd := cyc_simple hb hbs
      have h0 := hb.2.1
      have h1 := hbs d hd
      refine Classical.byContradiction fun hlt => ?_
      exact cycL_spec.2 (ha (b.length - 1) (by omega)) b hb hnd (by omega) hbh
    exact .inl ⟨c, e, ⟨hc, hs, hh, fun d h0 hd hdl hdh => hlex d hd (cyc_simple hd fun b hb => by rw [hdl]; exact hs b hb) (by omega) (fun _ => hdh)⟩⟩
end Go.Proofs.YtibdchahallbjaaDoor
