/-
  The document's way to name a state of the search, in plain Lean; and that the search tells the same whatever the names, as long as they tell the same states apart.
-/
import Derived.Test.YtkbjaneekblgmaaGreatDoorPlainNZ
import Derived.Lib.JoinLaws
namespace Go.Proofs.YtkbjaneekblgmaaGreatDoor

/-- A number in base 16. -/
def d16 (u : Nat) : List UInt8 := if _h : u < 16 then [dig u] else d16 (u / 16) ++ [dig (u % 16)]
decreasing_by omega
theorem d16_small {u : Nat} (h : u < 16) : d16 u = [dig u] := by unfold d16; rw [dif_pos h]
theorem d16_big {u : Nat} (h : ¬ u < 16) : d16 u = d16 (u / 16) ++ [dig (u % 16)] := by rw [d16, dif_neg h]
def val16 (l : List UInt8) : Nat := l.foldl (fun m b => m * 16 + undig b) 0
theorem val_d16 (u : Nat) : val16 (d16 u) = u := by
  induction u using Nat.strongRecOn with
  | ind u ih =>
    by_cases h : u < 16
    · rw [d16_small h]; simp [val16, undig_dig (show u < 36 by omega)]
    · rw [d16_big h]
      have := ih (u / 16) (by omega)
      unfold val16 at this ⊢
      rw [List.foldl_append, this]
      simp only [List.foldl_cons, List.foldl_nil]
      rw [undig_dig (by omega)]
      omega
theorem d16_inj {u v : Nat} (h : d16 u = d16 v) : u = v := by rw [← val_d16 u, h, val_d16]
theorem d16_ne2 (u : Nat) : (59 : UInt8) ∉ d16 u := by
  induction u using Nat.strongRecOn with
  | ind u ih =>
    by_cases h : u < 16
    · rw [d16_small h]; simp; exact fun e => dig_ne2 (show u < 36 by omega) e.symm
    · rw [d16_big h]; simp; exact ⟨ih (u / 16) (by omega), fun e => dig_ne2 (by omega) e.symm⟩
theorem d16_length {u : Nat} : ∀ {k : Nat}, 0 < k → u < 16 ^ k → (d16 u).length ≤ k := by
  intro k
  induction k generalizing u with
  | zero => intro h; omega
  | succ k ih =>
    intro _ hu
    by_cases h : u < 16
    · rw [d16_small h]; simp
    · rw [d16_big h]
      have hk : 0 < k := by
        rcases Nat.eq_zero_or_pos k with rfl | h'
        · simp at hu; omega
        · exact h'
      have hu' : u < 16 * 16 ^ k := by rw [Nat.pow_succ] at hu; omega
      have := ih hk (u := u / 16) (by rw [Nat.div_lt_iff_lt_mul (by decide)]; omega)
      simp; exact this
theorem d16_length64 {u : Nat} (h : u < 18446744073709551616) : (d16 u).length ≤ 16 := d16_length (by decide) (Nat.lt_of_lt_of_le h (by decide))
theorem d16_pos (u : Nat) : 0 < (d16 u).length := by
  by_cases h : u < 16
  · rw [d16_small h]; simp
  · rw [d16_big h]; simp

/-- A state's row, and all keys' rows, as the document writes them; 'nb' writes a number. -/
def rowD (nb : Int → List UInt8) (st : List Int) : List UInt8 := st.flatMap fun x => nb x ++ [32]
theorem rowD_cons (nb : Int → List UInt8) (x : Int) (st : List Int) : rowD nb (x :: st) = nb x ++ 32 :: rowD nb st := by simp [rowD]
def keysD (nb : Int → List UInt8) (S : Int → List Int) (ks : List Nat) : List UInt8 := ks.flatMap fun k : Nat => 59 :: rowD nb (S (k : Int))
theorem keysD_cons (nb : Int → List UInt8) (S : Int → List Int) (k : Nat) (ks : List Nat) : keysD nb S (k :: ks) = 59 :: (rowD nb (S k) ++ keysD nb S ks) := by simp [keysD]
structure NbOK (nb : Int → List UInt8) : Prop where
  inj : ∀ x y, nb x = nb y → x = y
  ne32 : ∀ x, (32 : UInt8) ∉ nb x
  ne59 : ∀ x, (59 : UInt8) ∉ nb x
theorem rowD_ne {nb : Int → List UInt8} (h : NbOK nb) (st : List Int) : (59 : UInt8) ∉ rowD nb st := by
  intro hm
  obtain ⟨x, _, hx⟩ := List.mem_flatMap.1 hm
  rcases List.mem_append.1 hx with h' | h'
  · exact h.ne59 x h'
  · simp at h'
theorem rowD_inj {nb : Int → List UInt8} (h : NbOK nb) : ∀ {s t : List Int}, rowD nb s = rowD nb t → s = t
  | [], [], _ => rfl
  | [], y :: t, e => by rw [rowD_cons] at e; simp [rowD] at e
  | x :: s, [], e => by rw [rowD_cons] at e; simp [rowD] at e
  | x :: s, y :: t, e => by
    rw [rowD_cons, rowD_cons] at e
    obtain ⟨e1, e2⟩ := cut_at (h.ne32 x) (h.ne32 y) e
    rw [h.inj _ _ e1, rowD_inj h e2]
theorem keysD_inj {nb : Int → List UInt8} (h : NbOK nb) {S T : Int → List Int} : ∀ {ks : List Nat} {a b : List UInt8}, (59 : UInt8) ∉ a → (59 : UInt8) ∉ b → a ++ keysD nb S ks = b ++ keysD nb T ks → a = b ∧ ∀ k ∈ ks, S k = T k
  | [], a, b, _, _, e => by simpa [keysD] using e
  | k :: ks, a, b, ha, hb, e => by
    rw [keysD_cons, keysD_cons] at e
    obtain ⟨e1, e2⟩ := cut_at ha hb e
    obtain ⟨e3, e4⟩ := keysD_inj h (rowD_ne h _) (rowD_ne h _) e2
    exact ⟨e1, fun m hm => by
      rcases List.mem_cons.1 hm with rfl | hm
      · exact rowD_inj h e3
      · exact e4 m hm⟩

/-- The document's name of a state. -/
def nameD (nb : Int → List UInt8) (ord : List Nat) (S : Int → List Int) : List UInt8 := d16 (maskN ord) ++ keysD nb S (List.range 8)
theorem nameD_inj {nb : Int → List UInt8} (hnb : NbOK nb) {ord ord' : List Nat} {S S' : Int → List Int} (h : nameD nb ord S = nameD nb ord' S') : maskN ord = maskN ord' ∧ ∀ k : Nat, k < 8 → S k = S' k := by
  obtain ⟨e1, e2⟩ := keysD_inj hnb (d16_ne2 _) (d16_ne2 _) h
  exact ⟨d16_inj e1, fun k hk => e2 k (List.mem_range.2 hk)⟩
theorem keysD_same {nb : Int → List UInt8} {S S' : Int → List Int} : ∀ {ks : List Nat}, (∀ k : Nat, k ∈ ks → S k = S' k) → keysD nb S ks = keysD nb S' ks
  | [], _ => rfl
  | k :: ks, h => by rw [keysD_cons, keysD_cons, h k (by simp), keysD_same (fun m hm => h m (List.mem_cons_of_mem _ hm))]
theorem keysB_same {S S' : Int → List Int} : ∀ {ks : List Nat}, (∀ k : Nat, k ∈ ks → S k = S' k) → keysB S ks = keysB S' ks
  | [], _ => rfl
  | k :: ks, h => by rw [keysB_cons, keysB_cons, h k (by simp), keysB_same (fun m hm => h m (List.mem_cons_of_mem _ hm))]
theorem nameB_inj2 {ord ord' : List Nat} {S S' : Int → List Int} (h : nameB ord S = nameB ord' S') : maskN ord = maskN ord' ∧ ∀ k : Nat, k < 8 → S k = S' k := by
  obtain ⟨e1, e2⟩ := keysB_inj (d36_ne2 _) (d36_ne2 _) h
  exact ⟨d36_inj e1, fun k hk => e2 k (List.mem_range.2 hk)⟩

/-- Two ways to name that tell the same states apart. -/
theorem names_agree {nb : Int → List UInt8} (hnb : NbOK nb) (ord ord' : List Nat) (S S' : Int → List Int) : nameB ord S = nameB ord' S' ↔ nameD nb ord S = nameD nb ord' S' := by
  constructor
  · intro h
    obtain ⟨e1, e2⟩ := nameB_inj2 h
    unfold nameD
    rw [e1, keysD_same (fun k hk => e2 k (List.mem_range.1 hk))]
  · intro h
    obtain ⟨e1, e2⟩ := nameD_inj hnb h
    unfold nameB
    rw [e1, keysB_same (fun k hk => e2 k (List.mem_range.1 hk))]

/-! What the search tells hangs on no names. -/
section
variable {c c' : Sr} (hops : c.ops = c'.ops) (hst : ∀ S ord n, stepN c S ord n = stepN c' S ord n) (hbud : c.bud = c'.bud)
  (hnm : ∀ ord S ord' S', c.nm ord S = c.nm ord' S' ↔ c'.nm ord S = c'.nm ord' S')
abbrev Sts := List (List Nat × (Int → List Int))
def nmL (c : Sr) (l : Sts) : List (List UInt8) := l.map fun x => c.nm x.1 x.2
include hnm in
theorem nmL_mem (l : Sts) (ord : List Nat) (S : Int → List Int) : (nmL c l).contains (c.nm ord S) = (nmL c' l).contains (c'.nm ord S) := by
  rw [Bool.eq_iff_iff]
  simp only [nmL, List.contains_iff_mem, List.mem_map]
  constructor
  · rintro ⟨x, hx, e⟩; exact ⟨x, hx, (hnm _ _ _ _).1 e⟩
  · rintro ⟨x, hx, e⟩; exact ⟨x, hx, (hnm _ _ _ _).2 e⟩
/-- Two answers that part in names alone. -/
def SameRes (c c' : Sr) (r r' : Res) : Prop := r.code = r'.code ∧ r.ord = r'.ord ∧ ∃ l : Sts, r.ent = nmL c l ∧ r'.ent = nmL c' l
include hops hst in
theorem loop_names {vis vis' : (Int → List Int) → List Nat → List (List UInt8) → Res} {S : Int → List Int} {ord : List Nat}
    (hv : ∀ S' ord' (l : Sts), SameRes c c' (vis S' ord' (nmL c l)) (vis' S' ord' (nmL c' l))) :
    ∀ (r : List Nat) (l : Sts), SameRes c c' (loopM c vis S ord r (nmL c l)) (loopM c' vis' S ord r (nmL c' l))
  | [], l => ⟨rfl, rfl, l, rfl, rfl⟩
  | n :: r, l => by
    unfold loopM
    rw [← hst, ← hops]
    cases hs : stepN c S ord n with
    | none => exact loop_names hv r l
    | some st =>
      have h := hv (setK S (opN c.ops n).k st) (ord ++ [n]) l
      obtain ⟨h1, h2, l', h3, h4⟩ := h
      simp only
      by_cases hc : (vis (setK S (opN c.ops n).k st) (ord ++ [n]) (nmL c l)).code = 2
      · rw [if_pos hc, if_pos (h1 ▸ hc), h3, h4]
        exact loop_names hv r l'
      · rw [if_neg hc, if_neg (h1 ▸ hc)]
        exact ⟨h1, h2, l', h3, h4⟩
include hops hst hbud hnm in
theorem visit_names : ∀ (f : Nat) (S : Int → List Int) (ord : List Nat) (l : Sts), SameRes c c' (visitM c f S ord (nmL c l)) (visitM c' f S ord (nmL c' l))
  | 0, S, ord, l => ⟨rfl, rfl, l, rfl, rfl⟩
  | f + 1, S, ord, l => by
    unfold visitM
    rw [← hops, nmL_mem hnm, ← hbud]
    by_cases h1 : overB c.ops ord = true
    · rw [if_pos h1, if_pos h1]; exact ⟨rfl, rfl, l, rfl, rfl⟩
    · rw [if_neg h1, if_neg h1]
      by_cases h2 : (nmL c' l).contains (c'.nm ord S) = true
      · rw [if_pos h2, if_pos h2]; exact ⟨rfl, rfl, l, rfl, rfl⟩
      · rw [if_neg h2, if_neg h2]
        have hl : (nmL c l).length = (nmL c' l).length := by simp [nmL]
        by_cases h3 : (nmL c l).length = c.bud
        · rw [if_pos h3, if_pos (hl ▸ h3)]; exact ⟨rfl, rfl, l, rfl, rfl⟩
        · rw [if_neg h3, if_neg (fun e => h3 (hl.trans e))]
          have := loop_names hops hst (S := S) (ord := ord) (fun S' ord' l => visit_names f S' ord' l) (List.range c.ops.length) ((ord, S) :: l)
          exact this
include hops hst hbud hnm in
theorem search_names (ho : c.o = c'.o) : (searchM c).code = (searchM c').code ∧ (searchM c).ord = (searchM c').ord ∧ (searchM c).ent.length = (searchM c').ent.length := by
  obtain ⟨h1, h2, l, h3, h4⟩ := visit_names hops hst hbud hnm (c.ops.length + 1) (fun _ => startL c.o) [] []
  have e : searchM c' = visitM c' (c.ops.length + 1) (fun _ => startL c.o) [] (nmL c' []) := by unfold searchM; rw [hops, ho]; rfl
  have e0 : searchM c = visitM c (c.ops.length + 1) (fun _ => startL c.o) [] (nmL c []) := rfl
  rw [e, e0]
  exact ⟨h1, h2, by rw [h3, h4]; simp [nmL]⟩
end
end Go.Proofs.YtkbjaneekblgmaaGreatDoor
