/-
  Chapter 8 in plain Lean: what Check tells of versions, which pairs are broken.
  Versions in memory; where a value stands, what an op writes or reads, its age: walked.
  Package session's Check, walked.
-/
import Derived.Test.YtfojmbbhcmeejaaDoorZnPZ
import Derived.Test.YtfojmbbhcmeejaaDoorAhWZ
import Derived.Test.YtfojmbbhcmeejaaDoorWalkK
import Derived.BigQuiet
import Derived.Deep.RegionHeld3
namespace Go.Proofs.YtfojmbbhcmeejaaDoor

def valO (x : Opn) : Int := if x.d = 2 then x.a else x.r
/-- Where a value stands in a list, the first time; -1: nowhere. -/
def idxI (xs : List Int) (v : Int) : Int := ((firstN (fun i => xs.getD i 0 == v) xs.length).map fun n : Nat => (n : Int)).getD (-1)
theorem idxI_at {xs : List Int} {v : Int} {k : Nat} (hk : k < xs.length) (ha : ∀ j, j < k → (xs.getD j 0 == v) = false) (h : (xs.getD k 0 == v) = true) : idxI xs v = k := by unfold idxI; rw [firstN_at hk ha h]; rfl
theorem idxI_none {xs : List Int} {v : Int} (ha : ∀ j, j < xs.length → (xs.getD j 0 == v) = false) : idxI xs v = -1 := by unfold idxI; rw [firstN_none ha]; rfl
theorem idxI_cases (xs : List Int) (v : Int) : (idxI xs v = -1 ∧ v ∉ xs) ∨ ∃ k : Nat, k < xs.length ∧ idxI xs v = k ∧ xs.getD k 0 = v ∧ ∀ j, j < k → xs.getD j 0 ≠ v := by
  rcases firstN_cases (fun i => xs.getD i 0 == v) xs.length with ⟨e, h⟩ | ⟨k, hk, e, h1, h2⟩
  · refine .inl ⟨by unfold idxI; rw [e]; rfl, fun hm => ?_⟩
    obtain ⟨i, hi, ei⟩ := List.getElem_of_mem hm
    have := h i hi
    rw [List.getD_eq_getElem?_getD, List.getElem?_eq_getElem hi] at this
    simp [ei] at this
  · exact .inr ⟨k, hk, by unfold idxI; rw [e]; rfl, by simpa using h1, fun j hj => by simpa using h2 j hj⟩
theorem idxI_neg {xs : List Int} {v : Int} : decide (0 ≤ idxI xs v) = xs.contains v := by
  rcases idxI_cases xs v with ⟨e, h⟩ | ⟨k, hk, e, h, _⟩
  · rw [e]; simp [h]
  · rw [e]
    have : v ∈ xs := by
      rw [← h, List.getD_eq_getElem?_getD, List.getElem?_eq_getElem hk]
      exact List.getElem_mem hk
    simp [this]

def rowI (V : List (List Int)) (k : Int) : List Int := V.getD k.toNat []
/-- How many of the first ops write a key. -/
def wrN (l : List Opn) (q : Int) : Nat → Nat
  | 0 => 0
  | k + 1 => wrN l q k + (if (opZ l k).d = 2 ∧ (opZ l k).k = q then 1 else 0)
theorem wrN_le (l : List Opn) (q : Int) : ∀ k, wrN l q k ≤ k
  | 0 => Nat.le_refl _
  | k + 1 => by have := wrN_le l q k; unfold wrN; split <;> omega
/-- Of one op: is its value there? -/
def vFaultAt (l : List Opn) (V : List (List Int)) (j : Nat) : Int :=
  if (rowI V (opZ l j).k).contains (valO (opZ l j)) then 0 else if (opZ l j).d = 2 then 7 else if (opZ l j).r = 0 then 0 else 8
/-- Of one key: is its list as long as there are writes? -/
def lFaultAt (l : List Opn) (V : List (List Int)) (q : Nat) : Int := if (rowI V q).length = wrN l q l.length then 0 else 3
/-- What Check tells of ops that may be looked at. -/
def VsTold (l : List Opn) (V : List (List Int)) (n : Int) : Prop :=
  (V.length ≠ 8 ∧ n = 3) ∨ (V.length = 8 ∧ ∃ m, First (vFaultAt l V) l.length m ∧ ((m ≠ 0 ∧ n = m) ∨ (m = 0 ∧ First (lFaultAt l V) 8 n)))
def STold (l : List Opn) (V : List (List Int)) (n : Int) : Prop := ∃ m, KTold l m ∧ ((m ≠ 0 ∧ n = m) ∨ (m = 0 ∧ VsTold l V n))
theorem VsTold.one {l : List Opn} {V : List (List Int)} {n m : Int} (h1 : VsTold l V n) (h2 : VsTold l V m) : n = m := by
  rcases h1 with ⟨a, rfl⟩ | ⟨a, x, fx, h1⟩
  · rcases h2 with ⟨_, rfl⟩ | ⟨b, _⟩
    · rfl
    · exact absurd b a
  · rcases h2 with ⟨b, _⟩ | ⟨_, y, fy, h2⟩
    · exact absurd a b
    · obtain rfl := fx.one fy
      rcases h1 with ⟨c, rfl⟩ | ⟨c, f⟩
      · rcases h2 with ⟨_, rfl⟩ | ⟨d, _⟩
        · rfl
        · exact absurd d c
      · rcases h2 with ⟨d, _⟩ | ⟨_, g⟩
        · exact absurd c d
        · exact f.one g
theorem STold.one {l : List Opn} {V : List (List Int)} {n m : Int} (h1 : STold l V n) (h2 : STold l V m) : n = m := by
  obtain ⟨x, tx, h1⟩ := h1
  obtain ⟨y, ty, h2⟩ := h2
  obtain rfl := tx.one ty
  rcases h1 with ⟨a, rfl⟩ | ⟨a, f⟩
  · rcases h2 with ⟨_, rfl⟩ | ⟨b, _⟩
    · rfl
    · exact absurd b a
  · rcases h2 with ⟨b, _⟩ | ⟨_, g⟩
    · exact absurd a b
    · exact f.one g

/-- What is known of versions that fit. -/
structure SOk (l : List Opn) (V : List (List Int)) : Prop where
  ok : KOk l
  eight : V.length = 8
  has : ∀ i, i < l.length → (opZ l i).d = 2 → (opZ l i).a ∈ rowI V (opZ l i).k
  read : ∀ i, i < l.length → (opZ l i).d = 1 → (opZ l i).r ≠ 0 → (opZ l i).r ∈ rowI V (opZ l i).k
  len : ∀ q : Nat, q < 8 → (rowI V q).length = wrN l q l.length
theorem sOk_of {l : List Opn} {V : List (List Int)} (h : STold l V 0) : SOk l V := by
  obtain ⟨m, t, h⟩ := h
  rcases h with ⟨a, e⟩ | ⟨rfl, h⟩
  · exact absurd e.symm a
  have ok := kOk_of t
  rcases h with ⟨_, e⟩ | ⟨h8, m, f, h⟩
  · exact absurd e (by decide)
  rcases h with ⟨a, e⟩ | ⟨rfl, g⟩
  · exact absurd e.symm a
  have hf := f.zero
  have hg := g.zero
  refine ⟨ok, h8, fun i hi hd => ?_, fun i hi hd hr => ?_, fun q hq => ?_⟩
  · have := hf i hi
    unfold vFaultAt at this
    have hv : valO (opZ l i) = (opZ l i).a := by unfold valO; rw [if_pos hd]
    rw [hv, if_pos hd] at this
    by_cases hc : (rowI V (opZ l i).k).contains (opZ l i).a = true
    · simpa using hc
    · rw [if_neg hc] at this; exact absurd this (by decide)
  · have := hf i hi
    unfold vFaultAt at this
    have hv : valO (opZ l i) = (opZ l i).r := by unfold valO; rw [if_neg (by omega)]
    rw [hv, if_neg (show ¬ (opZ l i).d = 2 by omega), if_neg hr] at this
    by_cases hc : (rowI V (opZ l i).k).contains (opZ l i).r = true
    · simpa using hc
    · rw [if_neg hc] at this; exact absurd this (by decide)
  · have := hg q hq
    unfold lFaultAt at this
    by_cases hc : (rowI V q).length = wrN l q l.length
    · exact hc
    · rw [if_neg hc] at this; exact absurd this (by decide)

theorem nodup_le {α : Type} [DecidableEq α] : ∀ {W L : List α}, W.Nodup → (∀ x ∈ W, x ∈ L) → W.length ≤ L.length
  | [], _, _, _ => Nat.zero_le _
  | x :: W, L, hn, hs => by
    have hx : x ∈ L := hs x (by simp)
    have hn' := List.nodup_cons.1 hn
    have := nodup_le (W := W) (L := L.erase x) hn'.2 fun y hy => (List.mem_erase_of_ne (fun e => hn'.1 (by rw [← e]; exact hy))).2 (hs y (by simp [hy]))
    rw [List.length_erase_of_mem hx] at this
    have hpos : 0 < L.length := List.length_pos_of_mem hx
    simp; omega

/-- The values that the first ops write to a key. -/
def wrV (l : List Opn) (q : Int) : Nat → List Int
  | 0 => []
  | k + 1 => if (opZ l k).d = 2 ∧ (opZ l k).k = q then (opZ l k).a :: wrV l q k else wrV l q k
theorem wrV_len (l : List Opn) (q : Int) : ∀ k, (wrV l q k).length = wrN l q k
  | 0 => rfl
  | k + 1 => by
    have ih := wrV_len l q k
    unfold wrV wrN
    split
    · rw [List.length_cons, ih]
    · rw [ih]; rfl
theorem wrV_mem {l : List Opn} {q : Int} : ∀ {k v}, v ∈ wrV l q k → ∃ i, i < k ∧ (opZ l i).d = 2 ∧ (opZ l i).k = q ∧ (opZ l i).a = v
  | 0, v, h => by cases h
  | k + 1, v, h => by
    unfold wrV at h
    split at h
    · next e =>
      rcases List.mem_cons.1 h with h | h
      · exact ⟨k, by omega, e.1, e.2, h.symm⟩
      · obtain ⟨i, hi, r⟩ := wrV_mem h; exact ⟨i, by omega, r⟩
    · obtain ⟨i, hi, r⟩ := wrV_mem h; exact ⟨i, by omega, r⟩
theorem wrV_nodup {l : List Opn} (ok : KOk l) (q : Int) : ∀ k, k ≤ l.length → (wrV l q k).Nodup
  | 0, _ => List.nodup_nil
  | k + 1, hk => by
    have ih := wrV_nodup ok q k (by omega)
    unfold wrV
    split
    · next e =>
      refine List.nodup_cons.2 ⟨fun hm => ?_, ih⟩
      obtain ⟨i, hi, h1, h2, h3⟩ := wrV_mem hm
      have := ok.once i k (by omega) (by omega) h1 e.1 (h2.trans e.2.symm) h3
      omega
    · exact ih
/-- Of versions that fit no list holds 0. -/
theorem SOk.zero {l : List Opn} {V : List (List Int)} (h : SOk l V) {q : Nat} (hq : q < 8) : (0 : Int) ∉ rowI V q := fun h0 => by
  have hn : (0 :: wrV l q l.length).Nodup := List.nodup_cons.2 ⟨fun hm => by
    obtain ⟨i, hi, h1, _, h3⟩ := wrV_mem hm
    exact (h.ok.write i hi h1).1 h3, wrV_nodup h.ok q _ (Nat.le_refl _)⟩
  have := nodup_le (L := rowI V q) hn fun x hx => by
    rcases List.mem_cons.1 hx with rfl | hx
    · exact h0
    · obtain ⟨i, hi, h1, h2, h3⟩ := wrV_mem hx
      have := h.has i hi h1
      rw [h2, h3] at this; exact this
  rw [List.length_cons, wrV_len, h.len q hq] at this
  omega

/-! ### which pairs are broken -/
/-- The age of an op's value. -/
def ageI (V : List (List Int)) (x : Opn) : Int := if valO x = 0 then -1 else idxI (rowI V x.k) (valO x)
def fallB (V : List (List Int)) (x y : Opn) : Bool := x.p == y.p && (x.k == y.k && decide (ageI V y < ageI V x))
def nameI (d e : Int) : Nat := if d = 2 ∧ e = 1 then 0 else if d = 1 ∧ e = 1 then 1 else if d = 2 ∧ e = 2 then 2 else 3
/-- A later one k, an earlier one i. -/
def brkB (l : List Opn) (V : List (List Int)) (g k i : Nat) : Bool := decide (i < k) && (fallB V (opZ l i) (opZ l k) && nameI (opZ l i).d (opZ l k).d == g)
/-- The pair told: the earlier one, the later one. -/
def brkI (l : List Opn) (V : List (List Int)) (g : Nat) : Int × Int := match firstP (brkB l V g) l.length with
  | some (k, i) => (i, k)
  | none => (-1, -1)

theorem ageI_idx {l : List Opn} {V : List (List Int)} (h : SOk l V) {i : Nat} (hi : i < l.length) : idxI (rowI V (opZ l i).k) (valO (opZ l i)) = ageI V (opZ l i) := by
  unfold ageI
  by_cases hv : valO (opZ l i) = 0
  · rw [if_pos hv, hv]
    have hk := (h.ok.num i hi).1
    obtain ⟨q, hq⟩ : ∃ q : Nat, (opZ l i).k = q := ⟨(opZ l i).k.toNat, by omega⟩
    have h0 := h.zero (q := q) (by omega)
    rw [hq]
    rcases idxI_cases (rowI V q) 0 with ⟨e, _⟩ | ⟨k, hk', e, h1, _⟩
    · exact e
    · exact absurd (by rw [← h1, List.getD_eq_getElem?_getD, List.getElem?_eq_getElem hk']; exact List.getElem_mem hk') h0
  · rw [if_neg hv]

end Go.Proofs.YtfojmbbhcmeejaaDoor

namespace Go.Proofs.YtfojmbbhcmeejaaDoor
open Go.RowKit

/-- Versions: a list of lists of numbers. -/
def VersAt (w : World) (v : Value) (V : List (List Int)) : Prop :=
  ∃ a cap, v = .slice a V.length cap ∧ V.length ≤ cap ∧ (V = [] ∨ ∃ b off, a = some ⟨b, off, none⟩ ∧ b < w.heap.size ∧ ∀ j, (hj : j < V.length) → ∃ s, w.cell? ⟨b, off + j, none⟩ = some s ∧ HasInts w s V[j])
theorem VersAt.below {w w' : World} {v : Value} {V : List (List Int)} (h : VersAt w v V) (hb : Below w.heap.size w w') : VersAt w' v V := by
  obtain ⟨a, cap, e, hc, h⟩ := h
  refine ⟨a, cap, e, hc, ?_⟩
  rcases h with h | ⟨b, off, ea, hlt, h⟩
  · exact .inl h
  · refine .inr ⟨b, off, ea, Nat.lt_of_lt_of_le hlt hb.size, fun j hj => ?_⟩
    obtain ⟨s, h1, h2⟩ := h j hj
    exact ⟨s, (hb.cell (p := ⟨b, off + j, none⟩) hlt).trans h1, h2.below hb⟩
/-- All its lists are short. -/
def ShortV (V : List (List Int)) : Prop := V.length ≤ 9223372036854775807 ∧ ∀ xs ∈ V, xs.length ≤ 9223372036854775807
theorem ShortV.row {V : List (List Int)} (h : ShortV V) (q : Int) : (rowI V q).length ≤ 9223372036854775807 := by
  unfold rowI
  rw [List.getD_eq_getElem?_getD]
  cases e : V[q.toNat]? with
  | none => simp
  | some xs => exact h.2 xs (List.mem_of_getElem? e)

set_option maxHeartbeats 1000000 in
theorem index_any (xs : List Int) (v : Int) (s : Value) (w : World) (h : HasInts w s xs) (hlen : xs.length ≤ 9223372036854775807) :
    Calls Tryd.prog 60 #[s, .int .i64 v] w fun e w' => e = .returned (.int .i64 (idxI xs v)) ∧ w' = w := by
  obtain ⟨a, cap, rfl, hc, hm, _, hh⟩ := h
  have HH := hideIt hh
  clear hh
  go_enter Tryd.func60, Tryd.ntmps60
  go_wp2
  go_loopw [8] (fun i wr => ∃ k : Nat, k ≤ xs.length ∧ i = .int .i64 k ∧ (∀ j, j < k → (xs.getD j 0 == v) = false) ∧ wr = w) (fun i _ => xs.length - (intOf i).toNat)
  case atStart => exact ⟨0, Nat.zero_le _, rfl, fun j hj => absurd hj (by omega), rfl⟩
  case round =>
    obtain ⟨k, hk, rfl, ha, rfl⟩ := hrel
    have HA := hideIt ha
    clear ha
    by_cases hkl : k < xs.length
    · obtain ⟨b, off, rfl, hcell⟩ : ∃ b off, a = some ⟨b, off, none⟩ ∧ ∀ j, (hj : j < xs.length) → wr.cell? ⟨b, off + j, none⟩ = some (.int .i64 xs[j]) := by
        rcases HH.out with h | h
        · subst h; simp at hkl
        · exact h
      have c1 := hcell k hkl
      have HX : Hid (xs.getD k 0 = xs[k]) := by show xs.getD k 0 = xs[k]; rw [List.getD_eq_getElem?_getD, List.getElem?_eq_getElem hkl]; rfl
      generalize xs[k] = x at c1 HX
      clear hcell
      by_cases hx : v = x
      · have hx' : (v == x) = true := by simp [hx]
        have R1 : Hid (idxI xs v = k) := idxI_at hkl HA.out (by rw [HX.out]; simp [hx])
        clear hx
        go_wp2
        go_ret
        exact ⟨ret_intK R1.out.symm, rfl⟩
      · have hx' : (v == x) = false := by simp [hx]
        have R1 : Hid (∀ j, j < k + 1 → (xs.getD j 0 == v) = false) := fun j hj => by
          by_cases e : j = k
          · subst e; rw [HX.out]; simp; exact fun h => hx h.symm
          · exact HA.out j (by omega)
        clear hx
        go_wp2
        go_roundw
        case rel => exact ⟨k + 1, by omega, by go_num, R1.out, by simp⟩
        case measure => simp [intOf]; omega
    · have R1 : Hid (idxI xs v = -1) := idxI_none fun j hj => HA.out j (by omega)
      go_wp2
      go_ret
      exact ⟨ret_intK R1.out.symm, rfl⟩

set_option maxHeartbeats 1000000 in
theorem rIndex_any (xs : List Int) (v : Int) (s : Value) (w : World) (h : HasInts w s xs) (hlen : xs.length ≤ 9223372036854775807) :
    Calls Tryd.prog 37 #[s, .int .i64 v] w fun e w' => e = .returned (.int .i64 (idxI xs v)) ∧ w' = w := by
  obtain ⟨a, cap, rfl, hc, hm, _, hh⟩ := h
  have HH := hideIt hh
  clear hh
  go_enter Tryd.func37, Tryd.ntmps37
  go_wp2
  go_loopw [9] (fun i wr => ∃ k : Nat, k ≤ xs.length ∧ i = .int .i64 k ∧ (∀ j, j < k → (xs.getD j 0 == v) = false) ∧ wr = w) (fun i _ => xs.length - (intOf i).toNat)
  case atStart => exact ⟨0, Nat.zero_le _, rfl, fun j hj => absurd hj (by omega), rfl⟩
  case round =>
    obtain ⟨k, hk, rfl, ha, rfl⟩ := hrel
    have HA := hideIt ha
    clear ha
    by_cases hkl : k < xs.length
    · obtain ⟨b, off, rfl, hcell⟩ : ∃ b off, a = some ⟨b, off, none⟩ ∧ ∀ j, (hj : j < xs.length) → wr.cell? ⟨b, off + j, none⟩ = some (.int .i64 xs[j]) := by
        rcases HH.out with h | h
        · subst h; simp at hkl
        · exact h
      have c1 := hcell k hkl
      have HX : Hid (xs.getD k 0 = xs[k]) := by show xs.getD k 0 = xs[k]; rw [List.getD_eq_getElem?_getD, List.getElem?_eq_getElem hkl]; rfl
      generalize xs[k] = x at c1 HX
      clear hcell
      by_cases hx : x = v
      · have hx' : (x == v) = true := by simp [hx]
        have R1 : Hid (idxI xs v = k) := idxI_at hkl HA.out (by rw [HX.out]; simp [hx])
        clear hx
        go_wp2
        go_ret
        exact ⟨ret_intK R1.out.symm, rfl⟩
      · have hx' : (x == v) = false := by simp [hx]
        have R1 : Hid (∀ j, j < k + 1 → (xs.getD j 0 == v) = false) := fun j hj => by
          by_cases e : j = k
          · subst e; rw [HX.out]; simp; exact hx
          · exact HA.out j (by omega)
        clear hx
        go_wp2
        go_roundw
        case rel => exact ⟨k + 1, by omega, by go_num, R1.out, by simp⟩
        case measure => simp [intOf]; omega
    · have R1 : Hid (idxI xs v = -1) := idxI_none fun j hj => HA.out j (by omega)
      go_wp2
      go_ret
      exact ⟨ret_intK R1.out.symm, rfl⟩

set_option maxHeartbeats 400000 in
theorem contains_any (xs : List Int) (v : Int) (s : Value) (w : World) (h : HasInts w s xs) (hlen : xs.length ≤ 9223372036854775807) :
    Calls Tryd.prog 42 #[s, .int .i64 v] w fun e w' => e = .returned (.bool (xs.contains v)) ∧ w' = w := by
  have HC := hideIt (index_any xs v s w h hlen)
  have HE := hideIt (idxI_neg (xs := xs) (v := v))
  clear h
  go_enter Tryd.func42, Tryd.ntmps42
  go_wp2_with fail
  refine HC.out.mono ?_
  rintro e w2 ⟨rfl, rfl⟩
  go_wp2
  go_ret
  exact ⟨ret_boolZ (by rw [← HE.out]), rfl⟩

set_option maxHeartbeats 400000 in
theorem valueOf_any (x : Opn) (w : World) : Calls Tryd.prog 43 #[x.agg] w fun e w' => e = .returned (.int .i64 (valO x)) ∧ Below w.heap.size w w' := by
  unfold Opn.agg
  go_enter Tryd.func43, Tryd.ntmps43
  go_wp2
  all_goals (go_ret; exact ⟨ret_intK (by simp_all [valO]), belA (Below.refl _ _) _⟩)
set_option maxHeartbeats 400000 in
theorem rValue_any (x : Opn) (w : World) : Calls Tryd.prog 38 #[x.agg] w fun e w' => e = .returned (.int .i64 (valO x)) ∧ Below w.heap.size w w' := by
  unfold Opn.agg
  go_enter Tryd.func38, Tryd.ntmps38
  go_wp2
  all_goals (go_ret; exact ⟨ret_intK (by simp_all [valO]), belA (Below.refl _ _) _⟩)
set_option maxHeartbeats 400000 in
theorem nameOf_any (d e : Int) (w : World) : Calls Tryd.prog 41 #[.int .i64 d, .int .i64 e] w fun x w' => x = .returned (.int .i64 (nameI d e : Nat)) ∧ w' = w := by
  go_enter Tryd.func41, Tryd.ntmps41
  go_wp2
  all_goals (go_ret; exact ⟨ret_intK (by simp_all [nameI]), rfl⟩)

/-- A row of versions, off its key. -/
theorem VersAt.row {w : World} {v : Value} {V : List (List Int)} (h : VersAt w v V) (h8 : V.length = 8) : ∃ b off cap, v = .slice (some ⟨b, off, none⟩) 8 cap ∧ 8 ≤ cap ∧ b < w.heap.size ∧ ∀ q : Nat, q < 8 → ∃ s, w.cell? ⟨b, off + q, none⟩ = some s ∧ HasInts w s (rowI V q) := by
  obtain ⟨a, cap, e, hc, h⟩ := h
  rw [h8] at e hc
  rcases h with h | ⟨b, off, ea, hlt, h⟩
  · subst h; simp at h8
  · subst ea
    refine ⟨b, off, cap, e, hc, hlt, fun q hq => ?_⟩
    obtain ⟨s, h1, h2⟩ := h q (by omega)
    refine ⟨s, h1, ?_⟩
    rw [show rowI V q = V[q]'(by omega) from by unfold rowI; rw [Int.toNat_natCast, List.getD_eq_getElem?_getD, List.getElem?_eq_getElem (by omega)]; rfl]
    exact h2

set_option maxRecDepth 100000 in
set_option maxHeartbeats 1000000 in
theorem age_any (x : Opn) (V : List (List Int)) (v : Value) (w : World) (h : VersAt w v V) (h8 : V.length = 8) (hs : ShortV V) (hk : 0 ≤ x.k ∧ x.k ≤ 7) :
    Calls Tryd.prog 59 #[v, x.agg] w fun e w' => e = .returned (.int .i64 (ageI V x)) ∧ Below w.heap.size w w' := by
  obtain ⟨q, hq⟩ : ∃ q : Nat, x.k = q := ⟨x.k.toNat, by omega⟩
  have hq8 : q < 8 := by omega
  obtain ⟨b, off, cap, rfl, hcap, hb, hrow⟩ := h.row h8
  have HV := hideIt (valueOf_any x (w.alloc (.cells #[.int .i64 x.p, .int .i64 x.k, .int .i64 x.d, .int .i64 x.a, .int .i64 x.b, .int .i64 x.r, .int .i64 x.c, .int .i64 x.e] 48)))
  obtain ⟨s, h1, h2⟩ := hrow q hq8
  obtain ⟨sa, sn, sc, hsl⟩ : ∃ sa sn sc, s = .slice sa sn sc := by
    obtain ⟨sa, sc, e, _⟩ := h2
    exact ⟨sa, _, sc, e⟩
  subst hsl
  have HK : Hid (∀ w2, Below w.heap.size w w2 → w2.cell? ⟨b, off + q, none⟩ = some (.slice sa sn sc) ∧ ∀ u, Calls Tryd.prog 60 #[.slice sa sn sc, .int .i64 u] w2 fun e w' => e = .returned (.int .i64 (idxI (rowI V q) u)) ∧ w' = w2) := fun w2 hb2 =>
    ⟨(hb2.cell (p := ⟨b, off + q, none⟩) hb).trans h1, fun u => index_any _ u _ w2 (h2.below hb2) (hs.row q)⟩
  have hA : ageI V x = if valO x = 0 then -1 else idxI (rowI V q) (valO x) := by unfold ageI; rw [hq]
  clear h hrow h1 h2 hk
  unfold Opn.agg at HV ⊢
  rw [hq] at HV ⊢
  generalize valO x = u at HV hA
  by_cases hu : u = 0
  · subst hu
    rw [if_pos rfl] at hA
    have HA := hideIt hA
    clear hA
    go_enter Tryd.func59, Tryd.ntmps59
    go_wp2_with (go_at_call 43; refine HV.out.mono ?_; rintro e w2 ⟨rfl, hb2⟩)
    go_ret
    exact ⟨ret_intK HA.out.symm, belJ (belA (Below.refl _ _) _) hb2⟩
  · have hu' : (u == 0) = false := by simp [hu]
    rw [if_neg hu] at hA
    have HA := hideIt hA
    clear hA hu
    have hq8I : (q : Int) < 8 := by omega
    have hc8I : (8 : Int) ≤ (cap : Int) := by omega
    go_enter Tryd.func59, Tryd.ntmps59
    go_wp2_with fail
    refine HV.out.mono ?_
    rintro e w2 ⟨rfl, hb2⟩
    have e1 : w2.cell? ⟨w.heap.size, 1, none⟩ = some (.int .i64 q) := by rw [hb2.cell (p := ⟨w.heap.size, 1, none⟩) (by simp)]; simp
    have HB2 := hideIt (show Below w.heap.size w w2 from belJ (belA (Below.refl _ _) _) hb2)
    obtain ⟨k1, k2⟩ := HK.out w2 HB2.out
    have HK2 := hideIt k2
    clear hb2 k2
    go_wp2_with (go_at_call 60; refine (HK2.out _).mono ?_; rintro e w3 ⟨rfl, rfl⟩)
    go_ret
    exact ⟨ret_intK HA.out.symm, HB2.out⟩

set_option maxRecDepth 100000 in
set_option maxHeartbeats 2000000 in
theorem fallsBack_any (x y : Opn) (V : List (List Int)) (v : Value) (w : World) (h : VersAt w v V) (h8 : V.length = 8) (hs : ShortV V) (hx : 0 ≤ x.k ∧ x.k ≤ 7) (hy : 0 ≤ y.k ∧ y.k ≤ 7) :
    Calls Tryd.prog 40 #[v, x.agg, y.agg] w fun e w' => e = .returned (.bool (fallB V x y)) ∧ Below w.heap.size w w' := by
  have HAg : Hid (∀ W z, 0 ≤ z.k ∧ z.k ≤ 7 → Below w.heap.size w W → Calls Tryd.prog 59 #[v, Opn.agg z] W fun e w' => e = .returned (.int .i64 (ageI V z)) ∧ Below W.heap.size W w') := fun W z hz hW => age_any z V v W (h.below hW) h8 hs hz
  obtain ⟨va, vn, vc, rfl⟩ : ∃ va vn vc, v = .slice va vn vc := by
    obtain ⟨a, cap, e, _⟩ := h
    exact ⟨a, _, cap, e⟩
  have hbox : ∀ W, W = (w.alloc (.cells #[.int .i64 x.p, .int .i64 x.k, .int .i64 x.d, .int .i64 x.a, .int .i64 x.b, .int .i64 x.r, .int .i64 x.c, .int .i64 x.e] 48)).alloc (.cells #[.int .i64 y.p, .int .i64 y.k, .int .i64 y.d, .int .i64 y.a, .int .i64 y.b, .int .i64 y.r, .int .i64 y.c, .int .i64 y.e] 48) →
      OpAt W w.heap.size 0 x ∧ OpAt W (w.heap.size + 1) 0 y ∧ w.heap.size < W.heap.size ∧ w.heap.size + 1 < W.heap.size ∧ Below w.heap.size w W := by
    rintro W rfl
    refine ⟨⟨?_, ?_, ?_, ?_, ?_, ?_, ?_, ?_⟩, ⟨?_, ?_, ?_, ?_, ?_, ?_, ?_, ?_⟩, ?_, ?_, belA (belA (Below.refl _ _) _) _⟩ <;> first | (simp; done) | (simp; omega)
  have HBox := hideIt hbox
  clear h hbox
  have HFB : Hid (fallB V x y = (x.p == y.p && (x.k == y.k && decide (ageI V y < ageI V x)))) := rfl
  unfold Opn.agg
  by_cases hp : x.p = y.p
  · have hp' : (x.p == y.p) = true := by simp [hp]
    by_cases hk : x.k = y.k
    · have hk' : (x.k == y.k) = true := by simp [hk]
      have R : Hid (fallB V x y = decide (ageI V y < ageI V x)) := by show fallB V x y = _; rw [HFB.out, hp', hk']; rfl
      have HA1 : Hid (∀ W, Below w.heap.size w W → Calls Tryd.prog 59 #[.slice va vn vc, Opn.agg x] W fun e w' => e = .returned (.int .i64 (ageI V x)) ∧ Below W.heap.size W w') := fun W hW => HAg.out W x hx hW
      have HA2 : Hid (∀ W, Below w.heap.size w W → Calls Tryd.prog 59 #[.slice va vn vc, Opn.agg y] W fun e w' => e = .returned (.int .i64 (ageI V y)) ∧ Below W.heap.size W w') := fun W hW => HAg.out W y hy hW
      clear HAg HFB hp hk
      generalize ageI V x = ax at HA1 R
      generalize ageI V y = ay at HA2 R
      unfold Opn.agg at HA1 HA2
      go_enter Tryd.func40, Tryd.ntmps40
      go_wp2_with fail
      generalize hW0 : (w.alloc _).alloc _ = W0
      obtain ⟨hox, hoy, hXl, hYl, hb0⟩ := HBox.out W0 hW0.symm
      generalize hX : w.heap.size = X at hox hoy hXl hYl ⊢
      generalize hY : X + 1 = Y at hoy hYl ⊢
      have HS : Hid (∀ w1, Below W0.heap.size W0 w1 → w1.cell? ⟨X, 0, none⟩ = some (.int .i64 x.p) ∧ w1.cell? ⟨X, 0 + 1, none⟩ = some (.int .i64 x.k) ∧ w1.cell? ⟨X, 0 + 2, none⟩ = some (.int .i64 x.d) ∧ w1.cell? ⟨X, 0 + 3, none⟩ = some (.int .i64 x.a) ∧ w1.cell? ⟨X, 0 + 4, none⟩ = some (.int .i64 x.b) ∧ w1.cell? ⟨X, 0 + 5, none⟩ = some (.int .i64 x.r) ∧ w1.cell? ⟨X, 0 + 6, none⟩ = some (.int .i64 x.c) ∧ w1.cell? ⟨X, 0 + 7, none⟩ = some (.int .i64 x.e) ∧ w1.cell? ⟨Y, 0, none⟩ = some (.int .i64 y.p) ∧ w1.cell? ⟨Y, 0 + 1, none⟩ = some (.int .i64 y.k) ∧ w1.cell? ⟨Y, 0 + 2, none⟩ = some (.int .i64 y.d) ∧ w1.cell? ⟨Y, 0 + 3, none⟩ = some (.int .i64 y.a) ∧ w1.cell? ⟨Y, 0 + 4, none⟩ = some (.int .i64 y.b) ∧ w1.cell? ⟨Y, 0 + 5, none⟩ = some (.int .i64 y.r) ∧ w1.cell? ⟨Y, 0 + 6, none⟩ = some (.int .i64 y.c) ∧ w1.cell? ⟨Y, 0 + 7, none⟩ = some (.int .i64 y.e)) := fun w1 h1 => by
        obtain ⟨a0, a1, a2, a3, a4, a5, a6, a7⟩ := hox.below hXl h1
        obtain ⟨b0, b1, b2, b3, b4, b5, b6, b7⟩ := hoy.below hYl h1
        exact ⟨a0, a1, a2, a3, a4, a5, a6, a7, b0, b1, b2, b3, b4, b5, b6, b7⟩
      have HB0 := hideIt hb0
      clear hW0 HBox hox hoy hb0 hX hY
      refine wp_region_held_drew (S := (fun w' => w'.cell? ⟨X, 0, none⟩ = some (.int .i64 x.p) ∧ w'.cell? ⟨X, 0 + 1, none⟩ = some (.int .i64 x.k) ∧ w'.cell? ⟨X, 0 + 2, none⟩ = some (.int .i64 x.d) ∧ w'.cell? ⟨X, 0 + 3, none⟩ = some (.int .i64 x.a) ∧ w'.cell? ⟨X, 0 + 4, none⟩ = some (.int .i64 x.b) ∧ w'.cell? ⟨X, 0 + 5, none⟩ = some (.int .i64 x.r) ∧ w'.cell? ⟨X, 0 + 6, none⟩ = some (.int .i64 x.c) ∧ w'.cell? ⟨X, 0 + 7, none⟩ = some (.int .i64 x.e) ∧ w'.cell? ⟨Y, 0, none⟩ = some (.int .i64 y.p) ∧ w'.cell? ⟨Y, 0 + 1, none⟩ = some (.int .i64 y.k) ∧ w'.cell? ⟨Y, 0 + 2, none⟩ = some (.int .i64 y.d) ∧ w'.cell? ⟨Y, 0 + 3, none⟩ = some (.int .i64 y.a) ∧ w'.cell? ⟨Y, 0 + 4, none⟩ = some (.int .i64 y.b) ∧ w'.cell? ⟨Y, 0 + 5, none⟩ = some (.int .i64 y.r) ∧ w'.cell? ⟨Y, 0 + 6, none⟩ = some (.int .i64 y.c) ∧ w'.cell? ⟨Y, 0 + 7, none⟩ = some (.int .i64 y.e))) (by kernel_rfl) (by simpa using HS.out W0 (Below.refl _ _)) (fun hHeld => ?_)
      refine wpAnyH_take (i := 0) (v := ?_) rfl (by kernel_rfl) (by kernel_rfl) (by kernel_rfl) (fun _ _ _ h => h) (Or.inl ⟨by rfl, ?_⟩) (by assumption) ?_
      rotate_left 1
      · intro w ⟨s0, s1, s2, s3, s4, s5, s6, s7, s8, s9, s10, s11, s12, s13, s14, s15⟩
        go_simp
        all_goals with_reducible rfl
      simp only [Act.put, List.setIfInBounds_toArray, List.set_cons_zero, List.set_cons_succ, List.getElem_toArray, List.getElem_cons_zero]
      refine wpAnyH_take (i := 1) (v := ?_) rfl (by kernel_rfl) (by kernel_rfl) (by kernel_rfl) (fun _ _ _ h => h) (Or.inl ⟨by rfl, ?_⟩) (by assumption) ?_
      rotate_left 1
      · intro w ⟨s0, s1, s2, s3, s4, s5, s6, s7, s8, s9, s10, s11, s12, s13, s14, s15⟩
        go_simp
        all_goals with_reducible rfl
      simp only [Act.put, List.setIfInBounds_toArray, List.set_cons_zero, List.set_cons_succ, List.getElem_toArray, List.getElem_cons_zero, List.getElem_cons_succ]
      refine wpAnyH_take (i := 2) (v := ?_) rfl (by kernel_rfl) (by kernel_rfl) (by kernel_rfl) (fun _ _ _ h => h) (Or.inl ⟨by rfl, ?_⟩) (by assumption) ?_
      rotate_left 1
      · intro w ⟨s0, s1, s2, s3, s4, s5, s6, s7, s8, s9, s10, s11, s12, s13, s14, s15⟩
        go_simp
        all_goals with_reducible rfl
      simp only [Act.put, List.setIfInBounds_toArray, List.set_cons_zero, List.set_cons_succ, List.getElem_toArray, List.getElem_cons_zero, List.getElem_cons_succ]
      refine wpAnyH_take (i := 3) (v := ?_) rfl (by kernel_rfl) (by kernel_rfl) (by kernel_rfl) (fun _ _ _ h => h) (Or.inl ⟨by rfl, ?_⟩) (by assumption) ?_
      rotate_left 1
      · intro w ⟨s0, s1, s2, s3, s4, s5, s6, s7, s8, s9, s10, s11, s12, s13, s14, s15⟩
        go_simp
        all_goals with_reducible rfl
      simp only [Act.put, List.setIfInBounds_toArray, List.set_cons_zero, List.set_cons_succ, List.getElem_toArray, List.getElem_cons_zero, List.getElem_cons_succ]
      refine wpAnyH_take (i := 4) (v := ?_) rfl (by kernel_rfl) (by kernel_rfl) (by kernel_rfl) (fun _ _ _ h => h) (Or.inl ⟨by rfl, ?_⟩) (by assumption) ?_
      rotate_left 1
      · intro w ⟨s0, s1, s2, s3, s4, s5, s6, s7, s8, s9, s10, s11, s12, s13, s14, s15⟩
        go_simp
        all_goals with_reducible rfl
      simp only [Act.put, List.setIfInBounds_toArray, List.set_cons_zero, List.set_cons_succ, List.getElem_toArray, List.getElem_cons_zero, List.getElem_cons_succ]
      refine wpAnyH_take (i := 5) (v := ?_) rfl (by kernel_rfl) (by kernel_rfl) (by kernel_rfl) (fun _ _ _ h => h) (Or.inl ⟨by rfl, ?_⟩) (by assumption) ?_
      rotate_left 1
      · intro w ⟨s0, s1, s2, s3, s4, s5, s6, s7, s8, s9, s10, s11, s12, s13, s14, s15⟩
        go_simp
        all_goals with_reducible rfl
      simp only [Act.put, List.setIfInBounds_toArray, List.set_cons_zero, List.set_cons_succ, List.getElem_toArray, List.getElem_cons_zero, List.getElem_cons_succ]
      refine wpAnyH_take (i := 6) (v := ?_) rfl (by kernel_rfl) (by kernel_rfl) (by kernel_rfl) (fun _ _ _ h => h) (Or.inl ⟨by rfl, ?_⟩) (by assumption) ?_
      rotate_left 1
      · intro w ⟨s0, s1, s2, s3, s4, s5, s6, s7, s8, s9, s10, s11, s12, s13, s14, s15⟩
        go_simp
        all_goals with_reducible rfl
      simp only [Act.put, List.setIfInBounds_toArray, List.set_cons_zero, List.set_cons_succ, List.getElem_toArray, List.getElem_cons_zero, List.getElem_cons_succ]
      refine wpAnyH_take (i := 7) (v := ?_) rfl (by kernel_rfl) (by kernel_rfl) (by kernel_rfl) (fun _ _ _ h => h) (Or.inl ⟨by rfl, ?_⟩) (by assumption) ?_
      rotate_left 1
      · intro w ⟨s0, s1, s2, s3, s4, s5, s6, s7, s8, s9, s10, s11, s12, s13, s14, s15⟩
        go_simp
        all_goals with_reducible rfl
      simp only [Act.put, List.setIfInBounds_toArray, List.set_cons_zero, List.set_cons_succ, List.getElem_toArray, List.getElem_cons_zero, List.getElem_cons_succ]
      refine wpAnyH_take (i := 8) (v := ?_) rfl (by kernel_rfl) (by kernel_rfl) (by kernel_rfl) (fun _ _ _ h => h) (Or.inl ⟨by rfl, ?_⟩) (by assumption) ?_
      rotate_left 1
      · intro w ⟨s0, s1, s2, s3, s4, s5, s6, s7, s8, s9, s10, s11, s12, s13, s14, s15⟩
        go_simp
        all_goals with_reducible rfl
      simp only [Act.put, List.setIfInBounds_toArray, List.set_cons_zero, List.set_cons_succ, List.getElem_toArray, List.getElem_cons_zero, List.getElem_cons_succ]
      refine wpAnyH_take (i := 9) (v := ?_) rfl (by kernel_rfl) (by kernel_rfl) (by kernel_rfl) (fun _ _ _ h => h) (Or.inl ⟨by rfl, ?_⟩) (by assumption) ?_
      rotate_left 1
      · intro w ⟨s0, s1, s2, s3, s4, s5, s6, s7, s8, s9, s10, s11, s12, s13, s14, s15⟩
        go_simp
        all_goals with_reducible rfl
      simp only [Act.put, List.setIfInBounds_toArray, List.set_cons_zero, List.set_cons_succ, List.getElem_toArray, List.getElem_cons_zero, List.getElem_cons_succ]
      refine wpAnyH_take (i := 10) (v := ?_) rfl (by kernel_rfl) (by kernel_rfl) (by kernel_rfl) (fun _ _ _ h => h) (Or.inl ⟨by rfl, ?_⟩) (by assumption) ?_
      rotate_left 1
      · intro w ⟨s0, s1, s2, s3, s4, s5, s6, s7, s8, s9, s10, s11, s12, s13, s14, s15⟩
        go_simp
        all_goals with_reducible rfl
      simp only [Act.put, List.setIfInBounds_toArray, List.set_cons_zero, List.set_cons_succ, List.getElem_toArray, List.getElem_cons_zero, List.getElem_cons_succ]
      refine wpAnyH_take (i := 11) (v := ?_) rfl (by kernel_rfl) (by kernel_rfl) (by kernel_rfl) (fun _ _ _ h => h) (Or.inl ⟨by rfl, ?_⟩) (by assumption) ?_
      rotate_left 1
      · intro w ⟨s0, s1, s2, s3, s4, s5, s6, s7, s8, s9, s10, s11, s12, s13, s14, s15⟩
        go_simp
        all_goals with_reducible rfl
      simp only [Act.put, List.setIfInBounds_toArray, List.set_cons_zero, List.set_cons_succ, List.getElem_toArray, List.getElem_cons_zero, List.getElem_cons_succ]
      refine wpAnyH_take (i := 12) (v := ?_) rfl (by kernel_rfl) (by kernel_rfl) (by kernel_rfl) (fun _ _ _ h => h) (Or.inl ⟨by rfl, ?_⟩) (by assumption) ?_
      rotate_left 1
      · intro w ⟨s0, s1, s2, s3, s4, s5, s6, s7, s8, s9, s10, s11, s12, s13, s14, s15⟩
        go_simp
        all_goals with_reducible rfl
      simp only [Act.put, List.setIfInBounds_toArray, List.set_cons_zero, List.set_cons_succ, List.getElem_toArray, List.getElem_cons_zero, List.getElem_cons_succ]
      refine wpAnyH_take (i := 13) (v := ?_) rfl (by kernel_rfl) (by kernel_rfl) (by kernel_rfl) (fun _ _ _ h => h) (Or.inl ⟨by rfl, ?_⟩) (by assumption) ?_
      rotate_left 1
      · intro w ⟨s0, s1, s2, s3, s4, s5, s6, s7, s8, s9, s10, s11, s12, s13, s14, s15⟩
        go_simp
        all_goals with_reducible rfl
      simp only [Act.put, List.setIfInBounds_toArray, List.set_cons_zero, List.set_cons_succ, List.getElem_toArray, List.getElem_cons_zero, List.getElem_cons_succ]
      refine wpAnyH_take (i := 14) (v := ?_) rfl (by kernel_rfl) (by kernel_rfl) (by kernel_rfl) (fun _ _ _ h => h) (Or.inl ⟨by rfl, ?_⟩) (by assumption) ?_
      rotate_left 1
      · intro w ⟨s0, s1, s2, s3, s4, s5, s6, s7, s8, s9, s10, s11, s12, s13, s14, s15⟩
        go_simp
        all_goals with_reducible rfl
      simp only [Act.put, List.setIfInBounds_toArray, List.set_cons_zero, List.set_cons_succ, List.getElem_toArray, List.getElem_cons_zero, List.getElem_cons_succ]
      refine wpAnyH_take (i := 16) (v := ?_) rfl (by kernel_rfl) (by kernel_rfl) (by kernel_rfl) (fun _ _ _ h => h) (Or.inl ⟨by rfl, ?_⟩) (by assumption) ?_
      rotate_left 1
      · intro w ⟨s0, s1, s2, s3, s4, s5, s6, s7, s8, s9, s10, s11, s12, s13, s14, s15⟩
        go_simp
        all_goals with_reducible rfl
      simp only [Act.put, List.setIfInBounds_toArray, List.set_cons_zero, List.set_cons_succ, List.getElem_toArray, List.getElem_cons_zero, List.getElem_cons_succ]
      refine wpAnyH_take (i := 17) (v := ?_) rfl (by kernel_rfl) (by kernel_rfl) (by kernel_rfl) (fun _ _ _ h => h) (Or.inl ⟨by rfl, ?_⟩) (by assumption) ?_
      rotate_left 1
      · intro w ⟨s0, s1, s2, s3, s4, s5, s6, s7, s8, s9, s10, s11, s12, s13, s14, s15⟩
        go_simp
        all_goals with_reducible rfl
      simp only [Act.put, List.setIfInBounds_toArray, List.set_cons_zero, List.set_cons_succ, List.getElem_toArray, List.getElem_cons_zero, List.getElem_cons_succ]
      refine wpAnyH_ready (rs := [15]) (by kernel_rfl) (by simp) (AllReadyH.cons rfl (fun K hK => ?_) AllReadyH.nil)
      go_simp
      refine (HA2.out _ HB0.out.drew).mono ?_
      rintro e w1 ⟨rfl, hb15⟩
      have HB1 := hideIt (show Below W0.heap.size W0 w1 from ((Below.refl W0.heap.size W0).drew).trans hb15)
      refine hK.out _ _ ?_ (fun hHeld => ?_)
      · exact HS.out w1 HB1.out
      clear hK K hb15
      refine wpAnyH_ready (rs := [18]) (by kernel_rfl) (by simp) (AllReadyH.cons rfl (fun K hK => ?_) AllReadyH.nil)
      go_simp
      refine (HA1.out _ (belJ HB0.out HB1.out)).mono ?_
      rintro e w2 ⟨rfl, hb18⟩
      have HB2 := hideIt (show Below W0.heap.size W0 w2 from belJ HB1.out hb18)
      refine hK.out _ _ ?_ (fun hHeld => ?_)
      · exact HS.out w2 HB2.out
      clear hK K hb18
      refine wpAnyH_take (i := 19) (v := ?_) rfl (by kernel_rfl) (by kernel_rfl) (by kernel_rfl) (fun _ _ _ h => h) (Or.inl ⟨by rfl, ?_⟩) (by assumption) ?_
      rotate_left 1
      · intro w ⟨s0, s1, s2, s3, s4, s5, s6, s7, s8, s9, s10, s11, s12, s13, s14, s15⟩
        go_simp
        all_goals with_reducible rfl
      simp only [Act.put, List.setIfInBounds_toArray, List.set_cons_zero, List.set_cons_succ, List.getElem_toArray, List.getElem_cons_zero, List.getElem_cons_succ]
      refine wpAnyH_take (i := 20) (v := ?_) rfl (by kernel_rfl) (by kernel_rfl) (by kernel_rfl) (fun _ _ _ h => h) (Or.inl ⟨by rfl, ?_⟩) (by assumption) ?_
      rotate_left 1
      · intro w ⟨s0, s1, s2, s3, s4, s5, s6, s7, s8, s9, s10, s11, s12, s13, s14, s15⟩
        go_simp
        all_goals with_reducible rfl
      simp only [Act.put, List.setIfInBounds_toArray, List.set_cons_zero, List.set_cons_succ, List.getElem_toArray, List.getElem_cons_zero, List.getElem_cons_succ]
      refine wpAnyH_take (i := 21) (v := ?_) rfl (by kernel_rfl) (by kernel_rfl) (by kernel_rfl) (fun _ _ _ h => h) (Or.inl ⟨by rfl, ?_⟩) (by assumption) ?_
      rotate_left 1
      · intro w ⟨s0, s1, s2, s3, s4, s5, s6, s7, s8, s9, s10, s11, s12, s13, s14, s15⟩
        go_simp
        all_goals with_reducible rfl
      simp only [Act.put, List.setIfInBounds_toArray, List.set_cons_zero, List.set_cons_succ, List.getElem_toArray, List.getElem_cons_zero, List.getElem_cons_succ]
      refine wpAnyH_done (by kernel_rfl) ?_ _
      have HB3 := hideIt (belJ HB0.out HB2.out)
      go_wp2
      go_ret
      exact ⟨ret_boolZ R.out.symm, HB3.out⟩
    · have hk' : (x.k == y.k) = false := by simp [hk]
      have R : Hid (fallB V x y = false) := by show fallB V x y = false; rw [HFB.out, hk']; simp
      clear hp hk HAg
      go_enter Tryd.func40, Tryd.ntmps40
      go_wp2_with fail
      go_big_quiet (fail)
      go_wp2
      go_ret
      exact ⟨ret_boolZ R.out.symm, below_drewN (belA (belA (Below.refl _ _) _) _) _⟩
  · have hp' : (x.p == y.p) = false := by simp [hp]
    have R : Hid (fallB V x y = false) := by show fallB V x y = false; rw [HFB.out, hp']; rfl
    clear hp HAg
    go_enter Tryd.func40, Tryd.ntmps40
    go_wp2_with fail
    go_big_quiet (fail)
    go_wp2
    go_ret
    exact ⟨ret_boolZ R.out.symm, below_drewN (belA (belA (Below.refl _ _) _) _) _⟩

end Go.Proofs.YtfojmbbhcmeejaaDoor

namespace Go.Proofs.YtfojmbbhcmeejaaDoor
open Go.RowKit

/-- Eight numbers in a block of their own. -/
structure EightAt (w : World) (g : Nat) (f : Nat → Nat) : Prop where
  blk : ∃ cur t, w.heap[g]? = some (.cells cur t (0, 0))
  at_ : ∀ q, q < 8 → w.cell? ⟨g, q, none⟩ = some (.int .i64 (f q : Nat))
theorem EightAt.lt {w : World} {g : Nat} {f : Nat → Nat} (h : EightAt w g f) : g < w.heap.size := by
  obtain ⟨cur, t, hc⟩ := h.blk
  exact lt_of_heap hc
theorem EightAt.fz {w : World} {g : Nat} {f : Nat → Nat} (h : EightAt w g f) (i : Nat) : w.frozen? ⟨g, i, none⟩ = false := by
  obtain ⟨cur, t, hc⟩ := h.blk
  exact frozen_of_row w g i cur t hc
theorem EightAt.below {B : Nat} {w w' : World} {g : Nat} {f : Nat → Nat} (h : EightAt w g f) (hb : Below B w w') (hg : g < B) : EightAt w' g f := by
  obtain ⟨cur, t, hc⟩ := h.blk
  exact ⟨⟨cur, t, (hb.block g hg).trans hc⟩, fun q hq => (hb.cell (p := ⟨g, q, none⟩) hg).trans (h.at_ q hq)⟩
theorem EightAt.same {w : World} {g : Nat} {f f' : Nat → Nat} (h : EightAt w g f) (e : ∀ q, q < 8 → f q = f' q) : EightAt w g f' := ⟨h.blk, fun q hq => by rw [← e q hq]; exact h.at_ q hq⟩
theorem EightAt.put {w : World} {g : Nat} {f : Nat → Nat} (h : EightAt w g f) {m : Nat} (hm : m < 8) (x : Nat) : EightAt (w.setCell ⟨g, m, none⟩ (.int .i64 (x : Nat))) g (fun q => if q = m then x else f q) := by
  obtain ⟨cur, t, hc⟩ := h.blk
  obtain ⟨cur', hc', _⟩ := heap_setCell hc m (.int .i64 (x : Nat))
  refine ⟨⟨cur', t, hc'⟩, fun q hq => ?_⟩
  by_cases e : q = m
  · subst e
    rw [if_pos rfl]
    exact World.cell?_setCell_same _ _ _ (h.at_ q hq)
  · rw [if_neg e, World.cell?_setCell_other _ _ _ _ (offNe (Ne.symm e))]
    exact h.at_ q hq
theorem wrN_put {l : List Opn} {k q : Nat} (hd : (opZ l k).d = 2) (hk : (opZ l k).k = q) (p : Nat) : (if p = q then wrN l q k + 1 else wrN l p k) = wrN l p (k + 1) := by
  show _ = wrN l p k + (if (opZ l k).d = 2 ∧ (opZ l k).k = (p : Int) then 1 else 0)
  by_cases e : p = q
  · subst e; rw [if_pos rfl, if_pos ⟨hd, hk⟩]
  · rw [if_neg e, if_neg (fun h => e (by have := h.2; rw [hk] at this; omega))]; rfl
theorem wrN_keep {l : List Opn} {k : Nat} (hd : (opZ l k).d ≠ 2) (q : Int) : wrN l q k = wrN l q (k + 1) := by
  show _ = wrN l q k + (if (opZ l k).d = 2 ∧ (opZ l k).k = q then 1 else 0)
  rw [if_neg (fun h => hd h.1)]; rfl

theorem sTold_err {l : List Opn} {V : List (List Int)} {m : Int} (h : KTold l m) (hm : m ≠ 0) : STold l V m := ⟨m, h, .inl ⟨hm, rfl⟩⟩
theorem sTold_form {l : List Opn} {V : List (List Int)} (h : KTold l 0) (h8 : V.length ≠ 8) : STold l V 3 := ⟨0, h, .inr ⟨rfl, .inl ⟨h8, rfl⟩⟩⟩
theorem sTold_at {l : List Opn} {V : List (List Int)} (h : KTold l 0) (h8 : V.length = 8) {k : Nat} (hk : k < l.length) (ha : ∀ j, j < k → vFaultAt l V j = 0) {n : Int} (hn : vFaultAt l V k = n) (h0 : n ≠ 0) : STold l V n :=
  ⟨0, h, .inr ⟨rfl, .inr ⟨h8, n, .inr ⟨k, hk, ha, by rw [hn]; exact h0, hn.symm⟩, .inl ⟨h0, rfl⟩⟩⟩⟩
theorem sTold_len {l : List Opn} {V : List (List Int)} (h : KTold l 0) (h8 : V.length = 8) (hv : ∀ j, j < l.length → vFaultAt l V j = 0) {q : Nat} (hq : q < 8) (ha : ∀ j, j < q → lFaultAt l V j = 0) (hn : lFaultAt l V q = 3) : STold l V 3 :=
  ⟨0, h, .inr ⟨rfl, .inr ⟨h8, 0, .inl ⟨hv, rfl⟩, .inr ⟨rfl, .inr ⟨q, hq, ha, by rw [hn]; decide, hn.symm⟩⟩⟩⟩⟩
theorem sTold_all {l : List Opn} {V : List (List Int)} (h : KTold l 0) (h8 : V.length = 8) (hv : ∀ j, j < l.length → vFaultAt l V j = 0) (ha : ∀ j, j < 8 → lFaultAt l V j = 0) : STold l V 0 :=
  ⟨0, h, .inr ⟨rfl, .inr ⟨h8, 0, .inl ⟨hv, rfl⟩, .inr ⟨rfl, .inl ⟨ha, rfl⟩⟩⟩⟩⟩
theorem vFault_has {l : List Opn} {V : List (List Int)} {j : Nat} (h : (rowI V (opZ l j).k).contains (valO (opZ l j)) = true) : vFaultAt l V j = 0 := by unfold vFaultAt; rw [if_pos h]
theorem vFault_write {l : List Opn} {V : List (List Int)} {j : Nat} (h : (rowI V (opZ l j).k).contains (valO (opZ l j)) = false) (hd : (opZ l j).d = 2) : vFaultAt l V j = 7 := by unfold vFaultAt; rw [if_neg (by rw [h]; decide), if_pos hd]
theorem vFault_zero {l : List Opn} {V : List (List Int)} {j : Nat} (hd : (opZ l j).d ≠ 2) (hr : (opZ l j).r = 0) : vFaultAt l V j = 0 := by
  unfold vFaultAt
  rw [if_neg hd, if_pos hr]
  split <;> rfl
theorem vFault_read {l : List Opn} {V : List (List Int)} {j : Nat} (h : (rowI V (opZ l j).k).contains (valO (opZ l j)) = false) (hd : (opZ l j).d ≠ 2) (hr : (opZ l j).r ≠ 0) : vFaultAt l V j = 8 := by unfold vFaultAt; rw [if_neg (by rw [h]; decide), if_neg hd, if_neg hr]

theorem eight_new (w : World) : EightAt (w.alloc (.cells #[.int .i64 0, .int .i64 0, .int .i64 0, .int .i64 0, .int .i64 0, .int .i64 0, .int .i64 0, .int .i64 0] 74)) w.heap.size (fun _ => 0) := by
  refine ⟨⟨_, _, heap_alloc_new w _⟩, fun q hq => ?_⟩
  rw [cell_of_row _ _ q _ 74 _ (heap_alloc_new w _)]
  match q, hq with
  | 0, _ => rfl
  | 1, _ => rfl
  | 2, _ => rfl
  | 3, _ => rfl
  | 4, _ => rfl
  | 5, _ => rfl
  | 6, _ => rfl
  | 7, _ => rfl
  | q + 8, h => omega

set_option maxRecDepth 100000 in
set_option maxHeartbeats 4000000 in
theorem sCheck_any (l : List Opn) (V : List (List Int)) (a : Option Addr) (cap : Nat) (v : Value) (w : World) (hlen : l.length ≤ 60) (hcap : l.length ≤ cap) (hl : OpsQ w a l) (hv : VersAt w v V) (hs : ShortV V) :
    Calls Tryd.prog 23 #[.slice a l.length cap, v] w fun e w' => ∃ n, e = .returned (toldV n) ∧ STold l V n ∧ Below w.heap.size w w' := by
  have HC := hideIt (kCheck_any l a cap w hlen hcap hl)
  have HL := hideIt hl
  have HV := hideIt hv
  obtain ⟨va, vc, rfl, _⟩ := hv
  have hVl := hs.1
  clear hl
  go_enter Tryd.func23, Tryd.ntmps23
  go_wp2_with fail
  refine HC.out.mono ?_
  rintro e w1 ⟨n, rfl, hct, hb1⟩
  have HCT := hideIt hct
  have HB1 := hideIt hb1
  clear hct hb1 HC
  by_cases hn : n = 0
  · subst hn
    have HOk := hideIt (kOk_of HCT.out)
    rw [show toldV 0 = .nilIface from by simp [toldV]]
    by_cases h8 : V.length = 8
    · obtain ⟨vb, vo, vcap, hvv, hcap8, hvb, hrow⟩ := HV.out.row h8
      injection hvv with hva hvn hvc
      subst hva hvc
      have HRow := hideIt hrow
      clear hrow
      rw [h8]
      have HE0 := hideIt (eight_new w1)
      have HG0 : Hid (Below w1.heap.size w1 (w1.alloc (.cells #[.int .i64 0, .int .i64 0, .int .i64 0, .int .i64 0, .int .i64 0, .int .i64 0, .int .i64 0, .int .i64 0] 74))) := belA (Below.refl _ _) _
      have HVk : Hid (∀ wr, Below w1.heap.size w1 wr → Below w.heap.size w wr) := fun wr h => HB1.out.trans (h.mono HB1.out.size)
      go_wp2
      generalize w1.heap.size = G at HE0 HG0 HVk ⊢
      go_loopw [23] (fun i wr => ∃ k : Nat, k ≤ l.length ∧ i = .int .i64 k ∧ (∀ j, j < k → vFaultAt l V j = 0) ∧ EightAt wr G (fun q => wrN l q k) ∧ Below G w1 wr) (fun i _ => l.length - (intOf i).toNat)
      case atStart => exact ⟨0, Nat.zero_le _, rfl, fun j hj => absurd hj (by omega), HE0.out, HG0.out⟩
      case round =>
        clear HE0 HG0
        obtain ⟨k, hk, rfl, ha, he8, hnx⟩ := hrel
        have HA := hideIt ha
        have HE8 := hideIt he8
        have HNX := hideIt hnx
        have HBw := hideIt (HVk.out wr hnx)
        clear ha hnx he8
        by_cases hkl : k < l.length
        · obtain ⟨b, off, hea, hlt, hops⟩ : ∃ b off, a = some ⟨b, off, none⟩ ∧ b < w.heap.size ∧ OpsAt w b off l := by
            rcases HL.out with h | h
            · subst h; simp at hkl
            · exact h
          subst hea
          obtain ⟨c0, c1, c2, c3, c4, c5, c6, c7⟩ := (hops k hkl).below hlt HBw.out
          have HX : Hid (opZ l k = l[k]) := opZ_at hkl
          have HNum := hideIt (HOk.out.num k hkl)
          have HKind := hideIt (HOk.out.kind k hkl)
          rw [HX.out] at HNum HKind
          generalize l[k] = x at c0 c1 c2 c3 c4 c5 c6 c7 HX HNum HKind
          have hk0 : (0 : Int) ≤ x.k := by have := HNum.out; omega
          have hk8 : x.k < 8 := by have := HNum.out; omega
          have hkn : x.k.toNat < 8 := by omega
          have HKN : Hid (((x.k.toNat : Nat) : Int) = x.k) := by show ((x.k.toNat : Nat) : Int) = x.k; omega
          obtain ⟨s, hs1, hs2⟩ := HRow.out x.k.toNat hkn
          rw [HKN.out] at hs2
          obtain ⟨sa, sn, sc, hsl⟩ : ∃ sa sn sc, s = .slice sa sn sc := by
            obtain ⟨sa, sc, e, _⟩ := hs2
            exact ⟨sa, _, sc, e⟩
          subst hsl
          have HBox : Hid (∀ W, W = wr.alloc (.cells #[.int .i64 x.p, .int .i64 x.k, .int .i64 x.d, .int .i64 x.a, .int .i64 x.b, .int .i64 x.r, .int .i64 x.c, .int .i64 x.e] 48) → OpAt W wr.heap.size 0 x ∧ wr.heap.size < W.heap.size ∧ Below wr.heap.size wr W) := by
            rintro W rfl
            refine ⟨⟨?_, ?_, ?_, ?_, ?_, ?_, ?_, ?_⟩, ?_, belA (Below.refl _ _) _⟩ <;> simp
          have HCn : Hid (∀ W, Below w.heap.size w W → W.cell? ⟨vb, vo + x.k.toNat, none⟩ = some (.slice sa sn sc) ∧ ∀ u, Calls Tryd.prog 42 #[.slice sa sn sc, .int .i64 u] W fun e w' => e = .returned (.bool ((rowI V x.k).contains u)) ∧ w' = W) := fun W hW =>
            ⟨(hW.cell (p := ⟨vb, vo + x.k.toNat, none⟩) hvb).trans hs1, fun u => contains_any _ u _ W (hs2.below hW) (hs.row x.k)⟩
          have HVo : Hid (∀ W, Calls Tryd.prog 43 #[x.agg] W fun e w' => e = .returned (.int .i64 (valO x)) ∧ Below W.heap.size W w') := fun W => valueOf_any x W
          have hGl : Hid (G < wr.heap.size) := HE8.out.lt
          clear hops HL hs1 hs2
          have HKn : Hid ((rowI V (opZ l k).k).contains (valO (opZ l k)) = (rowI V x.k).contains (valO x)) := by
            show (rowI V (opZ l k).k).contains (valO (opZ l k)) = _
            rw [HX.out]
          unfold Opn.agg at HVo
          generalize valO x = u at HVo HKn
          have HCu : Hid (∀ W, Below w.heap.size w W → Calls Tryd.prog 42 #[.slice sa sn sc, .int .i64 u] W fun e w' => e = .returned (.bool ((rowI V x.k).contains u)) ∧ w' = W) := fun W hW => (HCn.out W hW).2 u
          generalize (rowI V x.k).contains u = kb at HCu HKn
          go_wp2
          clear c0 c1 c2 c3 c4 c5 c6 c7
          generalize hW0 : wr.alloc _ = W0
          obtain ⟨hox, hXl, hbox⟩ := HBox.out W0 hW0.symm
          generalize hXX : wr.heap.size = X at hox hXl ⊢
          have HS : Hid (∀ w2, Below W0.heap.size W0 w2 → OpAt w2 X 0 x ∧ w2.cell? ⟨vb, vo + x.k.toNat, none⟩ = some (.slice sa sn sc) ∧ Below wr.heap.size wr w2 ∧ Below w.heap.size w w2) := fun w2 h2 => by
            have h3 : Below wr.heap.size wr w2 := belJ hbox h2
            exact ⟨hox.below hXl h2, (HCn.out w2 (belJ HBw.out h3)).1, h3, belJ HBw.out h3⟩
          obtain ⟨⟨c0, c1, c2, c3, c4, c5, c6, c7⟩, cv, _, _⟩ := HS.out W0 (Below.refl _ _)
          clear HBox hW0 hox hXX hbox
          go_region_held3 (fun w' => w'.cell? ⟨X, 0, none⟩ = some (.int .i64 x.p) ∧ w'.cell? ⟨X, 0 + 1, none⟩ = some (.int .i64 x.k) ∧ w'.cell? ⟨X, 0 + 2, none⟩ = some (.int .i64 x.d) ∧ w'.cell? ⟨X, 0 + 3, none⟩ = some (.int .i64 x.a) ∧ w'.cell? ⟨X, 0 + 4, none⟩ = some (.int .i64 x.b) ∧ w'.cell? ⟨X, 0 + 5, none⟩ = some (.int .i64 x.r) ∧ w'.cell? ⟨X, 0 + 6, none⟩ = some (.int .i64 x.c) ∧ w'.cell? ⟨X, 0 + 7, none⟩ = some (.int .i64 x.e) ∧ w'.cell? ⟨vb, vo + x.k.toNat, none⟩ = some (.slice sa sn sc)) (go_keep)
            (first | (go_at_call 43; refine (HVo.out _).mono ?_; rintro e w2 ⟨rfl, hb2⟩; have HB2 := hideIt (show Below W0.heap.size W0 w2 from ((Below.refl W0.heap.size W0).drew).trans hb2); obtain ⟨⟨p0, p1, p2, p3, p4, p5, p6, p7⟩, pv, _, _⟩ := HS.out w2 HB2.out; clear hb2) | (go_at_call 42; refine (HCu.out _ (HS.out _ HB2.out).2.2.2).mono ?_; rintro e w3 ⟨rfl, rfl⟩))
          obtain ⟨_, _, hbr3, hbw3⟩ := HS.out _ HB2.out
          have HE3 := hideIt (HE8.out.below hbr3 hGl.out)
          have HN3 : Hid (Below G w1 w3) := HNX.out.trans (hbr3.mono (Nat.le_of_lt hGl.out))
          have HW3 := hideIt hbw3
          clear c0 c1 c2 c3 c4 c5 c6 c7 cv hbr3 hbw3 p0 p3 p4 p6 p7 pv HS HB2 HCn HVo HCu
          have HNext : Hid (vFaultAt l V k = 0 → ∀ j, j < k + 1 → vFaultAt l V j = 0) := fun h => fine_succ HA.out h
          rcases HKind.out with hd | hd
          · have hd1 : (x.d == 1) = true := by simp [hd]
            have hd2 : (x.d == 2) = false := by simp [hd]
            have HD : Hid ((opZ l k).d ≠ 2) := by show (opZ l k).d ≠ 2; rw [HX.out, hd]; decide
            have R3 := hideIt (HE3.out.same fun q _ => wrN_keep HD.out q)
            clear hd
            by_cases hr : x.r = 0
            · have hr' : (x.r != 0) = false := by simp [hr]
              have R1 := hideIt (HNext.out (vFault_zero HD.out (by rw [HX.out]; exact hr)))
              clear hr
              go_wp2
              go_roundw
              case rel => exact ⟨k + 1, by omega, by go_num, R1.out, R3.out, HN3.out⟩
              case measure => simp [intOf]; omega
            · have hr' : (x.r != 0) = true := by simp [hr]
              cases kb
              · have R1 : Hid (STold l V 8) := sTold_at HCT.out h8 hkl HA.out (vFault_read HKn.out HD.out (by rw [HX.out]; exact hr)) (by decide)
                clear hr
                go_wp2
                go_ret
                exact ⟨8, by simp [toldV], R1.out, HW3.out⟩
              · have R1 := hideIt (HNext.out (vFault_has HKn.out))
                clear hr
                go_wp2
                go_roundw
                case rel => exact ⟨k + 1, by omega, by go_num, R1.out, R3.out, HN3.out⟩
                case measure => simp [intOf]; omega
          · have hd1 : (x.d == 1) = false := by simp [hd]
            have hd2 : (x.d == 2) = true := by simp [hd]
            have HD : Hid ((opZ l k).d = 2) := by show (opZ l k).d = 2; rw [HX.out, hd]
            clear hd
            cases kb
            · have R1 : Hid (STold l V 7) := sTold_at HCT.out h8 hkl HA.out (vFault_write HKn.out HD.out) (by decide)
              go_wp2
              go_ret
              exact ⟨7, by simp [toldV], R1.out, HW3.out⟩
            · have R1 := hideIt (HNext.out (vFault_has HKn.out))
              have g1 := HE3.out.at_ x.k.toNat hkn
              have g2 := HE3.out.fz x.k.toNat
              have hwn : wrN l x.k.toNat k ≤ 60 := Nat.le_trans (wrN_le _ _ _) (by omega)
              have R3 := hideIt ((HE3.out.put hkn (wrN l x.k.toNat k + 1)).same fun q _ => wrN_put HD.out (by rw [HX.out]; exact HKN.out.symm) q)
              have R4 := hideIt (HN3.out.setCell (p := ⟨G, x.k.toNat, none⟩) (Nat.le_refl _) (.int .i64 ((wrN l x.k.toNat k + 1 : Nat) : Int)))
              rw [show (((wrN l x.k.toNat k + 1 : Nat)) : Int) = ((wrN l x.k.toNat k : Nat) : Int) + 1 from by omega] at R3 R4
              have hwI : ((wrN l x.k.toNat k : Nat) : Int) ≤ 60 := by omega
              have hw0 : (0 : Int) ≤ ((wrN l x.k.toNat k : Nat) : Int) := by omega
              generalize ((wrN l x.k.toNat k : Nat) : Int) = wn at g1 R3 R4 hwI hw0
              go_wp2
              go_roundw
              case rel => exact ⟨k + 1, by omega, by go_num, R1.out, R3.out, R4.out⟩
              case measure => simp [intOf]; omega
        · have HVf : Hid (∀ j, j < l.length → vFaultAt l V j = 0) := fun j hj => HA.out j (by omega)
          obtain rfl : k = l.length := by omega
          go_wp2
          go_loopw [71] (fun i wz => ∃ q : Nat, q ≤ 8 ∧ i = .int .i64 q ∧ (∀ j, j < q → lFaultAt l V j = 0) ∧ wz = wr) (fun i _ => 8 - (intOf i).toNat)
          case atStart => exact ⟨0, by omega, rfl, fun j hj => absurd hj (by omega), rfl⟩
          case round =>
            obtain ⟨q, hq, rfl, hlf, hwz⟩ := hrel
            have hwz' := hwz.symm
            subst hwz'
            clear hwz
            have HLF := hideIt hlf
            clear hlf
            by_cases hq8 : q < 8
            · have hq8I : (q : Int) < 8 := by omega
              obtain ⟨s, hs1, hs2⟩ := HRow.out q hq8
              obtain ⟨sa, sc, hsl, _⟩ := hs2
              subst hsl
              have hc1 := (HBw.out.cell (p := ⟨vb, vo + q, none⟩) hvb).trans hs1
              have hc2 := HE8.out.at_ q hq8
              have HF : Hid (lFaultAt l V q = if (rowI V q).length = wrN l q l.length then 0 else 3) := rfl
              generalize (rowI V q).length = a1 at hc1 HF
              generalize wrN l q l.length = a2 at hc2 HF
              clear hs1
              by_cases he : a1 = a2
              · have he' : ((a1 : Int) != (a2 : Int)) = false := by simp [he]
                have R1 := hideIt (fine_succ HLF.out (by rw [HF.out, if_pos he]))
                clear he
                go_wp2
                go_roundw
                case rel => exact ⟨q + 1, by omega, by go_num, R1.out, by simp⟩
                case measure => simp [intOf]; omega
              · have he' : ((a1 : Int) != (a2 : Int)) = true := by simp; omega
                have R1 : Hid (STold l V 3) := sTold_len HCT.out h8 HVf.out hq8 HLF.out (by rw [HF.out, if_neg he])
                clear he
                go_wp2
                go_ret
                exact ⟨3, by simp [toldV], R1.out, HBw.out⟩
            · have R1 : Hid (STold l V 0) := sTold_all HCT.out h8 HVf.out fun j hj => HLF.out j (by omega)
              go_wp2
              go_ret
              exact ⟨0, by simp [toldV], R1.out, HBw.out⟩
    · have h8' : ((V.length : Int) != 8) = true := by simp; omega
      have R1 := hideIt (sTold_form (V := V) HCT.out h8)
      clear h8
      go_wp2
      go_ret
      exact ⟨3, by simp [toldV], R1.out, HB1.out⟩
  · have HVn := hideIt (show toldV n = .iface 23 (.int .i64 n) from by simp [toldV, hn])
    have R1 := hideIt (sTold_err (V := V) HCT.out hn)
    rw [HVn.out]
    go_wp2
    go_ret
    exact ⟨n, by rw [HVn.out]; rfl, R1.out, HB1.out⟩

end Go.Proofs.YtfojmbbhcmeejaaDoor
