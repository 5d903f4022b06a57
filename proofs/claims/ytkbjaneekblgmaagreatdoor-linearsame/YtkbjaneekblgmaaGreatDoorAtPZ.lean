/-
  For the walk of the document's search: bits of what is done, numbers as texts, and what the plain search does round by round.
  The document's ahead, walked: the order of time, or that of processes.
-/
import Derived.Test.YtkbjaneekblgmaaGreatDoorFndM
import Derived.Lib.ItoaNum
import Derived.Deep.RegionHeld3
namespace Go.Proofs.YtkbjaneekblgmaaGreatDoor
open Go.RowKit

theorem shr_bit {m k : Nat} (hm : m < 18446744073709551616) : bits .and .u64 ((m : Int) / 2 ^ k) 1 = if m.testBit k then 1 else 0 := by
  have e : (m : Int) / 2 ^ k = ((m / 2 ^ k : Nat) : Int) := by simp
  have hlt : m / 2 ^ k < 18446744073709551616 := Nat.lt_of_le_of_lt (Nat.div_le_self _ _) hm
  have h1 := bits_and_u64_nat (m / 2 ^ k) 1 hlt (by decide)
  rw [show ((1 : Nat) : Int) = 1 from rfl] at h1
  rw [e, h1, Nat.and_one_is_mod]
  have h2 : m.testBit k = (m / 2 ^ k % 2 == 1) := by rw [Nat.testBit_eq_decide_div_mod_eq]; by_cases h : m / 2 ^ k % 2 = 1 <;> simp [h]
  rw [h2]
  rcases Nat.mod_two_eq_zero_or_one (m / 2 ^ k) with h | h <;> simp [h]
theorem done_bit {ord : List Nat} (ho : ∀ m ∈ ord, m < 60) (k : Nat) : bits .and .u64 ((maskN ord : Int) / 2 ^ k) 1 = if ord.contains k then 1 else 0 := by
  rw [shr_bit (maskN_lt (fun m hm => by have := ho m hm; omega)), maskN_bit]

/-- Whether what has an end among the first k is done. -/
def overK (ops : List Opn) (ord : List Nat) (k : Nat) : Bool := (List.range k).all fun n => decide ((opN ops n).e < 0) || ord.contains n
theorem overK_succ (ops : List Opn) (ord : List Nat) (k : Nat) : overK ops ord (k + 1) = (overK ops ord k && (decide ((opN ops k).e < 0) || ord.contains k)) := by simp [overK, List.range_succ]
/-- Whether n may be done, as far as the first k say. -/
def mayK (c : Sr) (ord : List Nat) (n k : Nat) : Bool := !ord.contains n && (List.range k).all fun a => a == n || !c.ah (opN c.ops a) (opN c.ops n) || ord.contains a
theorem mayK_zero (c : Sr) (ord : List Nat) (n : Nat) : mayK c ord n 0 = !ord.contains n := by simp [mayK]
theorem mayK_succ (c : Sr) (ord : List Nat) (n k : Nat) : mayK c ord n (k + 1) = (mayK c ord n k && (k == n || !c.ah (opN c.ops k) (opN c.ops n) || ord.contains k)) := by
  simp [mayK, List.range_succ, Bool.and_assoc]

/-! The plain search, round by round. -/
section
variable {c : Sr} {f : Nat} {S : Int → List Int} {ord : List Nat} {k : Nat} {ent : List (List UInt8)}
theorem range_dropC {n k : Nat} (h : k < n) : (List.range n).drop k = k :: (List.range n).drop (k + 1) := by
  rw [List.drop_eq_getElem_cons (by simpa using h)]
  simp
theorem loopC_none (hk : k < c.ops.length) (h : stepN c S ord k = none) : loopM c (visitM c f) S ord ((List.range c.ops.length).drop k) ent = loopM c (visitM c f) S ord ((List.range c.ops.length).drop (k + 1)) ent := by
  rw [range_dropC hk, loopM, h]
theorem loopC_on {st : List Int} (hk : k < c.ops.length) (h : stepN c S ord k = some st) (hc : (visitM c f (setK S (opN c.ops k).k st) (ord ++ [k]) ent).code = 2) :
    loopM c (visitM c f) S ord ((List.range c.ops.length).drop k) ent = loopM c (visitM c f) S ord ((List.range c.ops.length).drop (k + 1)) (visitM c f (setK S (opN c.ops k).k st) (ord ++ [k]) ent).ent := by
  rw [range_dropC hk, loopM, h]
  exact if_pos hc
theorem loopC_out {st : List Int} (hk : k < c.ops.length) (h : stepN c S ord k = some st) (hc : (visitM c f (setK S (opN c.ops k).k st) (ord ++ [k]) ent).code ≠ 2) :
    loopM c (visitM c f) S ord ((List.range c.ops.length).drop k) ent = visitM c f (setK S (opN c.ops k).k st) (ord ++ [k]) ent := by
  rw [range_dropC hk, loopM, h]
  exact if_neg hc
theorem loopC_end (hk : ¬ k < c.ops.length) : loopM c (visitM c f) S ord ((List.range c.ops.length).drop k) ent = ⟨2, ord, ent⟩ := by
  rw [List.drop_eq_nil_of_le (by simp; omega), loopM]
end
theorem loop_ord2 {c : Sr} {vis : (Int → List Int) → List Nat → List (List UInt8) → Res} {S : Int → List Int} {ord : List Nat} : ∀ (r : List Nat) (ent : List (List UInt8)), (loopM c vis S ord r ent).code = 2 → (loopM c vis S ord r ent).ord = ord
  | [], ent, _ => rfl
  | n :: r, ent, h => by
    unfold loopM at h ⊢
    cases hs : stepN c S ord n with
    | none => rw [hs] at h; exact loop_ord2 r ent h
    | some st =>
      rw [hs] at h
      simp only at h ⊢
      split
      · rename_i hc; rw [if_pos hc] at h; exact loop_ord2 r _ h
      · rename_i hc; rw [if_neg hc] at h; exact absurd h hc
theorem visit_ord2 {c : Sr} : ∀ (f : Nat) (S : Int → List Int) (ord : List Nat) (ent : List (List UInt8)), (visitM c f S ord ent).code = 2 → (visitM c f S ord ent).ord = ord
  | 0, S, ord, ent, _ => rfl
  | f + 1, S, ord, ent, h => by
    unfold visitM at h ⊢
    split
    · rfl
    · rename_i h1
      rw [if_neg h1] at h
      split
      · rfl
      · rename_i h2
        rw [if_neg h2] at h
        split
        · rfl
        · rename_i h3
          rw [if_neg h3] at h
          exact loop_ord2 _ _ h

/-! Numbers as texts. -/
theorem digit_okD (u : Nat) (h : u < 10) : 48 ≤ (UInt8.ofNat (48 + u)).toNat ∧ (UInt8.ofNat (48 + u)).toNat ≤ 57 ∧ (UInt8.ofNat (48 + u)).toNat - 48 = u := by
  have : (UInt8.ofNat (48 + u)).toNat = 48 + u := by simp [UInt8.toNat_ofNat']; omega
  omega
theorem digits_okD (u : Nat) : ∀ b ∈ Lib.decDigits u, 48 ≤ b.toNat ∧ b.toNat ≤ 57 := by
  induction u using Nat.strongRecOn with
  | _ u ih =>
    by_cases h : u < 10
    · rw [Lib.decDigits, dif_pos h]
      intro b hb
      rw [List.mem_singleton.1 hb]
      exact ⟨(digit_okD u h).1, (digit_okD u h).2.1⟩
    · rw [Lib.decDigits, dif_neg h]
      intro b hb
      rcases List.mem_append.1 hb with hb | hb
      · exact ih (u / 10) (by omega) b hb
      · rw [List.mem_singleton.1 hb]
        exact ⟨(digit_okD (u % 10) (by omega)).1, (digit_okD (u % 10) (by omega)).2.1⟩
def val10 (l : List UInt8) : Nat := l.foldl (fun m b => m * 10 + (b.toNat - 48)) 0
theorem val_dec (u : Nat) : val10 (Lib.decDigits u) = u := by
  induction u using Nat.strongRecOn with
  | ind u ih =>
    by_cases h : u < 10
    · rw [Lib.decDigits, dif_pos h]
      have := (digit_okD u h).2.2
      simp only [val10, List.foldl_cons, List.foldl_nil]
      omega
    · rw [Lib.decDigits, dif_neg h]
      have h1 := ih (u / 10) (by omega)
      have h2 := (digit_okD (u % 10) (by omega)).2.2
      unfold val10 at h1 ⊢
      rw [List.foldl_append, h1]
      simp only [List.foldl_cons, List.foldl_nil]
      omega
theorem dec_inj {u v : Nat} (h : Lib.decDigits u = Lib.decDigits v) : u = v := by rw [← val_dec u, h, val_dec]
theorem dec_no45 (u : Nat) : (45 : UInt8) ∉ Lib.decDigits u := fun h => by
  have := (digits_okD u 45 h).1
  exact absurd this (by decide)
theorem itoa_bytes (x : Int) : ∀ b ∈ Lib.itoa x, (48 ≤ b.toNat ∧ b.toNat ≤ 57) ∨ b = 45 := by
  intro b hb
  unfold Lib.itoa at hb
  split at hb
  · rcases List.mem_cons.1 hb with rfl | hb
    · exact .inr rfl
    · exact .inl (digits_okD _ b hb)
  · exact .inl (digits_okD _ b hb)
theorem itoa_nb : NbOK Lib.itoa := by
  refine ⟨fun x y h => ?_, fun x hm => ?_, fun x hm => ?_⟩
  · unfold Lib.itoa at h
    by_cases hx : x < 0
    · by_cases hy : y < 0
      · rw [if_pos hx, if_pos hy] at h
        have := dec_inj (List.cons.inj h).2
        omega
      · rw [if_pos hx, if_neg hy] at h
        exact absurd (by rw [← h]; simp) (dec_no45 y.toNat)
    · by_cases hy : y < 0
      · rw [if_neg hx, if_pos hy] at h
        exact absurd (by rw [h]; simp) (dec_no45 x.toNat)
      · rw [if_neg hx, if_neg hy] at h
        have := dec_inj h
        omega
  · rcases itoa_bytes x 32 hm with h | h
    · exact absurd h.1 (by decide)
    · exact absurd h (by decide)
  · rcases itoa_bytes x 59 hm with h | h
    · exact absurd h.2 (by decide)
    · exact absurd h (by decide)
theorem dec_length {u : Nat} : ∀ {k : Nat}, 0 < k → u < 10 ^ k → (Lib.decDigits u).length ≤ k := by
  intro k
  induction k generalizing u with
  | zero => intro h; omega
  | succ k ih =>
    intro _ hu
    by_cases h : u < 10
    · rw [Lib.decDigits, dif_pos h]; simp
    · rw [Lib.decDigits, dif_neg h]
      have hk : 0 < k := by
        rcases Nat.eq_zero_or_pos k with rfl | h'
        · simp at hu; omega
        · exact h'
      have hu' : u < 10 * 10 ^ k := by rw [Nat.pow_succ] at hu; omega
      have := ih hk (u := u / 10) (by rw [Nat.div_lt_iff_lt_mul (by decide)]; omega)
      simp; exact this
theorem itoa_length {x : Int} (h : I64 x) : (Lib.itoa x).length ≤ 20 := by
  unfold I64 at h
  unfold Lib.itoa
  split
  · have := dec_length (u := x.natAbs) (k := 19) (by decide) (by omega)
    simp; omega
  · have := dec_length (u := x.toNat) (k := 19) (by decide) (by omega)
    omega
theorem rowD_length {st : List Int} (h : ∀ x ∈ st, I64 x) : (rowD Lib.itoa st).length ≤ 21 * st.length := by
  induction st with
  | nil => simp [rowD]
  | cons x r ih =>
    rw [rowD_cons]
    have h1 := itoa_length (h x (by simp))
    have h2 := ih (fun y hy => h y (List.mem_cons_of_mem _ hy))
    simp only [List.length_append, List.length_cons]
    omega
theorem keysD_length {S : Int → List Int} {n : Nat} (hS : ∀ q : Int, (∀ x ∈ S q, I64 x) ∧ (S q).length ≤ n) : ∀ ks : List Nat, (keysD Lib.itoa S ks).length ≤ (21 * n + 1) * ks.length
  | [] => by simp [keysD]
  | k :: ks => by
    rw [keysD_cons]
    have h1 := rowD_length (hS (k : Int)).1
    have h2 := (hS (k : Int)).2
    have h3 := keysD_length hS ks
    have h4 : 21 * (S (k : Int)).length ≤ 21 * n := Nat.mul_le_mul_left _ h2
    simp only [List.length_append, List.length_cons, Nat.mul_add]
    omega
theorem nameD_length {p : Par} (hp : ParOK p) {ord : List Nat} {S : Int → List Int} (hR : Reach p.srD ord S) : (nameD Lib.itoa ord S).length ≤ 100000 := by
  have hRB := reach_srB hR
  have hro := reach_ord hp hRB
  have h1 := d16_length64 (maskN_lt (ord := ord) (fun m hm => by have := hro.1 m hm; omega))
  have h2 := keysD_length (S := S) (n := 61) (fun q => ⟨reach_i64 hp hRB q, by have := reach_len hRB q; have := hro.2; omega⟩) (List.range 8)
  unfold nameD
  rw [List.length_append]
  simp at h2
  omega
end Go.Proofs.YtkbjaneekblgmaaGreatDoor

namespace Go.Proofs.YtkbjaneekblgmaaGreatDoor
open Go.RowKit

def ahB (sm : Bool) : Opn → Opn → Bool := if sm then sameB else beforeB

set_option maxHeartbeats 1000000 in
theorem ahead_any (sm : Bool) (B : Nat) (x y : Opn) (w : World) (hc : w.cell? ⟨B, 2, none⟩ = some (.bool sm)) :
    Calls Tryz.prog 36 #[.pointer (some ⟨B, 0, none⟩), x.agg, y.agg] w fun e w' => e = .returned (.bool (ahB sm x y)) ∧ Below w.heap.size w w' := by
  have hlt : B < w.heap.size := World.block_lt_of_cell? w _ hc
  have HB : Hid (∀ W, Below w.heap.size w W → Calls Tryz.prog 33 #[x.agg, y.agg] W fun e w' => e = .returned (.bool (beforeB x y)) ∧ Below w.heap.size w w') := hideIt (fun W hW => (refBefore_any x y W).mono fun e w' ⟨h1, h2⟩ => ⟨h1, belJ hW h2⟩)
  cases sm
  · unfold ahB
    unfold Opn.agg at HB ⊢
    go_enter Tryz.func36, Tryz.ntmps36
    go_wp2_with (go_at_call 33; refine (HB.out _ (belA (belA (Below.refl _ _) _) _)).mono ?_; rintro e w' ⟨rfl, hb⟩; have HBB := hideIt hb; clear hb)
    go_ret
    exact ⟨rfl, HBB.out⟩
  · have e0 : ahB true x y = sameB x y := rfl
    rw [e0]; clear e0
    unfold Opn.agg
    clear HB
    by_cases h1 : x.p = y.p
    · by_cases h2 : x.c < y.c
      · have e : sameB x y = true := by simp [sameB, h1, h2]
        rw [e]; clear e
        go_enter Tryz.func36, Tryz.ntmps36
        go_wp2
        go_ret
        exact ⟨rfl, belA (belA (Below.refl _ _) _) _⟩
      · have e : sameB x y = false := by simp [sameB, h2]
        rw [e]; clear e
        go_enter Tryz.func36, Tryz.ntmps36
        go_wp2
        go_ret
        exact ⟨by simp, belA (belA (Below.refl _ _) _) _⟩
    · have e : sameB x y = false := by simp [sameB, h1]
      rw [e]; clear e
      go_enter Tryz.func36, Tryz.ntmps36
      go_wp2
      go_ret
      exact ⟨rfl, belA (belA (Below.refl _ _) _) _⟩
end Go.Proofs.YtkbjaneekblgmaaGreatDoor
