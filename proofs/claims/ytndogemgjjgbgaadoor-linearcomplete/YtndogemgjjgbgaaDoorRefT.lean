/-
  The document's Step of a set: walked.
-/
import Derived.Test.YtndogemgjjgbgaaDoorRefQ
import Derived.Test.YtndogemgjjgbgaaDoorPlainT
namespace Go.Proofs.YtndogemgjjgbgaaDoor
open Go.RowKit

/-- What the first loop has kept. -/
def restTo (st : List Int) (a : Int) (n : Nat) : List Int := (st.take n).filter fun x => x != a
def wasTo (st : List Int) (a : Int) (n : Nat) : Int := if (st.take n).contains a then 1 else 0

theorem take_at {st : List Int} {n : Nat} (h : n < st.length) : st.take (n + 1) = st.take n ++ [st[n]] := by
  rw [List.take_add_one, List.getElem?_eq_getElem h]; rfl
theorem restTo_same {st : List Int} {a : Int} {n : Nat} (h : n < st.length) (e : st[n] = a) : restTo st a (n + 1) = restTo st a n := by
  simp [restTo, take_at h, List.filter_append, e]
theorem restTo_other {st : List Int} {a : Int} {n : Nat} (h : n < st.length) (e : st[n] ≠ a) : restTo st a (n + 1) = restTo st a n ++ [st[n]] := by
  unfold restTo
  rw [take_at h, List.filter_append, List.filter_cons_of_pos (by simpa using e)]
  rfl
theorem wasTo_same {st : List Int} {a : Int} {n : Nat} (h : n < st.length) (e : st[n] = a) : wasTo st a (n + 1) = 1 := by
  simp [wasTo, take_at h, e]
theorem wasTo_other {st : List Int} {a : Int} {n : Nat} (h : n < st.length) (e : st[n] ≠ a) : wasTo st a (n + 1) = wasTo st a n := by
  unfold wasTo
  rw [take_at h]
  generalize st[n] = x at e
  simp [Ne.symm e]
theorem restTo_len (st : List Int) (a : Int) (n : Nat) : (restTo st a n).length ≤ st.length :=
  Nat.le_trans (List.length_filter_le _ _) (by simp; omega)

/-- What the second loop has made, and whether it was put in. -/
def doneTo (st : List Int) (a : Int) (n : Nat) : Bool := (st.take n).any fun x => decide (a < x)
def outTo (st : List Int) (a : Int) (n : Nat) : List Int := if doneTo st a n then putL a (st.take n) else st.take n
theorem doneTo_succ {st : List Int} {a : Int} {n : Nat} (h : n < st.length) : doneTo st a (n + 1) = (doneTo st a n || decide (a < st[n])) := by
  unfold doneTo
  rw [take_at h, List.any_append]
  generalize st[n] = x
  simp
theorem putL_none : ∀ {l : List Int} {a : Int}, (l.any fun x => decide (a < x)) = false → putL a l = l ++ [a]
  | [], _, _ => rfl
  | x :: r, a, h => by
    simp only [List.any_cons, Bool.or_eq_false_iff, decide_eq_false_iff_not] at h
    unfold putL
    rw [if_neg h.1, putL_none h.2]; rfl
theorem putL_new : ∀ {l : List Int} {a x : Int}, (l.any fun x => decide (a < x)) = false → a < x → putL a (l ++ [x]) = (l ++ [a]) ++ [x]
  | [], a, x, _, hx => by simp [putL, hx]
  | y :: r, a, x, h, hx => by
    simp only [List.any_cons, Bool.or_eq_false_iff, decide_eq_false_iff_not] at h
    rw [List.cons_append, putL, if_neg h.1, putL_new h.2 hx]; rfl
theorem putL_add : ∀ {l : List Int} {a x : Int}, (l.any fun x => decide (a < x)) = true → putL a (l ++ [x]) = putL a l ++ [x]
  | [], a, x, h => by simp at h
  | y :: r, a, x, h => by
    rw [List.cons_append, putL, putL]
    by_cases hy : a < y
    · rw [if_pos hy, if_pos hy]; rfl
    · rw [if_neg hy, if_neg hy, putL_add (by simpa [hy] using h)]; rfl
theorem outTo_new {st : List Int} {a : Int} {n : Nat} (h : n < st.length) (hd : doneTo st a n = false) (hx : a < st[n]) : outTo st a (n + 1) = (outTo st a n ++ [a]) ++ [st[n]] := by
  unfold outTo
  rw [doneTo_succ h, hd]
  simp only [hx, decide_true, Bool.or_true, if_true, Bool.false_eq_true, if_false]
  rw [take_at h]
  exact putL_new hd hx
theorem outTo_done {st : List Int} {a : Int} {n : Nat} (h : n < st.length) (hd : doneTo st a n = true) : outTo st a (n + 1) = outTo st a n ++ [st[n]] := by
  unfold outTo
  rw [doneTo_succ h, hd]
  simp only [Bool.true_or, if_true]
  rw [take_at h]
  exact putL_add hd
theorem outTo_less {st : List Int} {a : Int} {n : Nat} (h : n < st.length) (hd : doneTo st a n = false) (hx : ¬ a < st[n]) : outTo st a (n + 1) = outTo st a n ++ [st[n]] := by
  unfold outTo
  rw [doneTo_succ h, hd]
  simp only [hx, decide_false, Bool.or_false, Bool.false_eq_true, if_false]
  rw [take_at h]
theorem outTo_len (st : List Int) (a : Int) (n : Nat) : (outTo st a n).length ≤ st.length + 1 := by
  have hl : ∀ l : List Int, (putL a l).length = l.length + 1 := by
    intro l
    induction l with
    | nil => rfl
    | cons x r ih => unfold putL; split <;> simp [ih]
  unfold outTo
  split
  · rw [hl]; simp; omega
  · simp; omega
theorem outTo_end_done {st : List Int} {a : Int} (h : doneTo st a st.length = true) : outTo st a st.length = putL a st := by
  unfold outTo; rw [h, if_pos rfl, List.take_length]
theorem outTo_end_none {st : List Int} {a : Int} (h : doneTo st a st.length = false) : outTo st a st.length ++ [a] = putL a st := by
  unfold outTo
  rw [h, if_neg (by decide), putL_none (by unfold doneTo at h; rw [List.take_length] at h; exact h), List.take_length]

set_option maxRecDepth 100000 in
set_option maxHeartbeats 2000000 in
theorem refStep_drop (a b : Int) (st : List Int) (v : Value) (w : World) (hv : HasInts w v st) (hs : st.Pairwise (· < ·)) (hlen : st.length ≤ 1000) :
    Calls Tryd.prog 39 #[.int .i64 3, v, .int .i64 7, .int .i64 a, .int .i64 b] w fun e w' => StepTold w (some (setM st 7 a)) e w' := by
  have HT := hideIt (refStart_any 3 w)
  have HS := hideIt (refKnows_any 3 7 w)
  simp only [startV, startW, show oneB 3 = false from rfl, Bool.false_eq_true, if_false] at HT
  rw [show knowsB 3 7 = true from rfl] at HS
  have q := q47
  have HV := hideIt hv
  have HP := hideIt hs
  obtain ⟨A, cap, rfl, _, _, _, hcell⟩ := hv
  have HC : Hid (∀ n, (hn : n < st.length) → ∃ g off, A = some ⟨g, off, none⟩ ∧ ∀ wr, Below w.heap.size w wr → wr.cell? ⟨g, off + n, none⟩ = some (.int .i64 st[n])) := fun n hn => by
    obtain h | ⟨g, off, e, hc⟩ := hcell
    · subst h; simp at hn
    · exact ⟨g, off, e, fun wr hW => (hW.cell (World.block_lt_of_cell? w _ (hc n hn))).trans (hc n hn)⟩
  obtain ⟨w0, hw0⟩ : ∃ w0, w0 = w := ⟨_, rfl⟩
  rw [← hw0] at HV HC
  have HB0 : Hid (w0 = w) := hw0
  clear hcell hs hw0
  go_enter Tryd.func39, Tryd.ntmps39
  go_wp2_with (first | (go_at_call 16; refine HS.out.mono ?_; rintro e w1 ⟨rfl, hw1⟩; have hw1 := hw1.symm; subst hw1) | (go_at_call 38; refine HT.out.mono ?_; rintro e w2 ⟨rfl, hw2⟩; have hw2 := hw2.symm; subst hw2) | fail)
  go_loopw [14, 15, 127] (fun r c i wr => ∃ n : Nat, n ≤ st.length ∧ i = .int .i64 n ∧ c = .int .i64 (wasTo st a n) ∧ Own wr w0.heap.size r (restTo st a n) ∧ Below w0.heap.size w0 wr) (fun _ _ i _ => st.length - (intOf i).toNat)
  case atStart => exact ⟨0, by omega, rfl, rfl, World.ownsRow_nil _ _ _ _, by rw [HB0.out]; exact Below.refl _ _⟩
  case round =>
    obtain ⟨n, hn, rfl, rfl, ho, hb⟩ := hrel
    have HO := hideIt ho
    have HB := hideIt hb
    clear ho hb
    by_cases hnl : n < st.length
    · obtain ⟨g, off, hA, hc⟩ := HC.out n hnl
      subst hA
      have hc := hc _ HB.out
      have k1 : (0 : Int) ≤ (n : Int) := by omega
      have k2 : (n : Int) < (st.length : Int) := by omega
      have hwr : IntKind.i64.wrap ((n : Int) + 1) = (n : Int) + 1 := by rw [IntKind.wrap_i64]; omega
      obtain ⟨x, hx⟩ : ∃ x, st[n] = x := ⟨_, rfl⟩
      rw [hx] at hc
      have HX := hideIt hx
      clear hx
      cases hxa : (x == a)
      · have hne : st[n] ≠ a := by rw [HX.out]; simpa using hxa
        have G2 := World.grownBy_alloc wr (.cells #[.int .i64 x] 3) none
        obtain ⟨V1, W1, hrun1, O1, G3⟩ := run_app (HO.out.kept G2) (hasInts_one wr x) (Nat.le_trans HB.out.size G2.size) (by have := restTo_len st a n; simp; omega) 23
        have B1 := hideIt ((HB.out.grown G2 HB.out.size (fun k hk => by cases hk)).grown G3 (Nat.le_trans HB.out.size G2.size) (own_lt (HO.out.kept G2)))
        have R1 := hideIt hrun1
        rw [← HX.out, ← restTo_other hnl hne] at O1
        have OO := hideIt O1
        have WW := hideIt (wasTo_other hnl hne)
        clear hrun1 O1 G3 G2 hne
        go_wp2_with (at_builtin; refine Lib.wpList_append_run _ rfl _ _ 23 23 rfl _ _ rfl rfl V1 W1 R1.out ?_)
        go_roundw
        case rel => exact ⟨n + 1, by omega, by go_num, by rw [WW.out], OO.out, B1.out⟩
        case measure => simp [intOf]; omega
      · have he : st[n] = a := by rw [HX.out]; simpa using hxa
        have OO := hideIt (restTo_same hnl he)
        have WW := hideIt (wasTo_same hnl he)
        clear he
        go_wp2
        go_roundw
        case rel => exact ⟨n + 1, by omega, by go_num, by rw [WW.out], by rw [OO.out]; exact HO.out, HB.out⟩
        case measure => simp [intOf]; omega
    · obtain rfl : n = st.length := by omega
      have e1 : restTo st a st.length = st.filter fun x => x != a := by unfold restTo; rw [List.take_length]
      have e2 : wasTo st a st.length = if st.contains a then 1 else 0 := by unfold wasTo; rw [List.take_length]
      rw [e1] at HO
      rw [e2]
      clear e1 e2
      obtain ⟨c, hc⟩ : ∃ c, st.contains a = c := ⟨_, rfl⟩
      have RES : Hid (∀ r, Own wr w0.heap.size r (st.filter fun x => x != a) → StepTold w (some (setM st 7 a)) (.returned (.tuple #[r, .int .i64 (if c then 1 else 0), .bool true])) wr) := fun r ho => by
        rw [← HB0.out]
        refine ⟨HB.out, ?_⟩
        cases c with
        | false => rw [setM_rest (fun e => absurd e (by decide)) (fun _ => hc) (fun e => absurd e (by decide))]; exact ⟨r, rfl, rowAt_owns (by rw [filter_none (a := a) (by simpa using hc)] at ho; exact ho)⟩
        | true => rw [setM_drop rfl hc, ← filter_del HP.out (by simpa using hc)]; exact ⟨r, rfl, rowAt_owns ho⟩
      rw [hc]
      clear hc
      cases c
      · simp only [Bool.false_eq_true, if_false] at RES ⊢
        go_wp2
        go_ret3
        exact RES.out _ HO.out
      · simp only [if_true] at RES ⊢
        go_wp2
        go_ret3
        exact RES.out _ HO.out

set_option maxRecDepth 100000 in
set_option maxHeartbeats 2000000 in
theorem refStep_has (a b : Int) (st : List Int) (v : Value) (w : World) (hv : HasInts w v st) (hs : st.Pairwise (· < ·)) (hlen : st.length ≤ 1000) :
    Calls Tryd.prog 39 #[.int .i64 3, v, .int .i64 8, .int .i64 a, .int .i64 b] w fun e w' => StepTold w (some (setM st 8 a)) e w' := by
  have HT := hideIt (refStart_any 3 w)
  have HS := hideIt (refKnows_any 3 8 w)
  simp only [startV, startW, show oneB 3 = false from rfl, Bool.false_eq_true, if_false] at HT
  rw [show knowsB 3 8 = true from rfl] at HS
  have q := q47
  have HV := hideIt hv
  have HP := hideIt hs
  obtain ⟨A, cap, rfl, _, _, _, hcell⟩ := hv
  have HC : Hid (∀ n, (hn : n < st.length) → ∃ g off, A = some ⟨g, off, none⟩ ∧ ∀ wr, Below w.heap.size w wr → wr.cell? ⟨g, off + n, none⟩ = some (.int .i64 st[n])) := fun n hn => by
    obtain h | ⟨g, off, e, hc⟩ := hcell
    · subst h; simp at hn
    · exact ⟨g, off, e, fun wr hW => (hW.cell (World.block_lt_of_cell? w _ (hc n hn))).trans (hc n hn)⟩
  obtain ⟨w0, hw0⟩ : ∃ w0, w0 = w := ⟨_, rfl⟩
  rw [← hw0] at HV HC
  have HB0 : Hid (w0 = w) := hw0
  clear hcell hs hw0
  go_enter Tryd.func39, Tryd.ntmps39
  go_wp2_with (first | (go_at_call 16; refine HS.out.mono ?_; rintro e w1 ⟨rfl, hw1⟩; have hw1 := hw1.symm; subst hw1) | (go_at_call 38; refine HT.out.mono ?_; rintro e w2 ⟨rfl, hw2⟩; have hw2 := hw2.symm; subst hw2) | fail)
  go_loopw [14, 15, 127] (fun r c i wr => ∃ n : Nat, n ≤ st.length ∧ i = .int .i64 n ∧ c = .int .i64 (wasTo st a n) ∧ Own wr w0.heap.size r (restTo st a n) ∧ Below w0.heap.size w0 wr) (fun _ _ i _ => st.length - (intOf i).toNat)
  case atStart => exact ⟨0, by omega, rfl, rfl, World.ownsRow_nil _ _ _ _, by rw [HB0.out]; exact Below.refl _ _⟩
  case round =>
    obtain ⟨n, hn, rfl, rfl, ho, hb⟩ := hrel
    have HO := hideIt ho
    have HB := hideIt hb
    clear ho hb
    by_cases hnl : n < st.length
    · obtain ⟨g, off, hA, hc⟩ := HC.out n hnl
      subst hA
      have hc := hc _ HB.out
      have k1 : (0 : Int) ≤ (n : Int) := by omega
      have k2 : (n : Int) < (st.length : Int) := by omega
      have hwr : IntKind.i64.wrap ((n : Int) + 1) = (n : Int) + 1 := by rw [IntKind.wrap_i64]; omega
      obtain ⟨x, hx⟩ : ∃ x, st[n] = x := ⟨_, rfl⟩
      rw [hx] at hc
      have HX := hideIt hx
      clear hx
      cases hxa : (x == a)
      · have hne : st[n] ≠ a := by rw [HX.out]; simpa using hxa
        have G2 := World.grownBy_alloc wr (.cells #[.int .i64 x] 3) none
        obtain ⟨V1, W1, hrun1, O1, G3⟩ := run_app (HO.out.kept G2) (hasInts_one wr x) (Nat.le_trans HB.out.size G2.size) (by have := restTo_len st a n; simp; omega) 23
        have B1 := hideIt ((HB.out.grown G2 HB.out.size (fun k hk => by cases hk)).grown G3 (Nat.le_trans HB.out.size G2.size) (own_lt (HO.out.kept G2)))
        have R1 := hideIt hrun1
        rw [← HX.out, ← restTo_other hnl hne] at O1
        have OO := hideIt O1
        have WW := hideIt (wasTo_other hnl hne)
        clear hrun1 O1 G3 G2 hne
        go_wp2_with (at_builtin; refine Lib.wpList_append_run _ rfl _ _ 23 23 rfl _ _ rfl rfl V1 W1 R1.out ?_)
        go_roundw
        case rel => exact ⟨n + 1, by omega, by go_num, by rw [WW.out], OO.out, B1.out⟩
        case measure => simp [intOf]; omega
      · have he : st[n] = a := by rw [HX.out]; simpa using hxa
        have OO := hideIt (restTo_same hnl he)
        have WW := hideIt (wasTo_same hnl he)
        clear he
        go_wp2
        go_roundw
        case rel => exact ⟨n + 1, by omega, by go_num, by rw [WW.out], by rw [OO.out]; exact HO.out, HB.out⟩
        case measure => simp [intOf]; omega
    · obtain rfl : n = st.length := by omega
      have e1 : restTo st a st.length = st.filter fun x => x != a := by unfold restTo; rw [List.take_length]
      have e2 : wasTo st a st.length = if st.contains a then 1 else 0 := by unfold wasTo; rw [List.take_length]
      rw [e1] at HO
      rw [e2]
      clear e1 e2
      cases hc : st.contains a
      · simp only [Bool.false_eq_true, if_false]
        have HE := hideIt (setM_rest (k := 8) (st := st) (a := a) (fun e => absurd e (by decide)) (fun e => absurd e (by decide)) (fun _ => hc))
        clear hc
        have G2 := World.grownBy_alloc wr (.cells #[] 3) none
        obtain ⟨V1, W1, hrun1, O1, G3⟩ := run_app (own_empty wr w0.heap.size HB.out.size) ((HV.out.below HB.out).kept G2) (Nat.le_trans HB.out.size G2.size) (by simp; omega) 23
        have B1 := (HB.out.grown G2 HB.out.size (fun k hk => by cases hk)).grown G3 (Nat.le_trans HB.out.size G2.size) (fun k hk => by have := HB.out.size; simp [Value.ownBlock] at hk; omega)
        have R1 := hideIt hrun1
        have RES : Hid (StepTold w (some (setM st 8 a)) (.returned (.tuple #[V1, .int .i64 0, .bool true])) W1) := by
          rw [← HB0.out, HE.out]
          exact ⟨B1, V1, rfl, rowAt_owns O1⟩
        clear hrun1 O1 G3 G2 B1
        go_wp2_with (at_builtin; refine Lib.wpList_append_run _ rfl _ _ 23 23 rfl _ _ rfl rfl V1 W1 R1.out ?_)
        go_ret3
        exact RES.out

      · simp only [if_true]
        have HE := hideIt (setM_has (k := 8) (st := st) (a := a) rfl hc)
        clear hc
        have G2 := World.grownBy_alloc wr (.cells #[] 3) none
        obtain ⟨V1, W1, hrun1, O1, G3⟩ := run_app (own_empty wr w0.heap.size HB.out.size) ((HV.out.below HB.out).kept G2) (Nat.le_trans HB.out.size G2.size) (by simp; omega) 23
        have B1 := (HB.out.grown G2 HB.out.size (fun k hk => by cases hk)).grown G3 (Nat.le_trans HB.out.size G2.size) (fun k hk => by have := HB.out.size; simp [Value.ownBlock] at hk; omega)
        have R1 := hideIt hrun1
        have RES : Hid (StepTold w (some (setM st 8 a)) (.returned (.tuple #[V1, .int .i64 1, .bool true])) W1) := by
          rw [← HB0.out, HE.out]
          exact ⟨B1, V1, rfl, rowAt_owns O1⟩
        clear hrun1 O1 G3 G2 B1
        go_wp2_with (at_builtin; refine Lib.wpList_append_run _ rfl _ _ 23 23 rfl _ _ rfl rfl V1 W1 R1.out ?_)
        go_ret3
        exact RES.out

set_option maxRecDepth 100000 in
set_option maxHeartbeats 2000000 in
theorem refStep_put (a b : Int) (st : List Int) (v : Value) (w : World) (hv : HasInts w v st) (hs : st.Pairwise (· < ·)) (hlen : st.length ≤ 1000) :
    Calls Tryd.prog 39 #[.int .i64 3, v, .int .i64 6, .int .i64 a, .int .i64 b] w fun e w' => StepTold w (some (setM st 6 a)) e w' := by
  have HT := hideIt (refStart_any 3 w)
  have HS := hideIt (refKnows_any 3 6 w)
  simp only [startV, startW, show oneB 3 = false from rfl, Bool.false_eq_true, if_false] at HT
  rw [show knowsB 3 6 = true from rfl] at HS
  have q := q47
  have HV := hideIt hv
  have HP := hideIt hs
  obtain ⟨A, cap, rfl, _, _, _, hcell⟩ := hv
  have HC : Hid (∀ n, (hn : n < st.length) → ∃ g off, A = some ⟨g, off, none⟩ ∧ ∀ wr, Below w.heap.size w wr → wr.cell? ⟨g, off + n, none⟩ = some (.int .i64 st[n])) := fun n hn => by
    obtain h | ⟨g, off, e, hc⟩ := hcell
    · subst h; simp at hn
    · exact ⟨g, off, e, fun wr hW => (hW.cell (World.block_lt_of_cell? w _ (hc n hn))).trans (hc n hn)⟩
  obtain ⟨w0, hw0⟩ : ∃ w0, w0 = w := ⟨_, rfl⟩
  rw [← hw0] at HV HC
  have HB0 : Hid (w0 = w) := hw0
  clear hcell hs hw0
  go_enter Tryd.func39, Tryd.ntmps39
  go_wp2_with (first | (go_at_call 16; refine HS.out.mono ?_; rintro e w1 ⟨rfl, hw1⟩; have hw1 := hw1.symm; subst hw1) | (go_at_call 38; refine HT.out.mono ?_; rintro e w2 ⟨rfl, hw2⟩; have hw2 := hw2.symm; subst hw2) | fail)
  go_loopw [14, 15, 127] (fun r c i wr => ∃ n : Nat, n ≤ st.length ∧ i = .int .i64 n ∧ c = .int .i64 (wasTo st a n) ∧ Own wr w0.heap.size r (restTo st a n) ∧ Below w0.heap.size w0 wr) (fun _ _ i _ => st.length - (intOf i).toNat)
  case atStart => exact ⟨0, by omega, rfl, rfl, World.ownsRow_nil _ _ _ _, by rw [HB0.out]; exact Below.refl _ _⟩
  case round =>
    obtain ⟨n, hn, rfl, rfl, ho, hb⟩ := hrel
    have HO := hideIt ho
    have HB := hideIt hb
    clear ho hb
    by_cases hnl : n < st.length
    · obtain ⟨g, off, hA, hc⟩ := HC.out n hnl
      subst hA
      have hc := hc _ HB.out
      have k1 : (0 : Int) ≤ (n : Int) := by omega
      have k2 : (n : Int) < (st.length : Int) := by omega
      have hwr : IntKind.i64.wrap ((n : Int) + 1) = (n : Int) + 1 := by rw [IntKind.wrap_i64]; omega
      obtain ⟨x, hx⟩ : ∃ x, st[n] = x := ⟨_, rfl⟩
      rw [hx] at hc
      have HX := hideIt hx
      clear hx
      cases hxa : (x == a)
      · have hne : st[n] ≠ a := by rw [HX.out]; simpa using hxa
        have G2 := World.grownBy_alloc wr (.cells #[.int .i64 x] 3) none
        obtain ⟨V1, W1, hrun1, O1, G3⟩ := run_app (HO.out.kept G2) (hasInts_one wr x) (Nat.le_trans HB.out.size G2.size) (by have := restTo_len st a n; simp; omega) 23
        have B1 := hideIt ((HB.out.grown G2 HB.out.size (fun k hk => by cases hk)).grown G3 (Nat.le_trans HB.out.size G2.size) (own_lt (HO.out.kept G2)))
        have R1 := hideIt hrun1
        rw [← HX.out, ← restTo_other hnl hne] at O1
        have OO := hideIt O1
        have WW := hideIt (wasTo_other hnl hne)
        clear hrun1 O1 G3 G2 hne
        go_wp2_with (at_builtin; refine Lib.wpList_append_run _ rfl _ _ 23 23 rfl _ _ rfl rfl V1 W1 R1.out ?_)
        go_roundw
        case rel => exact ⟨n + 1, by omega, by go_num, by rw [WW.out], OO.out, B1.out⟩
        case measure => simp [intOf]; omega
      · have he : st[n] = a := by rw [HX.out]; simpa using hxa
        have OO := hideIt (restTo_same hnl he)
        have WW := hideIt (wasTo_same hnl he)
        clear he
        go_wp2
        go_roundw
        case rel => exact ⟨n + 1, by omega, by go_num, by rw [WW.out], by rw [OO.out]; exact HO.out, HB.out⟩
        case measure => simp [intOf]; omega
    · obtain rfl : n = st.length := by omega
      have e1 : restTo st a st.length = st.filter fun x => x != a := by unfold restTo; rw [List.take_length]
      have e2 : wasTo st a st.length = if st.contains a then 1 else 0 := by unfold wasTo; rw [List.take_length]
      rw [e1] at HO
      rw [e2]
      clear e1 e2
      cases hc : st.contains a
      · simp only [Bool.false_eq_true, if_false]
        have HN : Hid (a ∉ st) := hideIt (by simpa using hc)
        have HE := hideIt ((setM_put (k := 6) (st := st) (a := a) rfl hc).trans (by rw [← put_ins HP.out HN.out]))
        clear hc HO
        obtain ⟨wa, hwa⟩ : ∃ wa, wa = wr := ⟨_, rfl⟩
        subst hwa
        go_wp2_with fail
        go_loopw [18, 19, 161] (fun r d i wr => ∃ n : Nat, n ≤ st.length ∧ i = .int .i64 n ∧ d = .bool (doneTo st a n) ∧ Own wr w0.heap.size r (outTo st a n) ∧ Below w0.heap.size w0 wr) (fun _ _ i _ => st.length - (intOf i).toNat)
        case atStart => exact ⟨0, by omega, rfl, rfl, World.ownsRow_nil _ _ _ _, HB.out⟩
        case round =>
          obtain ⟨n, hn, rfl, rfl, ho, hb⟩ := hrel
          have HO := hideIt ho
          have HB := hideIt hb
          clear ho hb
          by_cases hnl : n < st.length
          · obtain ⟨g, off, hA, hc⟩ := HC.out n hnl
            subst hA
            have hc := hc _ HB.out
            have k1 : (0 : Int) ≤ (n : Int) := by omega
            have k2 : (n : Int) < (st.length : Int) := by omega
            have hwr : IntKind.i64.wrap ((n : Int) + 1) = (n : Int) + 1 := by rw [IntKind.wrap_i64]; omega
            obtain ⟨x, hx⟩ : ∃ x, st[n] = x := ⟨_, rfl⟩
            rw [hx] at hc
            have HX := hideIt hx
            clear hx
            have hol := outTo_len st a n
            cases hd : doneTo st a n
            · cases hxa : decide (a < x)
              · have hlt : ¬ a < st[n] := by rw [HX.out]; simpa using hxa
                have DD := hideIt ((doneTo_succ (a := a) hnl).trans (show (doneTo st a n || decide (a < st[n])) = false by rw [hd]; simpa using hlt))
                have G2 := World.grownBy_alloc wr (.cells #[.int .i64 x] 3) none
                obtain ⟨V1, W1, hrun1, O1, G3⟩ := run_app (HO.out.kept G2) (hasInts_one wr x) (Nat.le_trans HB.out.size G2.size) (by simp; omega) 23
                have B1 := hideIt ((HB.out.grown G2 HB.out.size (fun k hk => by cases hk)).grown G3 (Nat.le_trans HB.out.size G2.size) (own_lt (HO.out.kept G2)))
                have R1 := hideIt hrun1
                rw [← HX.out, ← outTo_less hnl hd hlt] at O1
                have OO := hideIt O1
                clear hrun1 O1 G3 G2 hlt hol
                go_wp2_with (at_builtin; refine Lib.wpList_append_run _ rfl _ _ 23 23 rfl _ _ rfl rfl V1 W1 R1.out ?_)
                go_roundw
                case rel => exact ⟨n + 1, by omega, by go_num, by rw [DD.out], OO.out, B1.out⟩
                case measure => simp [intOf]; omega
              · have hlt : a < st[n] := by rw [HX.out]; simpa using hxa
                have DD := hideIt ((doneTo_succ (a := a) hnl).trans (show (doneTo st a n || decide (a < st[n])) = true by rw [hd]; simpa using hlt))
                have G2 := World.grownBy_alloc wr (.cells #[.int .i64 a] 3) none
                obtain ⟨V1, W1, hrun1, O1, G3⟩ := run_app (HO.out.kept G2) (hasInts_one wr a) (Nat.le_trans HB.out.size G2.size) (by simp; omega) 23
                have B1 := (HB.out.grown G2 HB.out.size (fun k hk => by cases hk)).grown G3 (Nat.le_trans HB.out.size G2.size) (own_lt (HO.out.kept G2))
                have R1 := hideIt hrun1
                have G4 := World.grownBy_alloc W1 (.cells #[.int .i64 x] 3) none
                obtain ⟨V2, W2, hrun2, O2, G5⟩ := run_app (O1.kept G4) (hasInts_one W1 x) (Nat.le_trans B1.size G4.size) (by simp; omega) 23
                have B2 := hideIt ((B1.grown G4 B1.size (fun k hk => by cases hk)).grown G5 (Nat.le_trans B1.size G4.size) (own_lt (O1.kept G4)))
                have R2 := hideIt hrun2
                rw [← HX.out, ← outTo_new hnl hd hlt] at O2
                have OO := hideIt O2
                clear hrun1 hrun2 O1 O2 G3 G2 G4 G5 hlt hol B1
                go_wp2_with (first | (at_builtin; refine Lib.wpList_append_run _ rfl _ _ 23 23 rfl _ _ rfl rfl V1 W1 R1.out ?_) | (at_builtin; refine Lib.wpList_append_run _ rfl _ _ 23 23 rfl _ _ rfl rfl V2 W2 R2.out ?_))
                go_roundw
                case rel => exact ⟨n + 1, by omega, by go_num, by rw [DD.out], OO.out, B2.out⟩
                case measure => simp [intOf]; omega
            · have DD := hideIt ((doneTo_succ (a := a) hnl).trans (show (doneTo st a n || decide (a < st[n])) = true by rw [hd]; rfl))
              have G2 := World.grownBy_alloc wr (.cells #[.int .i64 x] 3) none
              obtain ⟨V1, W1, hrun1, O1, G3⟩ := run_app (HO.out.kept G2) (hasInts_one wr x) (Nat.le_trans HB.out.size G2.size) (by simp; omega) 23
              have B1 := hideIt ((HB.out.grown G2 HB.out.size (fun k hk => by cases hk)).grown G3 (Nat.le_trans HB.out.size G2.size) (own_lt (HO.out.kept G2)))
              have R1 := hideIt hrun1
              rw [← HX.out, ← outTo_done hnl hd] at O1
              have OO := hideIt O1
              clear hrun1 O1 G3 G2 hol
              cases hxa : decide (a < x)
              · go_wp2_with (at_builtin; refine Lib.wpList_append_run _ rfl _ _ 23 23 rfl _ _ rfl rfl V1 W1 R1.out ?_)
                go_roundw
                case rel => exact ⟨n + 1, by omega, by go_num, by rw [DD.out], OO.out, B1.out⟩
                case measure => simp [intOf]; omega
              · go_wp2_with (at_builtin; refine Lib.wpList_append_run _ rfl _ _ 23 23 rfl _ _ rfl rfl V1 W1 R1.out ?_)
                go_roundw
                case rel => exact ⟨n + 1, by omega, by go_num, by rw [DD.out], OO.out, B1.out⟩
                case measure => simp [intOf]; omega
          · obtain rfl : n = st.length := by omega
            have hol := outTo_len st a st.length
            cases hd : doneTo st a st.length
            · have G2 := World.grownBy_alloc wr (.cells #[.int .i64 a] 3) none
              obtain ⟨V1, W1, hrun1, O1, G3⟩ := run_app (HO.out.kept G2) (hasInts_one wr a) (Nat.le_trans HB.out.size G2.size) (by simp; omega) 23
              have B1 := ((HB.out.grown G2 HB.out.size (fun k hk => by cases hk)).grown G3 (Nat.le_trans HB.out.size G2.size) (own_lt (HO.out.kept G2)))
              rw [outTo_end_none hd] at O1
              have R1 := hideIt hrun1
              have RES : Hid (StepTold w (some (setM st 6 a)) (.returned (.tuple #[V1, .int .i64 1, .bool true])) W1) := by
                rw [← HB0.out, HE.out]
                exact ⟨B1, V1, rfl, rowAt_owns O1⟩
              clear hrun1 O1 G3 G2 B1 hol
              go_wp2_with (at_builtin; refine Lib.wpList_append_run _ rfl _ _ 23 23 rfl _ _ rfl rfl V1 W1 R1.out ?_)
              go_ret3
              exact RES.out
            · have RES : Hid (∀ r, Own wr w0.heap.size r (putL a st) → StepTold w (some (setM st 6 a)) (.returned (.tuple #[r, .int .i64 1, .bool true])) wr) := fun r ho => by
                rw [← HB0.out, HE.out]
                exact ⟨HB.out, r, rfl, rowAt_owns ho⟩
              rw [outTo_end_done hd] at HO
              go_wp2
              go_ret3
              exact RES.out _ HO.out
      · simp only [if_true]
        have HE := hideIt (setM_rest (k := 6) (st := st) (a := a) (fun _ => hc) (fun e => absurd e (by decide)) (fun e => absurd e (by decide)))
        clear hc
        have G2 := World.grownBy_alloc wr (.cells #[] 3) none
        obtain ⟨V1, W1, hrun1, O1, G3⟩ := run_app (own_empty wr w0.heap.size HB.out.size) ((HV.out.below HB.out).kept G2) (Nat.le_trans HB.out.size G2.size) (by simp; omega) 23
        have B1 := (HB.out.grown G2 HB.out.size (fun k hk => by cases hk)).grown G3 (Nat.le_trans HB.out.size G2.size) (fun k hk => by have := HB.out.size; simp [Value.ownBlock] at hk; omega)
        have R1 := hideIt hrun1
        have RES : Hid (StepTold w (some (setM st 6 a)) (.returned (.tuple #[V1, .int .i64 0, .bool true])) W1) := by
          rw [← HB0.out, HE.out]
          exact ⟨B1, V1, rfl, rowAt_owns O1⟩
        clear hrun1 O1 G3 G2 B1
        go_wp2_with (at_builtin; refine Lib.wpList_append_run _ rfl _ _ 23 23 rfl _ _ rfl rfl V1 W1 R1.out ?_)
        go_ret3
        exact RES.out

end Go.Proofs.YtndogemgjjgbgaaDoor
