/-
  Package clock's paths: steadyCuts and its closure, walked.
-/
import Derived.Test.YtmonbkoelehdlaaDoorCtA
namespace Go.Proofs.YtmonbkoelehdlaaDoor
open Go.RowKit

/-- What the closure works on: the paths, how many were found, the cut, itself. -/
structure TryAt (A : Nat → Option Addr) (M C : Nat → Nat) (w0 w : World) (c : Nat → Int) (n : Nat) : Prop where
  bel : Below w0.heap.size w0 w
  kn : RoomB w w0.heap.size (slV A M C)
  nb : ∃ cur t, w.heap[w0.heap.size + 1]? = some (.cells cur t (0, 0))
  nu : w.cell? ⟨w0.heap.size + 1, 0, none⟩ = some (.int .i64 (n : Int))
  cu : VecB w (w0.heap.size + 1 + 1) c
  fn : w.cell? ⟨w0.heap.size + 1 + 1 + 1, 0, none⟩ = some (.func (Fn.func 43) #[] #[.pointer (some ⟨w0.heap.size, 0, none⟩), .pointer (some ⟨w0.heap.size + 1 + 1, 0, none⟩), .pointer (some ⟨w0.heap.size + 1 + 1 + 1, 0, none⟩), .pointer (some ⟨w0.heap.size + 1, 0, none⟩)])
section
variable {A : Nat → Option Addr} {M C : Nat → Nat} {w0 w w' : World} {c : Nat → Int} {n : Nat}
theorem TryAt.lt (h : TryAt A M C w0 w c n) : w0.heap.size + 1 + 1 + 1 < w.heap.size := World.block_lt_of_cell? w _ h.fn
theorem tryAt_blk {cur : Array Value} {t : TypeId} (h : w.heap[w0.heap.size + 1]? = some (.cells cur t (0, 0))) (hb : w'.heap[w0.heap.size + 1]? = w.heap[w0.heap.size + 1]?) : ∃ cur t, w'.heap[w0.heap.size + 1]? = some (.cells cur t (0, 0)) := ⟨cur, t, hb.trans h⟩
theorem TryAt.below (h : TryAt A M C w0 w c n) (hb : Below w.heap.size w w') : TryAt A M C w0 w' c n := by
  have hl := h.lt
  obtain ⟨cur, t, hn⟩ := h.nb
  exact ⟨belJ h.bel hb, h.kn.below hb h.kn.lt, ⟨cur, t, (hb.block _ (by omega)).trans hn⟩, (hb.cell (p := ⟨w0.heap.size + 1, 0, none⟩) (by show w0.heap.size + 1 < _; omega)).trans h.nu, h.cu.below hb h.cu.lt, (hb.cell (p := ⟨w0.heap.size + 1 + 1 + 1, 0, none⟩) hl).trans h.fn⟩
theorem TryAt.put (h : TryAt A M C w0 w c n) {m : Nat} (hm : m < 8) (x : Int) : TryAt A M C w0 (w.setCell ⟨w0.heap.size + 1 + 1, m, none⟩ (.int .i64 x)) (fun q => if q = m then x else c q) n := by
  obtain ⟨cur, t, hn⟩ := h.nb
  exact ⟨h.bel.setCell (p := ⟨w0.heap.size + 1 + 1, m, none⟩) (by show w0.heap.size ≤ w0.heap.size + 1 + 1; omega) _, h.kn.block (Below.heap_setCell w ⟨w0.heap.size + 1 + 1, m, none⟩ _ _ (by show w0.heap.size ≠ w0.heap.size + 1 + 1; omega)),
    ⟨cur, t, (Below.heap_setCell w ⟨w0.heap.size + 1 + 1, m, none⟩ _ _ (by show w0.heap.size + 1 ≠ w0.heap.size + 1 + 1; omega)).trans hn⟩, (World.cell?_setCell_other _ _ _ _ (by intro e; injection e with e1; omega)).trans h.nu, h.cu.put hm x,
    (World.cell?_setCell_other _ _ _ _ (by intro e; injection e with e1; omega)).trans h.fn⟩
theorem TryAt.count (h : TryAt A M C w0 w c n) (m : Nat) : TryAt A M C w0 (w.setCell ⟨w0.heap.size + 1, 0, none⟩ (.int .i64 (m : Int))) c m := by
  obtain ⟨cur, t, hn⟩ := h.nb
  obtain ⟨cur', hc, _⟩ := heap_setCell hn 0 (.int .i64 (m : Int))
  exact ⟨h.bel.setCell (p := ⟨w0.heap.size + 1, 0, none⟩) (by show w0.heap.size ≤ w0.heap.size + 1; omega) _, h.kn.block (Below.heap_setCell w ⟨w0.heap.size + 1, 0, none⟩ _ _ (by show w0.heap.size ≠ w0.heap.size + 1; omega)), ⟨cur', t, hc⟩, World.cell?_setCell_same _ _ _ h.nu, h.cu.other (p := ⟨w0.heap.size + 1, 0, none⟩) (by show w0.heap.size + 1 + 1 ≠ w0.heap.size + 1; omega) _,
    (World.cell?_setCell_other _ _ _ _ (by intro e; injection e with e1; omega)).trans h.fn⟩
theorem TryAt.fz (h : TryAt A M C w0 w c n) : w.frozen? ⟨w0.heap.size + 1, 0, none⟩ = false := by
  obtain ⟨cur, t, hn⟩ := h.nb
  exact frozen_of_row w _ 0 _ t hn
end

set_option maxRecDepth 100000 in
set_option maxHeartbeats 2000000 in
theorem try_any (l : List Stp) (A : Nat → Option Addr) (M C : Nat → Nat) (w0 : World) (h40 : l.length ≤ 40) (hkn : KnRead l w0 (slV A M C)) : ∀ (d p : Nat) (pre : List Nat) (c : Nat → Int) (n : Nat) (w : World), p + d = 8 → pre.length = p → (∀ q, q < p → c q = (pre.getD q 0 : Nat) ∧ pre.getD q 0 ≤ allC l (q : Int)) → TryAt A M C w0 w c n → n + cntA ((allL l).drop p) (fun t => stdN l (pre ++ t)) ≤ 1000000 →
    Calls Tryd.prog 43 #[.int .i64 (p : Int), .pointer (some ⟨w0.heap.size, 0, none⟩), .pointer (some ⟨w0.heap.size + 1 + 1, 0, none⟩), .pointer (some ⟨w0.heap.size + 1 + 1 + 1, 0, none⟩), .pointer (some ⟨w0.heap.size + 1, 0, none⟩)] w
      fun e w' => e = .returned (.tuple #[]) ∧ ∃ c', (∀ q, q < p → c' q = c q) ∧ TryAt A M C w0 w' c' (n + cntA ((allL l).drop p) (fun t => stdN l (pre ++ t)))
  | 0, p, pre, c, n, w, hp, hpre, hc, ht, hn => by
    obtain rfl : p = 8 := by omega
    have hz : (allL l).drop 8 = [] := List.drop_eq_nil_of_le (by rw [allL_len]; omega)
    rw [hz] at hn ⊢
    have e0 : cntA [] (fun t => stdN l (pre ++ t)) = stdN l pre := by show stdN l (pre ++ []) = _; rw [List.append_nil]
    rw [e0] at hn ⊢
    have HS : Hid (stdN l pre = if stdB l c then 1 else 0) := by
      show stdN l pre = _
      unfold stdN
      rw [stdB_congr (l := l) (c := cutL pre) (d := c) fun q hq => (hc q hq).1.symm]
    have hcut : CutOk l c := fun q hq => by
      have := hc q hq
      omega
    have HW := hideIt (steadyP_any l A M C c w h40 (hkn.below ht.bel) hcut)
    have HT := hideIt ht
    obtain ⟨x0, x1, x2, x3, x4, x5, x6, x7⟩ := ht.kn.eight
    obtain ⟨y0, y1, y2, y3, y4, y5, y6, y7⟩ := ht.cu.eight
    clear hc hcut ht
    unfold pthA vecA at HW
    unfold slV at HW x0 x1 x2 x3 x4 x5 x6 x7
    generalize stdB l c = sb at HS HW
    go_enter Tryd.func43, Tryd.ntmps43
    cases sb
    · go_wp2_with fail
      refine HW.out.mono ?_
      rintro e w1 ⟨rfl, hb1⟩
      go_wp2
      go_end0
      exact ⟨rfl, c, fun _ _ => rfl, by rw [HS.out]; exact HT.out.below hb1⟩
    · go_wp2_with fail
      refine HW.out.mono ?_
      rintro e w1 ⟨rfl, hb1⟩
      have HT1 := hideIt (HT.out.below hb1)
      have z0 := HT1.out.nu
      have z1 := HT1.out.fz
      have HT2 := hideIt (HT1.out.count (n + 1))
      clear hb1
      go_wp2
      go_end0
      exact ⟨rfl, c, fun _ _ => rfl, by rw [HS.out]; exact HT2.out⟩
  | d + 1, p, pre, c, n, w, hp, hpre, hc, ht, hn => by
    have hp8 : p < 8 := by omega
    have hp8' : (p : Int) < 8 := by omega
    rw [allL_drop l hp8] at hn ⊢
    obtain ⟨m, hm⟩ : ∃ m : Nat, allC l (p : Int) = m := ⟨_, rfl⟩
    have hm40 : m ≤ 40 := by rw [← hm]; exact Nat.le_trans (cnt_len l (fun _ => true) (p : Int)) h40
    have hM : M p = m + 1 := by
      obtain ⟨g, cap, h1, _⟩ := hkn p hp8
      unfold slV at h1
      injection h1 with _ h2
      rw [h2, hm]
    have HG : Hid (∀ i, i < m + 1 → ∃ f : Nat, f = cntA ((allL l).drop (p + 1)) (fun t => stdN l ((pre ++ [i]) ++ t))) := fun i _ => ⟨_, rfl⟩
    obtain ⟨g, Hg⟩ : ∃ g : Nat → Nat, Hid (∀ i, g i = cntA ((allL l).drop (p + 1)) (fun t => stdN l ((pre ++ [i]) ++ t))) := ⟨_, fun i => rfl⟩
    have hsum : cntA (allC l (p : Int) :: (allL l).drop (p + 1)) (fun t => stdN l (pre ++ t)) = sumN (m + 1) g := by
      rw [hm]
      show (sumN (m + 1) fun i => cntA ((allL l).drop (p + 1)) fun t => stdN l (pre ++ (i :: t))) = _
      refine sumN_congr fun i _ => ?_
      rw [Hg.out i]
      congr 1
      funext t
      rw [List.append_assoc]
      rfl
    rw [hsum] at hn ⊢
    have HIh : Hid (∀ (i : Nat) (c1 : Nat → Int) (n1 : Nat) (w1 : World), i ≤ m → (∀ q, q < p → c1 q = c q) → c1 p = (i : Int) → TryAt A M C w0 w1 c1 n1 → n1 + g i ≤ 1000000 → Calls Tryd.prog 43 #[.int .i64 ((p : Int) + 1), .pointer (some ⟨w0.heap.size, 0, none⟩), .pointer (some ⟨w0.heap.size + 1 + 1, 0, none⟩), .pointer (some ⟨w0.heap.size + 1 + 1 + 1, 0, none⟩), .pointer (some ⟨w0.heap.size + 1, 0, none⟩)] w1
        fun e w' => e = .returned (.tuple #[]) ∧ ∃ c', (∀ q, q < p → c' q = c q) ∧ TryAt A M C w0 w' c' (n1 + g i)) := fun i c1 n1 w1 hi h1 h2 ht1 hn1 => by
      rw [Hg.out i] at hn1 ⊢
      have hpl : (pre ++ [i]).length = p + 1 := by simp [hpre]
      refine (try_any l A M C w0 h40 hkn d (p + 1) (pre ++ [i]) c1 n1 w1 (by omega) hpl (fun q hq => ?_) ht1 hn1).mono fun e w' ⟨he, c', hc', ht'⟩ => ⟨he, c', fun q hq => (hc' q (by omega)).trans (h1 q hq), ht'⟩
      by_cases e : q = p
      · subst e
        rw [List.getD_eq_getElem?_getD, List.getElem?_append_right (by omega), hpre, h2, hm]
        simp
        exact hi
      · have hqp : q < p := by omega
        rw [List.getD_eq_getElem?_getD, List.getElem?_append_left (by omega), ← List.getD_eq_getElem?_getD, h1 q hqp]
        exact hc q hqp
    have x0 := ht.kn.at_ p hp8
    unfold slV at x0
    rw [hM] at x0
    have HT := hideIt ht
    have HN := hideIt hn
    have HS := hideIt (sumN_succ · g)
    clear hc ht hn hsum HG hm
    go_enter Tryd.func43, Tryd.ntmps43
    go_wp2
    go_loopw [13] (fun v wr => ∃ (k : Nat) (c1 : Nat → Int), k ≤ m + 1 ∧ v = .int .i64 k ∧ (∀ q, q < p → c1 q = c q) ∧ TryAt A M C w0 wr c1 (n + sumN k g)) (fun v _ => m + 1 - (intOf v).toNat)
    case atStart => exact ⟨0, c, by omega, rfl, fun _ _ => rfl, HT.out⟩
    case round =>
      clear x0 HT
      obtain ⟨k, c1, hk, rfl, h1, ht⟩ := hrel
      have H1 := hideIt h1
      have HT := hideIt ht
      by_cases hkm : k < m + 1
      · have y0 := ht.cu.at' hp8
        have z0 := ht.cu.fz p
        have HT2 := hideIt (ht.put hp8 (k : Int))
        have f0 := HT2.out.fn
        have HC := hideIt (HIh.out k (fun q => if q = p then (k : Int) else c1 q) (n + sumN k g) _ (by omega) (fun q hq => by rw [if_neg (by omega)]; exact h1 q hq) (if_pos rfl) HT2.out (by have := sumN_part (f := g) (k := k + 1) (m := m + 1) (by omega); rw [sumN_succ] at this; have := HN.out; omega))
        clear h1 ht HIh
        go_wp2_with fail
        refine HC.out.mono ?_
        rintro e w1 ⟨rfl, c2, hc2, ht2⟩
        have R1 : Hid (TryAt A M C w0 w1 c2 (n + sumN (k + 1) g)) := by
          show TryAt A M C w0 w1 c2 _
          rw [sumN_succ, ← Nat.add_assoc]; exact ht2
        have R2 := hideIt hc2
        clear hc2 ht2 HC
        go_wp2
        go_roundw
        case rel => exact ⟨k + 1, c2, by omega, by go_num, R2.out, R1.out⟩
        case measure => simp [intOf]; omega
      · obtain rfl : k = m + 1 := by omega
        clear h1 ht
        go_wp2
        (try simp only [Exit.inBlock, Exit.then])
        refine bodyPost_ret (results_none rfl _ _ _) rfl ?_
        exact ⟨rfl, c1, H1.out, HT.out⟩

set_option maxRecDepth 100000 in
set_option maxHeartbeats 1000000 in
theorem steadyCuts_any (l : List Stp) (A : Nat → Option Addr) (M C : Nat → Nat) (w : World) (h40 : l.length ≤ 40) (hkn : KnRead l w (slV A M C)) (hfew : cutsN l ≤ 1000000) :
    Calls Tryd.prog 40 #[pthA (slV A M C)] w fun e w' => e = .returned (.int .i64 (cutsN l : Nat)) ∧ Below w.heap.size w w' := by
  have HT : Hid (TryAt A M C w ((((w.alloc (.cells #[slV A M C 0, slV A M C 1, slV A M C 2, slV A M C 3, slV A M C 4, slV A M C 5, slV A M C 6, slV A M C 7] 78)).alloc (.cells #[.int .i64 0] 3)).alloc (vecO (fun _ => 0) 45)).alloc (.cells #[.func (Fn.func 43) #[] #[.pointer (some ⟨w.heap.size, 0, none⟩), .pointer (some ⟨w.heap.size + 1 + 1, 0, none⟩), .pointer (some ⟨w.heap.size + 1 + 1 + 1, 0, none⟩), .pointer (some ⟨w.heap.size + 1, 0, none⟩)]] 91)) (fun _ => 0) 0) := by
    obtain ⟨W1, hW1⟩ : ∃ W1, W1 = w.alloc (.cells #[slV A M C 0, slV A M C 1, slV A M C 2, slV A M C 3, slV A M C 4, slV A M C 5, slV A M C 6, slV A M C 7] 78) := ⟨_, rfl⟩
    obtain ⟨W2, hW2⟩ : ∃ W2, W2 = W1.alloc (.cells #[.int .i64 0] 3) := ⟨_, rfl⟩
    obtain ⟨W3, hW3⟩ : ∃ W3, W3 = W2.alloc (vecO (fun _ => 0) 45) := ⟨_, rfl⟩
    have s1 : W1.heap.size = w.heap.size + 1 := by rw [hW1]; simp
    have s2 : W2.heap.size = w.heap.size + 1 + 1 := by rw [hW2, World.size_alloc, s1]
    have s3 : W3.heap.size = w.heap.size + 1 + 1 + 1 := by rw [hW3, World.size_alloc, s2]
    have k1 : RoomB W1 w.heap.size (slV A M C) := by rw [hW1]; exact roomB_new w (slV A M C) 78
    have n2 : W2.heap[w.heap.size + 1]? = some (.cells #[.int .i64 0] 3 (0, 0)) := by rw [hW2, ← s1]; exact heap_alloc_new W1 _
    have c3 : VecB W3 (w.heap.size + 1 + 1) (fun _ => 0) := by rw [hW3, ← s2]; exact vecB_new W2 _ 45
    have b1 : Below w.heap.size w W1 := by rw [hW1]; exact belA (Below.refl _ _) _
    have b2 : Below W1.heap.size W1 W2 := by rw [hW2]; exact belA (Below.refl _ _) _
    have b3 : Below W2.heap.size W2 W3 := by rw [hW3]; exact belA (Below.refl _ _) _
    rw [← hW1, ← hW2, ← hW3]
    have b4 : Below W3.heap.size W3 (W3.alloc (.cells #[.func (Fn.func 43) #[] #[.pointer (some ⟨w.heap.size, 0, none⟩), .pointer (some ⟨w.heap.size + 1 + 1, 0, none⟩), .pointer (some ⟨w.heap.size + 1 + 1 + 1, 0, none⟩), .pointer (some ⟨w.heap.size + 1, 0, none⟩)]] 91)) := belA (Below.refl _ _) _
    have n4 := (b4.block (w.heap.size + 1) (by omega)).trans ((b3.block (w.heap.size + 1) (by omega)).trans n2)
    have f4 := heap_alloc_new W3 (.cells #[.func (Fn.func 43) #[] #[.pointer (some ⟨w.heap.size, 0, none⟩), .pointer (some ⟨w.heap.size + 1 + 1, 0, none⟩), .pointer (some ⟨w.heap.size + 1 + 1 + 1, 0, none⟩), .pointer (some ⟨w.heap.size + 1, 0, none⟩)]] 91)
    rw [s3] at f4
    refine ⟨belJ (belJ (belJ b1 b2) b3) b4, ((k1.below b2 k1.lt).below b3 (k1.below b2 k1.lt).lt).below b4 ((k1.below b2 k1.lt).below b3 (k1.below b2 k1.lt).lt).lt, ⟨_, _, n4⟩, ?_, c3.below b4 c3.lt, ?_⟩
    · rw [cell_of_row _ _ 0 _ 3 _ n4]; rfl
    · rw [cell_of_row _ _ 0 _ 91 _ f4]; rfl
  have HC := hideIt (try_any l A M C w h40 hkn 8 0 [] (fun _ => 0) 0 _ (by omega) rfl (fun q hq => absurd hq (by omega)) HT.out (by rw [List.drop_zero, Nat.zero_add]; exact hfew))
  rw [List.drop_zero, Nat.zero_add] at HC
  have HC2 : Hid (Calls Tryd.prog 43 #[.int .i64 0, .pointer (some ⟨w.heap.size, 0, none⟩), .pointer (some ⟨w.heap.size + 1 + 1, 0, none⟩), .pointer (some ⟨w.heap.size + 1 + 1 + 1, 0, none⟩), .pointer (some ⟨w.heap.size + 1, 0, none⟩)] ((((w.alloc (.cells #[slV A M C 0, slV A M C 1, slV A M C 2, slV A M C 3, slV A M C 4, slV A M C 5, slV A M C 6, slV A M C 7] 78)).alloc (.cells #[.int .i64 0] 3)).alloc (vecO (fun _ => 0) 45)).alloc (.cells #[.func (Fn.func 43) #[] #[.pointer (some ⟨w.heap.size, 0, none⟩), .pointer (some ⟨w.heap.size + 1 + 1, 0, none⟩), .pointer (some ⟨w.heap.size + 1 + 1 + 1, 0, none⟩), .pointer (some ⟨w.heap.size + 1, 0, none⟩)]] 91)) fun e w' => e = .returned (.tuple #[]) ∧ ∃ c', TryAt A M C w w' c' (cutsN l)) := HC.out.mono fun e w' ⟨he, c', _, ht⟩ => ⟨he, c', ht⟩
  clear HC HT hkn
  unfold vecO at HC2
  unfold pthA
  unfold slV at HC2 ⊢
  go_enter Tryd.func40, Tryd.ntmps40
  go_wp2_with fail
  refine HC2.out.mono ?_
  rintro e w1 ⟨rfl, c', ht⟩
  have x0 := ht.nu
  have HB := hideIt ht.bel
  clear ht HC2
  go_wp2
  go_ret
  exact ⟨rfl, HB.out⟩

/-- What is told of steps whose cuts are counted. -/
def CkN (l : List Stp) (n pl : Int) : Prop :=
  ∃ n0 pl0, CkC l n0 pl0 ∧ ((n0 ≠ 0 ∧ n = n0 ∧ pl = pl0) ∨ (n0 = 0 ∧ ((prodK l 8 ≤ 10000 ∧ n = 0 ∧ pl = -1) ∨ (¬ prodK l 8 ≤ 10000 ∧ n = 4 ∧ pl = -1))))
theorem CkN.one {l : List Stp} {n n' pl pl' : Int} (h : CkN l n pl) (h' : CkN l n' pl') : n = n' ∧ pl = pl' := by
  obtain ⟨n0, p0, hc, h⟩ := h
  obtain ⟨n1, p1, hc', h'⟩ := h'
  obtain ⟨rfl, rfl⟩ := hc.one hc'
  rcases h with ⟨h0, rfl, rfl⟩ | ⟨h0, h⟩
  · rcases h' with ⟨_, rfl, rfl⟩ | ⟨h1, _⟩
    · exact ⟨rfl, rfl⟩
    · exact absurd h1 h0
  · rcases h' with ⟨h1, _⟩ | ⟨_, h'⟩
    · exact absurd h0 h1
    · rcases h with ⟨ho, rfl, rfl⟩ | ⟨ho, rfl, rfl⟩
      · rcases h' with ⟨_, rfl, rfl⟩ | ⟨hn, _⟩
        · exact ⟨rfl, rfl⟩
        · exact absurd ho hn
      · rcases h' with ⟨hn, _⟩ | ⟨_, rfl, rfl⟩
        · exact absurd hn ho
        · exact ⟨rfl, rfl⟩
/-- What Cuts tells. -/
def CtTold (l : List Stp) (w : World) (e : Ending) (w' : World) : Prop :=
  ∃ (k : Nat) (err : Value) (n pl : Int), e = .returned (.tuple #[.int .i64 (k : Int), err]) ∧ CkN l n pl ∧ ErrAt w' err n pl ∧ k = (if n = 0 then cutsN l else 0) ∧ Below w.heap.size w w'

set_option maxRecDepth 100000 in
set_option maxHeartbeats 4000000 in
theorem clockCuts_any (l : List Stp) (a : Option Addr) (cap : Nat) (w : World) (hmax : l.length ≤ maxLen) (hl : StpsQ w a l) :
    Calls Tryd.prog 26 #[.slice a l.length cap] w fun e w' => CtTold l w e w' := by
  have HC := hideIt (pathsOf_any l a cap w hmax hl)
  clear hl
  go_enter Tryd.func26, Tryd.ntmps26
  go_wp2_with fail
  refine HC.out.mono ?_
  rintro e w1 ⟨A, M, C, err, n, pl, rfl, hck, her, hkn, hb1⟩
  have HCk := hideIt hck
  have hb2 := (Below.refl w1.heap.size w1).alloc (Nat.le_refl _) (.cells #[slV A M C 0, slV A M C 1, slV A M C 2, slV A M C 3, slV A M C 4, slV A M C 5, slV A M C 6, slV A M C 7] 78)
  have HK0 := hideIt (roomB_new w1 (slV A M C) 78)
  have HB1 := hideIt (belA hb1 (.cells #[slV A M C 0, slV A M C 1, slV A M C 2, slV A M C 3, slV A M C 4, slV A M C 5, slV A M C 6, slV A M C 7] 78))
  have HE := hideIt (her.below hb2)
  have HKn : Hid (n = 0 → KnRead l (w1.alloc (.cells #[slV A M C 0, slV A M C 1, slV A M C 2, slV A M C 3, slV A M C 4, slV A M C 5, slV A M C 6, slV A M C 7] 78)) (slV A M C)) := fun h => (hkn h).below hb2
  clear hck hb1 HC hkn hb2
  have hAgg : pthA (slV A M C) = .agg #[slV A M C 0, slV A M C 1, slV A M C 2, slV A M C 3, slV A M C 4, slV A M C 5, slV A M C 6, slV A M C 7] := rfl
  rw [hAgg]
  clear hAgg
  by_cases hn : n = 0
  · subst hn
    obtain ⟨rfl, rfl⟩ := her.nil
    have h40 := HCk.out.ok.1
    have HM : Hid (∀ p, p < 8 → M p = allC l (p : Int) + 1) := fun p hp => by
      obtain ⟨g, cap', h1, _⟩ := HKn.out rfl p hp
      unfold slV at h1
      injection h1
    obtain ⟨x0, x1, x2, x3, x4, x5, x6, x7⟩ := HK0.out.eight
    unfold slV at HK0 HB1 HE HKn x0 x1 x2 x3 x4 x5 x6 x7
    unfold slV
    go_upto_region 4 with fail
    generalize w1.alloc _ = W2 at HK0 HB1 HE HKn x0 x1 x2 x3 x4 x5 x6 x7 ⊢
    generalize w1.heap.size = G at HK0 x0 x1 x2 x3 x4 x5 x6 x7 ⊢
    have HCu := hideIt (cuts_any l A M C W2 h40 HM.out)
    unfold pthA slV at HCu
    clear HM her
    go_wp2_with fail
    refine HCu.out.mono ?_
    rintro e w3 ⟨rfl, hb3⟩
    have HB3 := hideIt (belJ HB1.out hb3)
    have hK3 := HK0.out.below hb3 HK0.out.lt
    obtain ⟨y0, y1, y2, y3, y4, y5, y6, y7⟩ := hK3.eight
    have HKn3 : Hid (KnRead l w3 fun p => .slice (A p) (M p) (C p)) := (HKn.out trivial).below hb3
    clear hb3 hK3 HCu x0 x1 x2 x3 x4 x5 x6 x7
    by_cases hfew : prodK l 8 ≤ 10000
    · have HSc := hideIt (steadyCuts_any l A M C w3 h40 HKn3.out (Nat.le_trans (cutsN_le l) (by omega)))
      unfold pthA slV at HSc
      have hfew' : (prodK l 8 : Int) ≤ 10000 := by omega
      generalize prodK l 8 = P8 at hfew' ⊢
      go_wp2_with fail
      refine HSc.out.mono ?_
      rintro e w4 ⟨rfl, hb4⟩
      go_wp2
      go_ret2
      exact ⟨cutsN l, _, 0, -1, rfl, ⟨0, -1, HCk.out, .inr ⟨rfl, .inl ⟨hfew, rfl, rfl⟩⟩⟩, .inl ⟨rfl, rfl, rfl⟩, by rw [if_pos rfl], belJ HB3.out hb4⟩
    · have hfew' : (10000 : Int) < prodK l 8 := by omega
      have HNo := hideIt hfew
      clear hfew
      generalize prodK l 8 = P8 at hfew' ⊢
      go_wp2
      go_ret2
      exact ⟨0, _, 4, -1, rfl, ⟨0, -1, HCk.out, .inr ⟨rfl, .inr ⟨HNo.out, rfl, rfl⟩⟩⟩, .inr (.inl ⟨by decide, rfl, rfl⟩), by rw [if_neg (by decide)], HB3.out⟩
  · obtain ⟨tt, uu, rfl⟩ := her.ne hn
    clear her HKn
    unfold slV at HK0 HB1 HE
    unfold slV
    go_wp2
    go_ret2
    exact ⟨0, _, n, pl, rfl, ⟨n, pl, HCk.out, .inl ⟨hn, rfl, rfl⟩⟩, HE.out, by rw [if_neg hn], HB1.out⟩
end Go.Proofs.YtmonbkoelehdlaaDoor
