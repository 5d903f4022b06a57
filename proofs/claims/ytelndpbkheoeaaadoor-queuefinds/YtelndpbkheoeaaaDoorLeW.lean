/-
  Package queue's least, walked: the library's MinFunc at pairs.
-/
import Derived.Test.YtelndpbkheoeaaaDoorSortZ
import Derived.Laws.Rows
import Derived.BigQuiet
import Derived.Deep.RegionHeld3
namespace Go.Proofs.YtelndpbkheoeaaaDoor
open Go.RowKit

/-- Two numbers of ops. -/
structure Pr where
  a : Int
  b : Int
def Pr.agg (p : Pr) : Value := .agg #[.int .i64 p.a, .int .i64 p.b]
def Pr.list (p : Pr) : List Value := [.int .i64 p.a, .int .i64 p.b]
def PrAt (w : World) (b off : Nat) (p : Pr) : Prop := w.cell? ⟨b, off, none⟩ = some (.int .i64 p.a) ∧ w.cell? ⟨b, off + 1, none⟩ = some (.int .i64 p.b)
def PrsAt (w : World) (b off : Nat) (L : List Pr) : Prop := ∀ i, (h : i < L.length) → PrAt w b (off + i * 2) L[i]
theorem PrAt.below {w w' : World} {B b off : Nat} {z : Pr} (h : PrAt w b off z) (hb : b < B) (hn : Below B w w') : PrAt w' b off z := by
  obtain ⟨h0, h1⟩ := h
  exact ⟨(hn.cell (p := ⟨b, off, none⟩) hb).trans h0, (hn.cell (p := ⟨b, off + 1, none⟩) hb).trans h1⟩
theorem PrsAt.below {w w' : World} {B b off : Nat} {L : List Pr} (h : PrsAt w b off L) (hb : b < B) (hn : Below B w w') : PrsAt w' b off L := fun i hi => (h i hi).below hb hn

def cmpI (a b : Int) : Int := if a < b then -1 else if b < a then 1 else 0
def cmpP (p q : Pr) : Int := if cmpI p.a q.a = 0 then cmpI p.b q.b else cmpI p.a q.a
def leP (p q : Pr) : Prop := p.a < q.a ∨ (p.a = q.a ∧ p.b ≤ q.b)
theorem cmpP_lt (p q : Pr) : cmpP p q < 0 ↔ p.a < q.a ∨ (p.a = q.a ∧ p.b < q.b) := by
  unfold cmpP cmpI
  by_cases h1 : p.a < q.a
  · simp [h1]
  · by_cases h2 : q.a < p.a
    · simp [h1, h2]
      omega
    · have e : p.a = q.a := by omega
      by_cases h3 : p.b < q.b
      · simp [e, h3]
      · by_cases h4 : q.b < p.b
        · simp [e, h3, h4]
        · simp [e, h3, h4]

set_option maxHeartbeats 400000 in
theorem or_any (x y : Int) (b : Nat) (w : World) (h0 : w.cell? ⟨b, 0, none⟩ = some (.int .i64 x)) (h1 : w.cell? ⟨b, 1, none⟩ = some (.int .i64 y)) :
    Calls Tryd.prog 49 #[.slice (some ⟨b, 0, none⟩) 2 2] w fun e w' => e = .returned (.int .i64 (if x = 0 then y else x)) ∧ w' = w := by
  by_cases hx : x = 0
  · subst hx
    rw [if_pos rfl]
    by_cases hy : y = 0
    · subst hy
      go_enter Tryd.func49, Tryd.ntmps49
      go_wp2
      refine wp_loop_rounds 3 ?_
      rw [rounds_succ]
      go_wp2
      rw [rounds_succ]
      go_wp2
      rw [rounds_succ]
      go_wp2
      go_ret
      exact ⟨rfl, rfl⟩
    · have hy' : (y != 0) = true := by simp [hy]
      go_enter Tryd.func49, Tryd.ntmps49
      go_wp2
      refine wp_loop_rounds 3 ?_
      rw [rounds_succ]
      go_wp2
      rw [rounds_succ]
      go_wp2
      go_ret
      exact ⟨rfl, rfl⟩
  · have hx' : (x != 0) = true := by simp [hx]
    rw [if_neg hx]
    go_enter Tryd.func49, Tryd.ntmps49
    go_wp2
    refine wp_loop_rounds 3 ?_
    rw [rounds_succ]
    go_wp2
    go_ret
    exact ⟨rfl, rfl⟩

theorem two_new0 (w : World) (x y : Value) (t : TypeId) {n : Nat} (h : n = w.heap.size) : (w.alloc (.cells #[x, y] t)).cell? ⟨n, 0, none⟩ = some x := by subst h; simp
theorem two_new1 (w : World) (x y : Value) (t : TypeId) {n : Nat} (h : n = w.heap.size) : (w.alloc (.cells #[x, y] t)).cell? ⟨n, 1, none⟩ = some y := by subst h; simp

set_option maxHeartbeats 2000000 in
theorem lessP_any (p q : Pr) (w : World) : Calls Tryd.prog 48 #[p.agg, q.agg] w fun e w' => e = .returned (.int .i64 (cmpP p q)) ∧ Below w.heap.size w w' := by
  have HC : Hid (∀ a b W, Calls Tryd.prog 38 #[.int .i64 a, .int .i64 b] W fun e w' => e = .returned (.int .i64 (cmpI a b)) ∧ w' = W) := fun a b W => compare_any a b W
  have H1 := hideIt (HC.out p.a q.a)
  have H2 := hideIt (HC.out p.b q.b)
  unfold cmpP
  generalize cmpI p.a q.a = x at H1 ⊢
  generalize cmpI p.b q.b = y at H2 ⊢
  have HO : Hid (∀ b W, W.cell? ⟨b, 0, none⟩ = some (.int .i64 x) → W.cell? ⟨b, 1, none⟩ = some (.int .i64 y) → Calls Tryd.prog 49 #[.slice (some ⟨b, 0, none⟩) 2 2] W fun e w' => e = .returned (.int .i64 (if x = 0 then y else x)) ∧ w' = W) := fun b W => or_any x y b W
  generalize (if x = 0 then y else x) = z at HO ⊢
  unfold Pr.agg
  clear HC
  go_enter Tryd.func48, Tryd.ntmps48
  go_wp2_with fail
  go_region_held3 (fun w' => w'.cell? ⟨w.heap.size, 0, none⟩ = some (.int .i64 p.a) ∧ w'.cell? ⟨w.heap.size, 1, none⟩ = some (.int .i64 p.b) ∧ w'.cell? ⟨w.heap.size + 1, 0, none⟩ = some (.int .i64 q.a) ∧ w'.cell? ⟨w.heap.size + 1, 1, none⟩ = some (.int .i64 q.b)) (go_keep)
    (first | (go_at_call_of 38 (Value.int .i64 p.a); refine (H1.out _).mono ?_; rintro e w' ⟨rfl, rfl⟩) | (go_at_call_of 38 (Value.int .i64 p.b); refine (H2.out _).mono ?_; rintro e w' ⟨rfl, rfl⟩) | (go_at_call 49; refine Calls.mono (HO.out (w.heap.size + 1 + 1) _ ?_ ?_) ?_; (exact two_new0 _ _ _ _ (by simp)); (exact two_new1 _ _ _ _ (by simp)); rintro e w1 ⟨rfl, rfl⟩))
  go_wp2
  go_ret
  exact ⟨rfl, by repeat (first | exact Below.refl _ _ | refine Below.drew ?_ | refine belA ?_ _)⟩

theorem heap_lastP (w : World) (o : Obj) {n : Nat} (h : n = w.heap.size) : (w.alloc o).heap[n]? = some o := by rw [h]; exact heap_alloc_new w o
theorem pair_set {w : World} {b : Nat} {x y : Value} {t : TypeId} (h : w.heap[b]? = some (.cells #[x, y] t)) (x' y' : Value) : ((w.setCell ⟨b, 0, none⟩ x').setCell ⟨b, 1, none⟩ y').heap[b]? = some (.cells #[x', y'] t) := by
  simp [World.setCell, Array.getElem?_modify, h]
theorem pair_other {w : World} {b c : Nat} {x' y' : Value} (h : b ≠ c) : ((w.setCell ⟨b, 0, none⟩ x').setCell ⟨b, 1, none⟩ y').heap[c]? = w.heap[c]? := by
  simp [World.setCell, Array.getElem?_modify, h]
theorem pair_below {w W : World} {b n : Nat} {x' y' : Value} (h : Below n w W) (hn : n ≤ b) : Below n w ((W.setCell ⟨b, 0, none⟩ x').setCell ⟨b, 1, none⟩ y') :=
  ⟨h.os, h.tape, h.output, by have := h.size; simpa [World.setCell] using this, fun k hk => by
    rw [← h.block k hk]
    exact pair_other (by omega)⟩

/-- The least of the first n + 1. -/
def LeastOf (L : List Pr) (n : Nat) (p : Pr) : Prop := p ∈ L ∧ ∀ i, (h : i < L.length) → i ≤ n → leP p L[i]

set_option maxHeartbeats 2000000 in
theorem minFunc_any (L : List Pr) (g cap : Nat) (w : World) (hlen : L.length ≤ 10000) (h0 : 0 < L.length) (hl : PrsAt w g 0 L) (hg : g < w.heap.size) :
    Calls Tryd.prog 47 #[.slice (some ⟨g, 0, none⟩) L.length cap, .func (.func 48) #[] #[]] w fun e w' => ∃ p : Pr, e = .returned p.agg ∧ p ∈ L ∧ (∀ q ∈ L, leP p q) ∧ Below w.heap.size w w' := by
  have HL := hideIt hl
  obtain ⟨c0, c1⟩ := hl 0 h0
  rw [show 0 + 0 * 2 = 0 from rfl] at c0 c1
  rw [Nat.zero_add] at c1
  have hpos : ¬ ((L.length : Int) < 1) := by omega
  have hpos' : decide ((L.length : Int) < 1) = false := by simp; omega
  have hp2 : (0 : Int) < (L.length : Int) := by omega
  have HM0 : Hid (LeastOf L 0 L[0]) := ⟨List.getElem_mem h0, fun i hi h => by
    have : i = 0 := by omega
    subst this; exact .inr ⟨rfl, Int.le_refl _⟩⟩
  obtain ⟨p0, HP0⟩ : ∃ p0, Hid (L[0] = p0) := ⟨_, hideIt rfl⟩
  rw [HP0.out] at c0 c1 HM0
  have eg : ∀ args w, (callFunc 48 args).run Tryd.prog w = .ok (.enter 48 args) w := enters_of Tryd.func48 (by kernel_rfl) rfl
  clear hl HP0
  go_enter Tryd.func47, Tryd.ntmps47
  go_wp2
  go_loopw [6] (fun i wr => ∃ (k : Nat) (p : Pr), k < L.length ∧ i = .int .i64 ((k : Int) + 1) ∧ LeastOf L k p ∧ wr.heap[w.heap.size + 1]? = some (.cells #[.int .i64 p.a, .int .i64 p.b] 77) ∧ wr.heap[w.heap.size]? = some (.cells #[.int .i64 0, .int .i64 0] 77) ∧ Below w.heap.size w wr) (fun i _ => L.length - (intOf i).toNat)
  case atStart => exact ⟨0, p0, h0, rfl, HM0.out, heap_lastP _ _ (by simp), (by rw [heap_alloc_old _ _ (by simp)]; exact heap_lastP _ _ rfl), belA (belA (Below.refl _ _) _) _⟩
  case round =>
    obtain ⟨k, p, hk, rfl, hle, hm1, hm0, hnx⟩ := hrel
    have HLE := hideIt hle
    have HNX := hideIt hnx
    have HM1 := hideIt hm1
    have HM2 := hideIt hm0
    have m0 : wr.cell? ⟨w.heap.size + 1, 0, none⟩ = some (.int .i64 p.a) := by simp [World.cell?, hm1]
    have m1 : wr.cell? ⟨w.heap.size + 1, 1, none⟩ = some (.int .i64 p.b) := by simp [World.cell?, hm1]
    have f0 : ∀ i, wr.frozen? ⟨w.heap.size + 1, i, none⟩ = false := fun i => frozen_of_row wr _ i _ 77 hm1
    have z0 : wr.cell? ⟨w.heap.size, 0, none⟩ = some (.int .i64 0) := by simp [World.cell?, hm0]
    have z1 : wr.cell? ⟨w.heap.size, 1, none⟩ = some (.int .i64 0) := by simp [World.cell?, hm0]
    have y0 : ∀ i, wr.frozen? ⟨w.heap.size, i, none⟩ = false := fun i => frozen_of_row wr _ i _ 77 hm0
    have hlt1 := (Array.getElem?_eq_some_iff.1 hm1).1
    have hlt0 := (Array.getElem?_eq_some_iff.1 hm0).1
    clear hle hm1 hm0
    by_cases hkl : k + 1 < L.length
    · have hkI : (k : Int) + 1 < (L.length : Int) := by omega
      obtain ⟨d0, d1⟩ := (HL.out (k + 1) hkl).below hg hnx
      rw [Nat.zero_add] at d0 d1
      obtain ⟨q, HQ⟩ : ∃ q, Hid (L[k + 1] = q) := ⟨_, hideIt rfl⟩
      rw [HQ.out] at d0 d1
      have HC := hideIt (fun W => lessP_any q p W)
      unfold Pr.agg at HC
      have HLT := hideIt (cmpP_lt q p)
      generalize cmpP q p = cv at HC HLT
      have e1 : ((k : Int) + 1).toNat = k + 1 := by omega
      go_wp2_with fail
      go_region_with (go_at_call 48; refine (HC.out _).mono ?_; rintro e w2 ⟨rfl, hb2⟩)
      all_goals
        have HB2 := hideIt (show Below wr.heap.size wr w2 from belJ (by repeat (first | exact Below.refl _ _ | refine Below.drew ?_ | refine belA ?_ _)) hb2)
        clear hb2
        have n1 := (HB2.out.block (w.heap.size + 1) hlt1).trans HM1.out
        have n0 := (HB2.out.block w.heap.size hlt0).trans HM2.out
        have HN := hideIt (HNX.out.trans (HB2.out.mono HNX.out.size))
        have N0 := hideIt n0
        have N1 := hideIt n1
        have a0 : w2.cell? ⟨w.heap.size + 1, 0, none⟩ = some (.int .i64 p.a) := by simp [World.cell?, n1]
        have a1 : w2.cell? ⟨w.heap.size + 1, 1, none⟩ = some (.int .i64 p.b) := by simp [World.cell?, n1]
        have af : ∀ i, w2.frozen? ⟨w.heap.size + 1, i, none⟩ = false := fun i => frozen_of_row w2 _ i _ 77 n1
        have b0 : w2.cell? ⟨g, (k + 1) * 2, none⟩ = some (.int .i64 q.a) := (HB2.out.cell (p := ⟨g, (k + 1) * 2, none⟩) (Nat.lt_of_lt_of_le hg HNX.out.size)).trans d0
        have b1 : w2.cell? ⟨g, (k + 1) * 2 + 1, none⟩ = some (.int .i64 q.b) := (HB2.out.cell (p := ⟨g, (k + 1) * 2 + 1, none⟩) (Nat.lt_of_lt_of_le hg HNX.out.size)).trans d1
        clear n0 n1 d0 d1 m0 m1 f0 z0 z1 y0
        by_cases hc : cv < 0
        · have R1 : Hid (LeastOf L (k + 1) q) := ⟨by rw [← HQ.out]; exact List.getElem_mem hkl, fun i hi h => by
            have hl := HLT.out.1 hc
            by_cases e : i = k + 1
            · subst e
              rw [HQ.out]
              exact .inr ⟨rfl, Int.le_refl _⟩
            · have := HLE.out.2 i hi (by omega)
              unfold leP at this ⊢
              omega⟩
          have M1 := hideIt (pair_set N1.out (.int .i64 q.a) (.int .i64 q.b))
          have M0 := hideIt ((pair_other (w := w2) (b := w.heap.size + 1) (c := w.heap.size) (x' := .int .i64 q.a) (y' := .int .i64 q.b) (by omega)).trans N0.out)
          have MB := hideIt (pair_below (b := w.heap.size + 1) (x' := .int .i64 q.a) (y' := .int .i64 q.b) HN.out (Nat.le_succ _))
          go_wp2
          go_roundw
          case rel => exact ⟨k + 1, q, hkl, by go_num, R1.out, M1.out, M0.out, MB.out⟩
          case measure => simp [intOf]; omega
        · have R1 : Hid (LeastOf L (k + 1) p) := ⟨HLE.out.1, fun i hi h => by
            by_cases e : i = k + 1
            · subst e
              rw [HQ.out]
              have := mt HLT.out.2 hc
              unfold leP; omega
            · exact HLE.out.2 i hi (by omega)⟩
          go_wp2
          go_roundw
          case rel => exact ⟨k + 1, p, hkl, by go_num, R1.out, N1.out, N0.out, HN.out⟩
          case measure => simp [intOf]; omega
    · have hkI : ¬ (k : Int) + 1 < (L.length : Int) := by omega
      have HM3 := hideIt (pair_set HM2.out (.int .i64 p.a) (.int .i64 p.b))
      go_wp2
      refine bodyPost_ret (results_cell_row rfl _ _ _ 77 _ _ _ rfl HM3.out Tryd.underlying77 rfl (by kernel_rfl)) rfl ?_
      refine ⟨p, rfl, HLE.out.1, fun q hq => ?_, pair_below HNX.out (Nat.le_refl _)⟩
      obtain ⟨i, hi, rfl⟩ := List.getElem_of_mem hq
      exact HLE.out.2 i hi (by omega)

end Go.Proofs.YtelndpbkheoeaaaDoor
