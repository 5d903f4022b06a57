/-
  The document's Edges' closure, walked: who stands right behind one; tables that are made by blank and set bit by bit.
-/
import Derived.Test.YtodanhjookgbeaaDoorIjW
import Derived.Test.YtodanhjookgbeaaDoorIyWZ
import Derived.Test.YtodanhjookgbeaaDoorBkW
namespace Go.Proofs.YtodanhjookgbeaaDoor
open Go.RowKit

set_option maxRecDepth 100000 in
set_option maxHeartbeats 2000000 in
theorem dBehind_any (s : ISt) (a b : Option Addr) (ca cb key : Nat) (t : Int) (Bs : Nat) (w : World) (h : StyQ w a ca b cb s) (hk : key < s.ord.length) (ht : t < 0 → t ∉ lstK s (key : Int))
    (hB : w.cell? ⟨Bs, 1, none⟩ = some (.slice b s.ord.length cb)) :
    Calls Tryd.prog 23 #[.int .i64 (key : Int), .int .i64 t, .pointer (some ⟨Bs, 0, none⟩)] w fun e w' => e = .returned (.int .i64 (behV (lstK s (key : Int)) t)) ∧ w' = w := by
  obtain ⟨gb, ob, rfl, hgb, la, lc, l1, l2, l3, l4⟩ := h.row hk
  rw [lstK_at hk] at ht ⊢
  have hko' : (key : Int) < s.ord.length := by omega
  generalize s.ord[key] = L at *
  have HQ := hideIt l4
  have HI := hideIt (dIndex_any L l3 t la lc w l4)
  have hb := @idxN_lt L t
  have HT : Hid (t < 0 → idxN L t = -1) := fun h0 => idxN_none fun j hj e => ht h0 (by rw [← e]; exact List.getElem_mem hj)
  have HV : Hid (behV L t = (L[(idxN L t + 1).toNat]?).getD (-1)) := rfl
  generalize idxN L t = r at *
  unfold maxLen at l3
  clear h l4 ht
  go_enter Tryd.func23, Tryd.ntmps23
  by_cases ht0 : t < 0
  · have d0 : decide (0 ≤ t) = false := decide_eq_false (by omega)
    have hr := HT.out ht0
    subst hr
    clear HI HT
    by_cases hl : L.length = 0
    · have HE : Hid (behV L t = -1) := by rw [HV.out, List.getElem?_eq_none (by omega)]; rfl
      have d1 : decide ((0 : Int) < (L.length : Int)) = false := decide_eq_false (by omega)
      clear HV hb
      go_wp2
      go_ret
      exact ⟨ret_int HE.out.symm, rfl⟩
    · have hl0 : 0 < L.length := by omega
      obtain ⟨g, off, rfl, hg, c0⟩ := HQ.out.at hl0
      have HE : Hid (behV L t = L[0]) := by rw [HV.out]; show (L[0]?).getD (-1) = _; rw [List.getElem?_eq_getElem hl0]; rfl
      have hl' : (0 : Int) < L.length := by omega
      rw [Nat.add_zero] at c0
      generalize L[0] = y at *
      clear HV hb hl
      go_wp2
      go_ret
      exact ⟨ret_int HE.out.symm, rfl⟩
  · have d0 : decide (0 ≤ t) = true := decide_eq_true (by omega)
    clear HT
    obtain ⟨m, hm⟩ : ∃ m : Nat, r + 1 = (m : Int) := Int.eq_ofNat_of_zero_le (by omega)
    rw [hm, Int.toNat_natCast] at HV
    have hw : IntKind.i64.wrap (r + 1) = (m : Int) := by rw [IntKind.wrap_i64]; omega
    go_wp2_with fail
    refine HI.out.mono ?_
    rintro e w1 ⟨rfl, rfl⟩
    obtain rfl : r = (m : Int) - 1 := by omega
    rw [show (m : Int) - 1 + 1 = m by omega] at hw
    clear hm HI
    by_cases hl : m < L.length
    · obtain ⟨g, off, rfl, hg, c0⟩ := HQ.out.at hl
      have HE : Hid (behV L t = L[m]) := by rw [HV.out, List.getElem?_eq_getElem hl]; rfl
      have hl' : (m : Int) < L.length := by omega
      generalize L[m] = y at *
      clear HV
      go_wp2
      go_ret
      exact ⟨ret_int HE.out.symm, rfl⟩
    · have HE : Hid (behV L t = -1) := by rw [HV.out, List.getElem?_eq_none (by omega)]; rfl
      have d1 : decide ((m : Int) < (L.length : Int)) = false := decide_eq_false (by omega)
      clear HV
      go_wp2
      go_ret
      exact ⟨ret_int HE.out.symm, rfl⟩

theorem OutAt.keep {w : World} {base n : Nat} {v : Value} {gs : List Nat} {A : Nat → Nat → Bool} (h : OutAt w base n v gs A) {p : Addr} (h1 : ∀ x ∈ gs, x ≠ p.block) (h2 : v.ownBlock ≠ some p.block) (u : Value) : OutAt (w.setCell p u) base n v gs A := by
  refine ⟨h.row.block fun j hj => Below.heap_setCell w p u j (fun e => h2 (by rw [hj, e])), fun j hj => ?_⟩
  obtain ⟨g1, g2, g3⟩ := h.bits j hj
  exact ⟨g1.other (h1 _ (List.getElem_mem hj)) _, g2, g3⟩
/-- Three tables, one made behind the other. -/
structure EdgO (w : World) (lo m1 m2 m3 n : Nat) (v1 : Value) (g1 : List Nat) (v2 : Value) (g2 : List Nat) (v3 : Value) (g3 : List Nat) (A1 A2 A3 : Nat → Nat → Bool) : Prop where
  o1 : OutAt w lo n v1 g1 A1
  o2 : OutAt w m1 n v2 g2 A2
  o3 : OutAt w m2 n v3 g3 A3
  l1 : g1.length = n
  l2 : g2.length = n
  l3 : g3.length = n
  n1 : g1.Nodup
  n2 : g2.Nodup
  n3 : g3.Nodup
  u1 : (∀ x ∈ g1, x < m1) ∧ ∀ b, v1.ownBlock = some b → b < m1
  u2 : (∀ x ∈ g2, x < m2) ∧ ∀ b, v2.ownBlock = some b → b < m2
  u3 : (∀ x ∈ g3, x < m3) ∧ ∀ b, v3.ownBlock = some b → b < m3
  le1 : lo ≤ m1
  le2 : m1 ≤ m2
  le3 : m2 ≤ m3
  le : m3 ≤ w.heap.size
theorem OutAt.from {w : World} {base n : Nat} {v : Value} {gs : List Nat} {A : Nat → Nat → Bool} (h : OutAt w base n v gs A) : (∀ x ∈ gs, base ≤ x ∧ x < w.heap.size) ∧ ∀ b, v.ownBlock = some b → base ≤ b ∧ b < w.heap.size :=
  ⟨fun x hx => by
    obtain ⟨i, hi, rfl⟩ := List.getElem_of_mem hx
    exact ⟨(h.bits i hi).2.1, (h.bits i hi).1.lt⟩, fun b hb => h.row.lt b hb⟩
section
variable {w : World} {lo m1 m2 m3 n : Nat} {v1 v2 v3 : Value} {g1 g2 g3 : List Nat} {A1 A2 A3 : Nat → Nat → Bool}
theorem EdgO.below {w' : World} (h : EdgO w lo m1 m2 m3 n v1 g1 v2 g2 v3 g3 A1 A2 A3) (hb : Below w.heap.size w w') : EdgO w' lo m1 m2 m3 n v1 g1 v2 g2 v3 g3 A1 A2 A3 :=
  ⟨h.o1.below hb (Nat.le_refl _), h.o2.below hb (Nat.le_refl _), h.o3.below hb (Nat.le_refl _), h.l1, h.l2, h.l3, h.n1, h.n2, h.n3, h.u1, h.u2, h.u3, h.le1, h.le2, h.le3, Nat.le_trans h.le hb.size⟩
theorem EdgO.same {A1' A2' A3' : Nat → Nat → Bool} (h : EdgO w lo m1 m2 m3 n v1 g1 v2 g2 v3 g3 A1 A2 A3) (e1 : ∀ i k, i < n → k < n → A1 i k = A1' i k) (e2 : ∀ i k, i < n → k < n → A2 i k = A2' i k) (e3 : ∀ i k, i < n → k < n → A3 i k = A3' i k) : EdgO w lo m1 m2 m3 n v1 g1 v2 g2 v3 g3 A1' A2' A3' :=
  ⟨h.o1.same (by rw [h.l1]; exact e1), h.o2.same (by rw [h.l2]; exact e2), h.o3.same (by rw [h.l3]; exact e3), h.l1, h.l2, h.l3, h.n1, h.n2, h.n3, h.u1, h.u2, h.u3, h.le1, h.le2, h.le3, h.le⟩
theorem setLe (w : World) (p : Addr) (u : Value) : (w.setCell p u).heap.size = w.heap.size := by simp
theorem EdgO.put1 (h : EdgO w lo m1 m2 m3 n v1 g1 v2 g2 v3 g3 A1 A2 A3) {i k : Nat} (hi : i < g1.length) (hk : k < n) : EdgO (w.setCell ⟨g1[i], k, none⟩ (.bool true)) lo m1 m2 m3 n v1 g1 v2 g2 v3 g3 (fun a b => if a = i ∧ b = k then true else A1 a b) A2 A3 := by
  have hx := h.u1.1 _ (List.getElem_mem hi)
  have h2 := h.le2
  exact ⟨h.o1.put h.n1 hi hk true, h.o2.keep (p := ⟨g1[i], k, none⟩) (fun x hx' => by have := (h.o2.from.1 x hx').1; show x ≠ g1[i]; omega) (fun e => by have := (h.o2.from.2 _ e).1; dsimp only at this; omega) _,
    h.o3.keep (p := ⟨g1[i], k, none⟩) (fun x hx' => by have := (h.o3.from.1 x hx').1; show x ≠ g1[i]; omega) (fun e => by have := (h.o3.from.2 _ e).1; dsimp only at this; omega) _, h.l1, h.l2, h.l3, h.n1, h.n2, h.n3, h.u1, h.u2, h.u3, h.le1, h.le2, h.le3, by rw [setLe]; exact h.le⟩
theorem EdgO.put2 (h : EdgO w lo m1 m2 m3 n v1 g1 v2 g2 v3 g3 A1 A2 A3) {i k : Nat} (hi : i < g2.length) (hk : k < n) : EdgO (w.setCell ⟨g2[i], k, none⟩ (.bool true)) lo m1 m2 m3 n v1 g1 v2 g2 v3 g3 A1 (fun a b => if a = i ∧ b = k then true else A2 a b) A3 := by
  have hx := h.u2.1 _ (List.getElem_mem hi)
  have hy := (h.o2.from.1 _ (List.getElem_mem hi)).1
  have h2 := h.le2
  exact ⟨h.o1.keep (p := ⟨g2[i], k, none⟩) (fun x hx' => by have := h.u1.1 x hx'; show x ≠ g2[i]; omega) (fun e => by have := h.u1.2 _ e; dsimp only at this; omega) _, h.o2.put h.n2 hi hk true,
    h.o3.keep (p := ⟨g2[i], k, none⟩) (fun x hx' => by have := (h.o3.from.1 x hx').1; show x ≠ g2[i]; omega) (fun e => by have := (h.o3.from.2 _ e).1; dsimp only at this; omega) _, h.l1, h.l2, h.l3, h.n1, h.n2, h.n3, h.u1, h.u2, h.u3, h.le1, h.le2, h.le3, by rw [setLe]; exact h.le⟩
theorem EdgO.put3 (h : EdgO w lo m1 m2 m3 n v1 g1 v2 g2 v3 g3 A1 A2 A3) {i k : Nat} (hi : i < g3.length) (hk : k < n) : EdgO (w.setCell ⟨g3[i], k, none⟩ (.bool true)) lo m1 m2 m3 n v1 g1 v2 g2 v3 g3 A1 A2 (fun a b => if a = i ∧ b = k then true else A3 a b) := by
  have hx := h.u3.1 _ (List.getElem_mem hi)
  have hy := (h.o3.from.1 _ (List.getElem_mem hi)).1
  have h2 := h.le2
  exact ⟨h.o1.keep (p := ⟨g3[i], k, none⟩) (fun x hx' => by have := h.u1.1 x hx'; show x ≠ g3[i]; omega) (fun e => by have := h.u1.2 _ e; dsimp only at this; omega) _,
    h.o2.keep (p := ⟨g3[i], k, none⟩) (fun x hx' => by have := h.u2.1 x hx'; show x ≠ g3[i]; omega) (fun e => by have := h.u2.2 _ e; dsimp only at this; omega) _, h.o3.put h.n3 hi hk true, h.l1, h.l2, h.l3, h.n1, h.n2, h.n3, h.u1, h.u2, h.u3, h.le1, h.le2, h.le3, by rw [setLe]; exact h.le⟩
end
/-- How a row of a table reads, and that it may be set. -/
theorem OutAt.spot {w : World} {base n : Nat} {v : Value} {gs : List Nat} {A : Nat → Nat → Bool} (h : OutAt w base n v gs A) (hg : gs.length = n) {i : Nat} (hi : i < n) :
    ∃ g off cap r, ∃ (hr : i < gs.length), gs[i] = r ∧ v = .slice (some ⟨g, off, none⟩) n cap ∧ n ≤ cap ∧ w.cell? ⟨g, off + i, none⟩ = some (.slice (some ⟨r, 0, none⟩) n n) ∧ (∀ k, k < n → w.cell? ⟨r, k, none⟩ = some (.bool (A i k))) ∧ ∀ k, w.frozen? ⟨r, k, none⟩ = false := by
  obtain ⟨g, off, cap, e, hc, hr⟩ := h.read (by omega)
  rw [hg] at e hc
  exact ⟨g, off, cap, gs[i]'(by omega), by omega, rfl, e, hc, (hr i (by omega)).1, (hr i (by omega)).2, (h.bits i (by omega)).1.fz⟩
end Go.Proofs.YtodanhjookgbeaaDoor
