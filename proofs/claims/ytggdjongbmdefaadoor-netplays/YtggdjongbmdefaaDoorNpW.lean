/-
  The document's net, walked: Open.
-/
import Derived.Test.YtggdjongbmdefaaDoorNdM
namespace Go.Proofs.YtggdjongbmdefaaDoor
open Go.RowKit

/-- Who can talk, in memory: rows of bools. -/
def LnkQ (w : World) (lv : Value) (M : List (List Bool)) : Prop :=
  ∃ a cap, lv = .slice a M.length cap ∧ (M = [] ∨ ∃ g off, a = some ⟨g, off, none⟩ ∧ ∀ i (hi : i < M.length), ∃ ra rc, w.cell? ⟨g, off + i, none⟩ = some (.slice ra M[i].length rc) ∧
    (M[i] = [] ∨ ∃ rg ro, ra = some ⟨rg, ro, none⟩ ∧ ∀ j (hj : j < M[i].length), w.cell? ⟨rg, ro + j, none⟩ = some (.bool M[i][j])))
theorem LnkQ.below {w w' : World} {lv : Value} {M : List (List Bool)} {B : Nat} (h : LnkQ w lv M) (hb : Below B w w') (hB : w.heap.size ≤ B) : LnkQ w' lv M := by
  obtain ⟨a, cap, e, h⟩ := h
  refine ⟨a, cap, e, h.imp id fun ⟨g, off, e, h⟩ => ⟨g, off, e, fun i hi => ?_⟩⟩
  obtain ⟨ra, rc, h1, h2⟩ := h i hi
  have k1 := World.block_lt_of_cell? w _ h1
  refine ⟨ra, rc, (hb.cell (p := ⟨g, off + i, none⟩) (Nat.lt_of_lt_of_le k1 hB)).trans h1, h2.imp id fun ⟨rg, ro, e, h⟩ => ⟨rg, ro, e, fun j hj => ?_⟩⟩
  have k2 := World.block_lt_of_cell? w _ (h j hj)
  exact (hb.cell (p := ⟨rg, ro + j, none⟩) (Nat.lt_of_lt_of_le k2 hB)).trans (h j hj)
def openL (cut : Bool) (M : List (List Bool)) (a b : Int) : Bool :=
  if cut = false then true else if 0 ≤ a ∧ 0 ≤ b then ((M[a.toNat]?).bind fun r => r[b.toNat]?).getD false else false

set_option maxRecDepth 100000 in
set_option maxHeartbeats 4000000 in
theorem open_any (x y : Int) (B o : Nat) (cut : Bool) (lv : Value) (M : List (List Bool)) (w : World) (c0 : w.cell? ⟨B, o, none⟩ = some (.bool cut)) (c1 : w.cell? ⟨B, o + 1, none⟩ = some lv) (hM : cut = true → LnkQ w lv M) :
    Calls Tryd.prog 32 #[.pointer (some ⟨B, o, none⟩), .int .i64 x, .int .i64 y] w fun e w' => e = .returned (.bool (openL cut M x y)) ∧ w' = w := by
  cases cut with
  | false =>
    clear hM
    go_enter Tryd.func32, Tryd.ntmps32
    go_wp2
    go_ret
    exact ⟨ret_bool rfl, rfl⟩
  | true =>
    have HM := hideIt (hM rfl)
    clear hM
    by_cases hx : 0 ≤ x
    · by_cases hy : 0 ≤ y
      · have hx' : decide (x ≥ 0) = true := decide_eq_true hx
        have hy' : decide (y ≥ 0) = true := decide_eq_true hy
        obtain ⟨la, lc, rfl, hr⟩ := HM.out
        by_cases hxl : x < M.length
        · have hxl' : decide (x < (M.length : Int)) = true := decide_eq_true hxl
          obtain ⟨g, off, rfl, hr2⟩ := hr.resolve_left (fun e => by rw [e] at hxl; simp at hxl; omega)
          obtain ⟨i, rfl⟩ : ∃ i : Nat, x = i := ⟨x.toNat, by omega⟩
          have hil : i < M.length := by omega
          obtain ⟨ra, rc, h1, h2⟩ := hr2 i hil
          have ho : openL true M i y = ((M[i])[y.toNat]?).getD false := by
            unfold openL
            rw [if_neg (by decide), if_pos ⟨hx, hy⟩, Int.toNat_natCast, List.getElem?_eq_getElem hil]; rfl
          rw [ho]
          generalize M[i] = row at h1 h2
          clear hr hr2 ho HM
          by_cases hyl : y < row.length
          · have hyl' : decide (y < (row.length : Int)) = true := decide_eq_true hyl
            obtain ⟨rg, ro, rfl, h4⟩ := h2.resolve_left (fun e => by rw [e] at hyl; simp at hyl; omega)
            obtain ⟨j, rfl⟩ : ∃ j : Nat, y = j := ⟨y.toNat, by omega⟩
            have hjl : j < row.length := by omega
            have h3 := h4 j hjl
            rw [Int.toNat_natCast, List.getElem?_eq_getElem hjl]
            generalize row[j] = bit at h3
            clear h2 h4
            go_enter Tryd.func32, Tryd.ntmps32
            go_wp2
            go_ret
            exact ⟨ret_bool rfl, rfl⟩
          · have hyl' : decide (y < (row.length : Int)) = false := decide_eq_false hyl
            have e3 : row[y.toNat]? = none := List.getElem?_eq_none (by omega)
            rw [e3]
            clear h2
            go_enter Tryd.func32, Tryd.ntmps32
            go_wp2
            go_ret
            exact ⟨ret_bool rfl, rfl⟩
        · have hxl' : decide (x < (M.length : Int)) = false := decide_eq_false hxl
          have ho : openL true M x y = false := by
            unfold openL
            rw [if_neg (by decide), if_pos ⟨hx, hy⟩, List.getElem?_eq_none (by omega)]; rfl
          rw [ho]
          clear hr
          go_enter Tryd.func32, Tryd.ntmps32
          go_wp2
          go_ret
          exact ⟨ret_bool rfl, rfl⟩
      · have hx' : decide (x ≥ 0) = true := decide_eq_true hx
        have hy' : decide (y ≥ 0) = false := decide_eq_false hy
        have ho : openL true M x y = false := by
          unfold openL
          rw [if_neg (by decide), if_neg (fun h => hy h.2)]
        rw [ho]
        go_enter Tryd.func32, Tryd.ntmps32
        go_wp2
        go_ret
        exact ⟨ret_bool rfl, rfl⟩
    · have hx' : decide (x ≥ 0) = false := decide_eq_false hx
      have ho : openL true M x y = false := by
        unfold openL
        rw [if_neg (by decide), if_neg (fun h => hx h.1)]
      rw [ho]
      go_enter Tryd.func32, Tryd.ntmps32
      go_wp2
      go_ret
      exact ⟨ret_bool rfl, rfl⟩
end Go.Proofs.YtggdjongbmdefaaDoor
