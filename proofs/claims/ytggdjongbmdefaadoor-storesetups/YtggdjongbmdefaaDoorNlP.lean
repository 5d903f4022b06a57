/-
  The program's net, walked: who can talk (let).
-/
import Derived.Test.YtggdjongbmdefaaDoorLqMZ
namespace Go.Proofs.YtggdjongbmdefaaDoor
open Go.RowKit

/-- nil: all can talk. -/
def letL (nil : Bool) (M : List (List Bool)) (a b : Int) : Bool :=
  if nil = true then true else if 0 ≤ a ∧ 0 ≤ b then ((M[a.toNat]?).bind fun r => r[b.toNat]?).getD false else false
theorem nilEqL (w : World) : (binOp .eql 24 (.slice none 0 0) (.slice none 0 0)).run Tryd.prog w = .ok (.bool true) w := by kernel_rfl
theorem nilNeL (w : World) (a : Addr) (n c : Nat) : (binOp .eql 24 (.slice (some a) n c) (.slice none 0 0)).run Tryd.prog w = .ok (.bool false) w := by kernel_rfl
/-- Links in memory, or nil. -/
def LnkN (w : World) (X : Nat → Prop) (lv : Value) (nil : Bool) (M : List (List Bool)) : Prop := (nil = true ∧ lv = .slice none 0 0) ∨ (nil = false ∧ LnkS w X lv M ∧ ∃ a n c, lv = .slice (some a) n c)
theorem LnkN.keep {w w' : World} {X : Nat → Prop} {lv : Value} {nil : Bool} {M : List (List Bool)} (h : LnkN w X lv nil M) (hk : ∀ b, b < w.heap.size → X b → w'.heap[b]? = w.heap[b]?) : LnkN w' X lv nil M :=
  h.imp id fun ⟨e, h1, h2⟩ => ⟨e, h1.keep hk, h2⟩
theorem LnkN.below {w w' : World} {X : Nat → Prop} {lv : Value} {nil : Bool} {M : List (List Bool)} (h : LnkN w X lv nil M) (hb : Below w.heap.size w w') : LnkN w' X lv nil M :=
  h.keep fun b hl _ => hb.block b hl

set_option maxRecDepth 100000 in
set_option maxHeartbeats 4000000 in
theorem plet_any (x y : Int) (X : Nat → Prop) (lv : Value) (nil : Bool) (M : List (List Bool)) (w : World) (h : LnkN w X lv nil M) :
    Calls Tryd.prog 31 #[lv, .int .i64 x, .int .i64 y] w fun e w' => e = .returned (.bool (letL nil M x y)) ∧ w' = w := by
  rcases h with ⟨rfl, rfl⟩ | ⟨rfl, hl, la, ln, lc, rfl⟩
  · have hn := nilEqL w
    go_enter Tryd.func31, Tryd.ntmps31
    go_wp2
    go_ret
    exact ⟨ret_bool rfl, rfl⟩
  have hn := nilNeL w la ln lc
  obtain ⟨a0, cap0, e0, hr⟩ := hl
  cases e0
  by_cases hx : 0 ≤ x
  · have hx' : decide (x ≥ 0) = true := decide_eq_true hx
    by_cases hxl : x < M.length
    · have hxl' : decide (x < (M.length : Int)) = true := decide_eq_true hxl
      by_cases hy : 0 ≤ y
      · have hy' : decide (y ≥ 0) = true := decide_eq_true hy
        obtain ⟨g, off, e1, _, hr2⟩ := hr.resolve_left (fun e => by rw [e] at hxl; simp at hxl; omega)
        obtain rfl := Option.some.inj e1
        obtain ⟨i, rfl⟩ : ∃ i : Nat, x = i := ⟨x.toNat, by omega⟩
        have hil : i < M.length := by omega
        obtain ⟨ra, rc, h1, h2⟩ := hr2 i hil
        have ho : letL false M i y = ((M[i])[y.toNat]?).getD false := by
          unfold letL
          rw [if_neg (by decide), if_pos ⟨hx, hy⟩, Int.toNat_natCast, List.getElem?_eq_getElem hil]; rfl
        rw [ho]
        generalize M[i] = row at h1 h2
        clear hr hr2 ho e1
        by_cases hyl : y < row.length
        · have hyl' : decide (y < (row.length : Int)) = true := decide_eq_true hyl
          obtain ⟨rg, ro, rfl, _, h4⟩ := h2.resolve_left (fun e => by rw [e] at hyl; simp at hyl; omega)
          obtain ⟨j, rfl⟩ : ∃ j : Nat, y = j := ⟨y.toNat, by omega⟩
          have hjl : j < row.length := by omega
          have h3 := h4 j hjl
          rw [Int.toNat_natCast, List.getElem?_eq_getElem hjl]
          generalize row[j] = bit at h3
          clear h2 h4
          go_enter Tryd.func31, Tryd.ntmps31
          go_wp2
          go_ret
          exact ⟨ret_bool rfl, rfl⟩
        · have hyl' : decide (y < (row.length : Int)) = false := decide_eq_false hyl
          have e3 : row[y.toNat]? = none := List.getElem?_eq_none (by omega)
          rw [e3]
          clear h2
          go_enter Tryd.func31, Tryd.ntmps31
          go_wp2
          go_ret
          exact ⟨ret_bool rfl, rfl⟩
      · have hy' : decide (y ≥ 0) = false := decide_eq_false hy
        have ho : letL false M x y = false := by
          unfold letL
          rw [if_neg (by decide), if_neg (fun h => hy h.2)]
        rw [ho]
        clear hr
        go_enter Tryd.func31, Tryd.ntmps31
        go_wp2
        go_ret
        exact ⟨ret_bool rfl, rfl⟩
    · have hxl' : decide (x < (M.length : Int)) = false := decide_eq_false hxl
      have ho : letL false M x y = false := by
        unfold letL
        rw [if_neg (by decide)]
        split
        · rw [List.getElem?_eq_none (by omega)]; rfl
        · rfl
      rw [ho]
      clear hr
      go_enter Tryd.func31, Tryd.ntmps31
      go_wp2
      go_ret
      exact ⟨ret_bool rfl, rfl⟩
  · have hx' : decide (x ≥ 0) = false := decide_eq_false hx
    have ho : letL false M x y = false := by
      unfold letL
      rw [if_neg (by decide), if_neg (fun h => hx h.1)]
    rw [ho]
    clear hr
    go_enter Tryd.func31, Tryd.ntmps31
    go_wp2
    go_ret
    exact ⟨ret_bool rfl, rfl⟩
end Go.Proofs.YtggdjongbmdefaaDoor
