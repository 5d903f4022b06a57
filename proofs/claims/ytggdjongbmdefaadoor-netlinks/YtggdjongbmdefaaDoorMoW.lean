/-
  Package net's Most, walked.
-/
import Derived.Test.YtggdjongbmdefaaDoorLqM
namespace Go.Proofs.YtggdjongbmdefaaDoor
open Go.RowKit

/-- 16.1: does it talk to more than half of all? -/
def mostB (M : List (List Bool)) (x : Int) : Bool := if 0 ≤ x then match M[x.toNat]? with
  | some r => decide (M.length < 2 * r.countP id)
  | none => false
  else false

set_option maxRecDepth 100000 in
set_option maxHeartbeats 1000000 in
theorem most_any (x : Int) (lv : Value) (X : Nat → Prop) (M : List (List Bool)) (_hm : M.length ≤ 100) (hr : ∀ r ∈ M, r.length ≤ 100) (w : World) (h : LnkS w X lv M) :
    Calls Tryd.prog 8 #[lv, .int .i64 x] w fun e w' => e = .returned (.bool (mostB M x)) ∧ w' = w := by
  by_cases hx : 0 ≤ x
  · have hx' : decide (x < 0) = false := decide_eq_false (by omega)
    by_cases hl : x < M.length
    · have hl' : decide (x ≥ (M.length : Int)) = false := decide_eq_false (by omega)
      obtain ⟨i, rfl⟩ : ∃ i : Nat, x = i := ⟨x.toNat, by omega⟩
      have hi : i < M.length := by omega
      have HE : Hid (mostB M i = decide (M.length < 2 * M[i].countP id)) := by
        show _ = _
        unfold mostB
        rw [if_pos hx, Int.toNat_natCast, List.getElem?_eq_getElem hi]
      obtain ⟨g, off, cap, rfl, _, ra, rc, h1, h2⟩ := h.row hi
      have hrl := hr _ (List.getElem_mem hi)
      generalize mostB M i = out at HE ⊢
      generalize M[i] = row at *
      have HR : Hid (∀ j (hj : j < row.length), ∃ rg ro, ra = some ⟨rg, ro, none⟩ ∧ w.cell? ⟨rg, ro + j, none⟩ = some (.bool row[j])) := fun j hj => by
        rcases h2 with e | ⟨rg, ro, e, _, h⟩
        · rw [e] at hj; simp at hj
        · exact ⟨rg, ro, e, h j hj⟩
      clear h h2 hr
      have hcl : ∀ k, (row.take k).countP id ≤ 100 := fun k => Nat.le_trans List.countP_le_length (by rw [List.length_take]; omega)
      have HCL := hideIt hcl
      clear hcl
      go_enter Tryd.func8, Tryd.ntmps8
      go_wp2
      go_loopw [5, 21] (fun c v wr => ∃ k : Nat, k ≤ row.length ∧ v = .int .i64 k ∧ c = .int .i64 (((row.take k).countP id : Nat) : Int) ∧ wr = w) (fun _ v _ => row.length - (intOf v).toNat)
      case atStart => exact ⟨0, Nat.zero_le _, rfl, rfl, rfl⟩
      case round =>
        obtain ⟨k, hk, rfl, rfl, rfl⟩ := hrel
        have hc := HCL.out k
        have hc1 := HCL.out (k + 1)
        by_cases hkn : k < row.length
        · obtain ⟨rg, ro, rfl, hcell⟩ := HR.out k hkn
          have HN : Hid ((row.take (k + 1)).countP id = (row.take k).countP id + if row[k] = true then 1 else 0) := by
            show _ = _
            rw [List.take_add_one, List.getElem?_eq_getElem hkn, List.countP_append, Option.toList_some, List.countP_singleton]
            rfl
          have hkn' : (k : Int) < row.length := by omega
          generalize (row.take k).countP id = c0 at *
          clear hc1
          generalize row[k] = b at *
          cases b
          · go_wp2
            go_roundw
            case rel => exact ⟨k + 1, by omega, by go_num, by rw [HN.out]; simp, trivial⟩
            case measure => simp [intOf]; omega
          · go_wp2
            go_roundw
            case rel => exact ⟨k + 1, by omega, by go_num, by rw [HN.out]; simp, trivial⟩
            case measure => simp [intOf]; omega
        · obtain rfl : k = row.length := by omega
          rw [List.take_length] at hc ⊢
          generalize row.countP id = c0 at *
          go_wp2
          go_ret
          exact ⟨ret_bool (by rw [HE.out]; exact decide_eq_decide.2 (by omega)), rfl⟩
    · have hl' : decide (x ≥ (M.length : Int)) = true := decide_eq_true (by omega)
      have HE : Hid (mostB M x = false) := by
        show _ = _
        unfold mostB
        rw [if_pos hx, List.getElem?_eq_none (by omega)]
      obtain ⟨a, cap, rfl, _⟩ := h
      clear hr
      go_enter Tryd.func8, Tryd.ntmps8
      go_wp2
      go_ret
      exact ⟨ret_bool HE.out.symm, rfl⟩
  · have hx' : decide (x < 0) = true := decide_eq_true (by omega)
    have HE : Hid (mostB M x = false) := by
      show _ = _
      unfold mostB
      rw [if_neg hx]
    clear h hr
    go_enter Tryd.func8, Tryd.ntmps8
    go_wp2
    go_ret
    exact ⟨ret_bool HE.out.symm, rfl⟩
end Go.Proofs.YtggdjongbmdefaaDoor
