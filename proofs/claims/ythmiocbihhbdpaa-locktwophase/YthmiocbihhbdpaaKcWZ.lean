/-
  The statements' own commits and locks, walked, over what Play tells.
  The statements' own locks, walked, over what Play tells.
-/
import Derived.Test.YthmiocbihhbdpaaPyM
import Derived.Test.YthmiocbihhbdpaaLkAZ
import Derived.Laws.EntriesVeiled
namespace Go.Proofs.Ythmiocbihhbdpaa
open Go.RowKit

theorem cmN_take {l : List Stp} {k : Nat} (hk : k < l.length) : cmN (l.take (k + 1)) = cmN (l.take k) + (if l[k].k = 3 then 1 else 0) := by
  unfold cmN
  rw [List.take_add_one, List.getElem?_eq_getElem hk, List.filter_append, List.length_append]
  by_cases h : l[k].k = 3
  · rw [if_pos h]
    simp [h]
  · rw [if_neg h]
    simp [h]
set_option maxRecDepth 100000 in
set_option maxHeartbeats 1000000 in
theorem commits_any (l : List Stp) (a : Option Addr) (cap : Nat) (w : World) (hn : l.length ≤ 1000) (h : StpsQ w a l) :
    Calls Try.prog 9 #[.slice a l.length cap] w fun e w' => e = .returned (.int .i64 (cmN l : Int)) ∧ Below w.heap.size w w' := by
  have HS := hideIt h
  clear h
  go_enter Try.func9, Try.ntmps9
  go_wp2
  go_loopw [3, 4] (fun c i wr => ∃ k : Nat, k ≤ l.length ∧ c = .int .i64 (cmN (l.take k) : Int) ∧ i = .int .i64 k ∧ wr = w) (fun _ i _ => l.length - (intOf i).toNat)
  case atStart => exact ⟨0, Nat.zero_le _, rfl, rfl, rfl⟩
  case round =>
    obtain ⟨k, hk, rfl, rfl, rfl⟩ := hrel
    by_cases hin : k < l.length
    · obtain ⟨b, off, rfl, hb, hst⟩ : ∃ b off, a = some ⟨b, off, none⟩ ∧ b < wr.heap.size ∧ StpsAt wr b off l := by
        rcases HS.out with e | e
        · rw [e] at hin; simp at hin
        · exact e
      obtain ⟨c0, c1, c2⟩ := hst k hin
      have HT := hideIt (cmN_take hin)
      have hcl : cmN (l.take k) ≤ 1000 := by
        unfold cmN
        exact Nat.le_trans (List.length_filter_le _ _) (by rw [List.length_take]; omega)
      clear hst
      generalize l[k] = s at c0 c1 c2 HT
      generalize cmN (l.take k) = C at HT hcl ⊢
      by_cases h3 : s.k = 3
      · rw [if_pos h3] at HT
        have hb3 : (s.k == 3) = true := by simp [h3]
        have hw : IntKind.i64.wrap ((C : Int) + 1) = (C : Int) + 1 := by rw [IntKind.wrap_i64]; omega
        have H3 := hideIt h3
        clear h3
        go_wp2
        go_roundw
        case rel => exact ⟨k + 1, by omega, by rw [HT.out]; rfl, by go_num, trivial⟩
        case measure => simp [intOf]; omega
      · rw [if_neg h3] at HT
        have hb3 : (s.k == 3) = false := by simp [h3]
        clear h3
        go_wp2
        go_roundw
        case rel => exact ⟨k + 1, by omega, by rw [HT.out]; rfl, by go_num, trivial⟩
        case measure => simp [intOf]; omega
    · obtain rfl : k = l.length := by omega
      rw [List.take_length]
      go_wp2
      go_ret
      exact ⟨rfl, Below.refl _ _⟩
/-- Two that wait for each other. -/
def lqP : List (List Stp) := [[⟨0, 2, 0⟩, ⟨0, 2, 1⟩], [⟨1, 2, 1⟩, ⟨1, 2, 0⟩]]
theorem lq_flt : fltY lqP [0, 1, 0, 1] = 0 := by kernel_rfl
theorem lq_vic : (lkP lqP [0, 1, 0, 1]).vic = [1] := by kernel_rfl
theorem lq_z : PlZ lqP := ⟨by decide, fun t => by
  by_cases h : t < 2
  · rcases t with _ | _ | t
    · decide
    · decide
    · omega
  · unfold plN
    rw [List.getD_eq_getElem?_getD, List.getElem?_eq_none (by show 2 ≤ t; omega)]
    decide⟩
end Go.Proofs.Ythmiocbihhbdpaa

namespace Go.Proofs.Ythmiocbihhbdpaa
open Go.RowKit

theorem lq_mem {W : World} {b0 b1 b2 b3 : Nat}
    (h0 : W.heap[b0]? = some (.cells #[.int .i64 0, .int .i64 2, .int .i64 0, .int .i64 0, .int .i64 2, .int .i64 1] 40 (0, 0)))
    (h1 : W.heap[b1]? = some (.cells #[.int .i64 1, .int .i64 2, .int .i64 1, .int .i64 1, .int .i64 2, .int .i64 0] 40 (0, 0)))
    (h2 : W.heap[b2]? = some (.cells #[.slice (some ⟨b0, 0, none⟩) 2 2, .slice (some ⟨b1, 0, none⟩) 2 2] 25 (0, 0)))
    (h3 : W.heap[b3]? = some (.cells #[.int .i64 0, .int .i64 1, .int .i64 0, .int .i64 1] 3 (0, 0))) :
    PlQ W (some ⟨b2, 0, none⟩) lqP ∧ HasI W (.slice (some ⟨b3, 0, none⟩) 4 4) [0, 1, 0, 1] := by
  have lt : ∀ {b : Nat} {o : Obj}, W.heap[b]? = some o → b < W.heap.size := fun h => (Array.getElem?_eq_some_iff.1 h).1
  refine ⟨.inr ⟨b2, 0, rfl, lt h2, fun k hk => ?_⟩, some ⟨b3, 0, none⟩, 4, rfl, Nat.le_refl _, fun i hi => ⟨b3, 0, rfl, ?_⟩⟩
  · rcases k with _ | _ | k
    · refine ⟨some ⟨b0, 0, none⟩, 2, cell_of_row _ _ _ _ 25 _ h2, Nat.le_refl _, (show 2 ≤ maxLen by decide), .inr ⟨b0, 0, rfl, lt h0, fun j hj => ?_⟩⟩
      rcases j with _ | _ | j
      · exact ⟨cell_of_row _ _ _ _ 40 _ h0, cell_of_row _ _ _ _ 40 _ h0, cell_of_row _ _ _ _ 40 _ h0⟩
      · exact ⟨cell_of_row _ _ _ _ 40 _ h0, cell_of_row _ _ _ _ 40 _ h0, cell_of_row _ _ _ _ 40 _ h0⟩
      · simp [lqP] at hj
        omega
    · refine ⟨some ⟨b1, 0, none⟩, 2, cell_of_row _ _ _ _ 25 _ h2, Nat.le_refl _, (show 2 ≤ maxLen by decide), .inr ⟨b1, 0, rfl, lt h1, fun j hj => ?_⟩⟩
      rcases j with _ | _ | j
      · exact ⟨cell_of_row _ _ _ _ 40 _ h1, cell_of_row _ _ _ _ 40 _ h1, cell_of_row _ _ _ _ 40 _ h1⟩
      · exact ⟨cell_of_row _ _ _ _ 40 _ h1, cell_of_row _ _ _ _ 40 _ h1, cell_of_row _ _ _ _ 40 _ h1⟩
      · simp [lqP] at hj
        omega
    · simp [lqP] at hk
      omega
  · rcases i with _ | _ | _ | _ | i
    · exact cell_of_row _ _ _ _ 3 _ h3
    · exact cell_of_row _ _ _ _ 3 _ h3
    · exact cell_of_row _ _ _ _ 3 _ h3
    · exact cell_of_row _ _ _ _ 3 _ h3
    · simp at hi
      omega
theorem cell_up {w : World} {o : Obj} {p : Addr} {x : Value} (h : w.cell? p = some x) : (w.alloc o).cell? p = some x := by
  rw [World.cell?_alloc_lt _ _ p (World.block_lt_of_cell? w _ h)]
  exact h
theorem chain4 (w : World) (o0 o1 o2 o3 : Obj) : ((((w.alloc o0).alloc o1).alloc o2).alloc o3).heap[w.heap.size]? = some o0 ∧ ((((w.alloc o0).alloc o1).alloc o2).alloc o3).heap[w.heap.size + 1]? = some o1 ∧ ((((w.alloc o0).alloc o1).alloc o2).alloc o3).heap[w.heap.size + 1 + 1]? = some o2 ∧ ((((w.alloc o0).alloc o1).alloc o2).alloc o3).heap[w.heap.size + 1 + 1 + 1]? = some o3 := by
  have e : ((((w.alloc o0).alloc o1).alloc o2).alloc o3).heap = ((((w.heap.push o0).push o1).push o2).push o3) := rfl
  rw [e]
  refine ⟨?_, ?_, ?_, ?_⟩
  all_goals simp only [Array.getElem?_push, Array.size_push]
  all_goals repeat (first | rw [if_pos (by omega)] | rw [if_neg (by omega)])
  all_goals exact if_pos trivial
/-- What Play is asked to tell. -/
def PlayZ (Z : List (List Stp) → Prop) : Prop := ∀ (p : List (List Stp)) (ks : List Int) (pa ka : Option Addr) (pc kc : Nat) (W : World), Z p → ks.length ≤ maxLen → PlQ W pa p → HasI W (.slice ka ks.length kc) ks → Calls Try.prog 5 #[.slice pa p.length pc, .slice ka ks.length kc] W fun e w' => PlTold p ks W e w'

/-- Where the plan's lists are no longer than memory is great. -/
abbrev PlayOk : Prop := PlayZ PlZ

set_option maxRecDepth 100000 in
set_option maxHeartbeats 2000000 in
theorem locks_any {Z : List (List Stp) → Prop} (hPly : PlayZ Z) (hZl : Z lqP) (w : World) : Calls Try.prog 6 #[] w fun e w' => e = .returned (.bool true) ∧ Below w.heap.size w w' := by
  obtain ⟨h0, h1, h2, h3⟩ := chain4 w (.cells #[.int .i64 0, .int .i64 2, .int .i64 0, .int .i64 0, .int .i64 2, .int .i64 1] 40) (.cells #[.int .i64 1, .int .i64 2, .int .i64 1, .int .i64 1, .int .i64 2, .int .i64 0] 40) (.cells #[.slice (some ⟨w.heap.size, 0, none⟩) 2 2, .slice (some ⟨w.heap.size + 1, 0, none⟩) 2 2] 25) (.cells #[.int .i64 0, .int .i64 1, .int .i64 0, .int .i64 1] 3)
  obtain ⟨hp, hk⟩ := lq_mem h0 h1 h2 h3
  have HPy := hideIt (hPly lqP [0, 1, 0, 1] (some ⟨w.heap.size + 1 + 1, 0, none⟩) (some ⟨w.heap.size + 1 + 1 + 1, 0, none⟩) 2 4 _ hZl (by unfold maxLen; decide) hp hk)
  unfold PlTold at HPy
  rw [lq_flt, show toldV 0 = .nilIface from rfl, show vcY lqP [0, 1, 0, 1] = [1] from by unfold vcY; rw [if_pos lq_flt, lq_vic]; rfl] at HPy
  have HB := hideIt (show Below w.heap.size w _ from belA (belA (belA (belA (Below.refl _ _) (.cells #[.int .i64 0, .int .i64 2, .int .i64 0, .int .i64 0, .int .i64 2, .int .i64 1] 40)) (.cells #[.int .i64 1, .int .i64 2, .int .i64 1, .int .i64 1, .int .i64 2, .int .i64 0] 40)) (.cells #[.slice (some ⟨w.heap.size, 0, none⟩) 2 2, .slice (some ⟨w.heap.size + 1, 0, none⟩) 2 2] 25)) (.cells #[.int .i64 0, .int .i64 1, .int .i64 0, .int .i64 1] 3))
  clear h0 h1 h2 h3 hp hk
  go_enter Try.func6, Try.ntmps6
  go_wp2_with fail
  refine HPy.out.mono ?_
  rintro e W1 ⟨a, c, vw, vv, rfl, hs, hw, hv, hb1⟩
  replace HB := hideIt (belJ HB.out hb1)
  obtain ⟨wa, wc, rfl⟩ := hw.form
  obtain ⟨ya, yc, ev, _, hy⟩ := hv
  obtain ⟨g, off, rfl, y0'⟩ := hy 0 (by decide)
  have y0 : W1.cell? ⟨g, off, none⟩ = some (.int .i64 1) := y0'
  have ev' : vv = .slice (some ⟨g, off, none⟩) 1 yc := ev
  clear ev y0'
  subst ev'
  have HF := hideIt (belA HB.out (.cells #[.slice a (dnY lqP [0, 1, 0, 1]).length c, .slice wa (wtY lqP [0, 1, 0, 1]).length wc, .slice (some ⟨g, off, none⟩) 1 yc] 27))
  have y1 := cell_up (o := .cells #[.slice a (dnY lqP [0, 1, 0, 1]).length c, .slice wa (wtY lqP [0, 1, 0, 1]).length wc, .slice (some ⟨g, off, none⟩) 1 yc] 27) y0
  generalize (dnY lqP [0, 1, 0, 1]).length = L1 at HF y1 ⊢
  generalize (wtY lqP [0, 1, 0, 1]).length = L2 at HF y1 ⊢
  clear hs hw hy hb1 HPy y0
  go_wp2
  go_ret
  exact ⟨rfl, HF.out⟩
end Go.Proofs.Ythmiocbihhbdpaa
