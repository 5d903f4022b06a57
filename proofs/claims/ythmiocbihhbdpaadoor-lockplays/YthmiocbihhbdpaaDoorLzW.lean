/-
  The document's run of no transactions, walked; of any number.
-/
import Derived.Test.YthmiocbihhbdpaaDoorLpW
namespace Go.Proofs.YthmiocbihhbdpaaDoor
open Go.RowKit

theorem pk_nil (ks : List Int) : ∀ st, pkS [] 0 st ks = st := by
  induction ks with
  | nil => exact fun _ => rfl
  | cons t ks ih =>
    intro st
    show pkS [] 0 (if 0 ≤ t ∧ t < (0 : Nat) then goS [] 0 st t.toNat else st) ks = st
    rw [if_neg (by omega)]
    exact ih st
theorem lkP_nil (ks : List Int) : lkP [] ks = lk0 := by
  show plS [] 0 0 (pkS [] 0 lk0 ks) = lk0
  rw [pk_nil]
  rfl

set_option maxRecDepth 100000 in
set_option maxHeartbeats 8000000 in
theorem play0_any (pa ka : Option Addr) (pc kc : Nat) (ks : List Int) (w : World) (hk : HasI w (.slice ka ks.length kc) ks) (hkl : ks.length ≤ 1000) :
    Calls Tryd.prog 8 #[.slice pa 0 pc, .slice ka ks.length kc] w fun e w' => PlTold [] ks w e w' := by
  have HK := hideIt hk
  obtain ⟨n, hn⟩ : ∃ n, 0 = n := ⟨_, rfl⟩
  rw [hn]
  have hm1 : (Instr.makeSlice 24 (.int .i64 (n : Int)) (.int .i64 (n : Int))).run Tryd.prog (((w.alloc (.cells #[.slice pa n pc] 25)).alloc (.cells #[.slice none 0 0, .slice none 0 0, .slice none 0 0] 36)).alloc (.cells #[.int .i64 (n : Int)] 3)) = .ok (.slice (some ⟨w.heap.size + 1 + 1 + 1, 0, none⟩) n n) ((((w.alloc (.cells #[.slice pa n pc] 25)).alloc (.cells #[.slice none 0 0, .slice none 0 0, .slice none 0 0] 36)).alloc (.cells #[.int .i64 (n : Int)] 3)).alloc (.cells (madeCells #[.int .i64 0] n) 3)) := by
    have := made_nums (((w.alloc (.cells #[.slice pa n pc] 25)).alloc (.cells #[.slice none 0 0, .slice none 0 0, .slice none 0 0] 36)).alloc (.cells #[.int .i64 (n : Int)] 3)) n (by omega)
    rw [World.size_alloc, World.size_alloc, World.size_alloc] at this
    exact this
  have hm2 : (Instr.makeSlice 52 (.int .i64 (n : Int)) (.int .i64 (n : Int))).run Tryd.prog (((((w.alloc (.cells #[.slice pa n pc] 25)).alloc (.cells #[.slice none 0 0, .slice none 0 0, .slice none 0 0] 36)).alloc (.cells #[.int .i64 (n : Int)] 3)).alloc (.cells (madeCells #[.int .i64 0] n) 3)).alloc (.cells #[.slice none 0 0, .slice (some ⟨w.heap.size + 1 + 1 + 1, 0, none⟩) n n, .slice none 0 0] 36)) = .ok (.slice (some ⟨w.heap.size + 1 + 1 + 1 + 1 + 1, 0, none⟩) n n) ((((((w.alloc (.cells #[.slice pa n pc] 25)).alloc (.cells #[.slice none 0 0, .slice none 0 0, .slice none 0 0] 36)).alloc (.cells #[.int .i64 (n : Int)] 3)).alloc (.cells (madeCells #[.int .i64 0] n) 3)).alloc (.cells #[.slice none 0 0, .slice (some ⟨w.heap.size + 1 + 1 + 1, 0, none⟩) n n, .slice none 0 0] 36)).alloc (.cells (madeCells #[.bool false] n) 4)) := by
    have := made_bits (((((w.alloc (.cells #[.slice pa n pc] 25)).alloc (.cells #[.slice none 0 0, .slice none 0 0, .slice none 0 0] 36)).alloc (.cells #[.int .i64 (n : Int)] 3)).alloc (.cells (madeCells #[.int .i64 0] n) 3)).alloc (.cells #[.slice none 0 0, .slice (some ⟨w.heap.size + 1 + 1 + 1, 0, none⟩) n n, .slice none 0 0] 36)) n (by omega)
    rw [World.size_alloc, World.size_alloc, World.size_alloc, World.size_alloc, World.size_alloc] at this
    exact this
  have hm3 : (Instr.makeSlice 24 (.int .i64 (n : Int)) (.int .i64 (n : Int))).run Tryd.prog (((((((w.alloc (.cells #[.slice pa n pc] 25)).alloc (.cells #[.slice none 0 0, .slice none 0 0, .slice none 0 0] 36)).alloc (.cells #[.int .i64 (n : Int)] 3)).alloc (.cells (madeCells #[.int .i64 0] n) 3)).alloc (.cells #[.slice none 0 0, .slice (some ⟨w.heap.size + 1 + 1 + 1, 0, none⟩) n n, .slice none 0 0] 36)).alloc (.cells (madeCells #[.bool false] n) 4)).alloc (.cells #[.slice (some ⟨w.heap.size + 1 + 1 + 1 + 1 + 1, 0, none⟩) n n] 52)) = .ok (.slice (some ⟨w.heap.size + 1 + 1 + 1 + 1 + 1 + 1 + 1, 0, none⟩) n n) ((((((((w.alloc (.cells #[.slice pa n pc] 25)).alloc (.cells #[.slice none 0 0, .slice none 0 0, .slice none 0 0] 36)).alloc (.cells #[.int .i64 (n : Int)] 3)).alloc (.cells (madeCells #[.int .i64 0] n) 3)).alloc (.cells #[.slice none 0 0, .slice (some ⟨w.heap.size + 1 + 1 + 1, 0, none⟩) n n, .slice none 0 0] 36)).alloc (.cells (madeCells #[.bool false] n) 4)).alloc (.cells #[.slice (some ⟨w.heap.size + 1 + 1 + 1 + 1 + 1, 0, none⟩) n n] 52)).alloc (.cells (madeCells #[.int .i64 0] n) 3)) := by
    have := made_nums (((((((w.alloc (.cells #[.slice pa n pc] 25)).alloc (.cells #[.slice none 0 0, .slice none 0 0, .slice none 0 0] 36)).alloc (.cells #[.int .i64 (n : Int)] 3)).alloc (.cells (madeCells #[.int .i64 0] n) 3)).alloc (.cells #[.slice none 0 0, .slice (some ⟨w.heap.size + 1 + 1 + 1, 0, none⟩) n n, .slice none 0 0] 36)).alloc (.cells (madeCells #[.bool false] n) 4)).alloc (.cells #[.slice (some ⟨w.heap.size + 1 + 1 + 1 + 1 + 1, 0, none⟩) n n] 52)) n (by omega)
    rw [World.size_alloc, World.size_alloc, World.size_alloc, World.size_alloc, World.size_alloc, World.size_alloc, World.size_alloc] at this
    exact this
  have HN := hideIt hn
  clear hk hn
  go_enter Tryd.func8, Tryd.ntmps8
  go_wp2_with fail
  clear hm1 hm2 hm3
  refine (blank_any n (by have := HN.out; omega) _).mono ?_
  rintro e W10 ⟨v, gs, rfl, hOut, hgl, hnd, hb10⟩
  obtain ⟨va, vc, rfl⟩ : ∃ a c, v = .slice a n c := by
    obtain ⟨a, c, e, _⟩ := hOut.readM hgl
    exact ⟨a, c, e⟩
  obtain ⟨c9, c0, c1, c2, c3, c4, c5, c6, c7, c8⟩ := chain9 w (.cells #[.slice pa n pc] 25) (.cells #[.slice none 0 0, .slice none 0 0, .slice none 0 0] 36) (.cells #[.int .i64 (n : Int)] 3) (.cells (madeCells #[.int .i64 0] n) 3) (.cells #[.slice none 0 0, .slice (some ⟨w.heap.size + 1 + 1 + 1, 0, none⟩) n n, .slice none 0 0] 36) (.cells (madeCells #[.bool false] n) 4) (.cells #[.slice (some ⟨w.heap.size + 1 + 1 + 1 + 1 + 1, 0, none⟩) n n] 52) (.cells (madeCells #[.int .i64 0] n) 3) (.cells #[.slice (some ⟨w.heap.size + 1 + 1 + 1 + 1 + 1 + 1 + 1, 0, none⟩) n n] 24)
  rw [c9] at hb10
  have hbw : Below w.heap.size w (((((((((w.alloc (.cells #[.slice pa n pc] 25)).alloc (.cells #[.slice none 0 0, .slice none 0 0, .slice none 0 0] 36)).alloc (.cells #[.int .i64 (n : Int)] 3)).alloc (.cells (madeCells #[.int .i64 0] n) 3)).alloc (.cells #[.slice none 0 0, .slice (some ⟨w.heap.size + 1 + 1 + 1, 0, none⟩) n n, .slice none 0 0] 36)).alloc (.cells (madeCells #[.bool false] n) 4)).alloc (.cells #[.slice (some ⟨w.heap.size + 1 + 1 + 1 + 1 + 1, 0, none⟩) n n] 52)).alloc (.cells (madeCells #[.int .i64 0] n) 3)).alloc (.cells #[.slice (some ⟨w.heap.size + 1 + 1 + 1 + 1 + 1 + 1 + 1, 0, none⟩) n n] 24)) := belA (belA (belA (belA (belA (belA (belA (belA (belA (Below.refl _ _) _) _) _) _) _) _) _) _) _
  generalize (((((((((w.alloc (.cells #[.slice pa n pc] 25)).alloc (.cells #[.slice none 0 0, .slice none 0 0, .slice none 0 0] 36)).alloc (.cells #[.int .i64 (n : Int)] 3)).alloc (.cells (madeCells #[.int .i64 0] n) 3)).alloc (.cells #[.slice none 0 0, .slice (some ⟨w.heap.size + 1 + 1 + 1, 0, none⟩) n n, .slice none 0 0] 36)).alloc (.cells (madeCells #[.bool false] n) 4)).alloc (.cells #[.slice (some ⟨w.heap.size + 1 + 1 + 1 + 1 + 1, 0, none⟩) n n] 52)).alloc (.cells (madeCells #[.int .i64 0] n) 3)).alloc (.cells #[.slice (some ⟨w.heap.size + 1 + 1 + 1 + 1 + 1 + 1 + 1, 0, none⟩) n n] 24)) = W9 at c9 c1 c2 c4 hb10 hbw
  have hB1 : ∀ o1 o2, Below W10.heap.size W10 ((W10.alloc o1).alloc o2) := fun o1 o2 => belA (belA (Below.refl _ _) _) _
  have hs : w.heap.size + 9 ≤ W10.heap.size := by have := hb10.size; omega
  have HF : Hid (∀ o1 o2, ((W10.alloc o1).alloc o2).heap[w.heap.size + 1]? = some (.cells #[.slice none 0 0, .slice none 0 0, .slice none 0 0] 36 (0, 0)) ∧ ((W10.alloc o1).alloc o2).heap[w.heap.size + 2]? = some (.cells #[.int .i64 (n : Int)] 3 (0, 0)) ∧ ((W10.alloc o1).alloc o2).heap[w.heap.size + 4]? = some (.cells #[.slice none 0 0, .slice (some ⟨w.heap.size + 3, 0, none⟩) n n, .slice none 0 0] 36 (0, 0)) ∧ Below w.heap.size w ((W10.alloc o1).alloc o2)) := fun o1 o2 =>
    ⟨((hB1 o1 o2).block _ (by omega)).trans ((hb10.block _ (by omega)).trans c1), ((hB1 o1 o2).block _ (by omega)).trans ((hb10.block _ (by omega)).trans c2), ((hB1 o1 o2).block _ (by omega)).trans ((hb10.block _ (by omega)).trans c4), belJ (hbw.trans (hb10.mono (by omega))) (hB1 o1 o2)⟩
  clear hOut hgl hnd hb10 c0 c1 c2 c3 c4 c5 c6 c7 c8 c9 hbw hB1 hs
  go_upto_region 8 with fail
  simp only [Nat.add_assoc, Nat.reduceAdd]
  have hF := HF.out (.cells #[.slice va n vc] 53) (.cells #[.func (.func 15) #[] #[.pointer (some ⟨w.heap.size + 4, 0, none⟩), .pointer (some ⟨w.heap.size + 6, 0, none⟩), .pointer (some ⟨w.heap.size + 2, 0, none⟩), .pointer (some ⟨W10.heap.size, 0, none⟩)]] 55)
  generalize (W10.alloc (.cells #[.slice va n vc] 53)).alloc _ = W12 at hF ⊢
  obtain ⟨f1, f2, f3, f4⟩ := hF
  have HB := hideIt f4
  have HR := hideIt f1
  have x0 : W12.cell? ⟨w.heap.size + 2, 0, none⟩ = some (.int .i64 (n : Int)) := cell_of_row _ _ _ _ 3 _ f2
  have d0 : W12.cell? ⟨w.heap.size + 4, 0, none⟩ = some (.slice none 0 0) := cell_of_row _ _ _ _ 36 _ f3
  have d1 : W12.cell? ⟨w.heap.size + 4, 1, none⟩ = some (.slice (some ⟨w.heap.size + 3, 0, none⟩) n n) := cell_of_row _ _ _ _ 36 _ f3
  have d2 : W12.cell? ⟨w.heap.size + 4, 2, none⟩ = some (.slice none 0 0) := cell_of_row _ _ _ _ 36 _ f3
  have e0 : W12.cell? ⟨w.heap.size + 1, 0, none⟩ = some (.slice none 0 0) := cell_of_row _ _ _ _ 36 _ f1
  have e1 : W12.cell? ⟨w.heap.size + 1, 1, none⟩ = some (.slice none 0 0) := cell_of_row _ _ _ _ 36 _ f1
  have e2 : W12.cell? ⟨w.heap.size + 1, 2, none⟩ = some (.slice none 0 0) := cell_of_row _ _ _ _ 36 _ f1
  have z0 : W12.frozen? ⟨w.heap.size + 1, 0, none⟩ = false := frozen_of_row _ _ _ _ 36 f1
  have z1 : W12.frozen? ⟨w.heap.size + 1, 1, none⟩ = false := frozen_of_row _ _ _ _ 36 f1
  have z2 : W12.frozen? ⟨w.heap.size + 1, 2, none⟩ = false := frozen_of_row _ _ _ _ 36 f1
  have hn0 : ¬ (0 : Int) < (n : Int) := by have := HN.out; omega
  clear f1 f2 f3 f4 HF
  go_wp2
  go_loopw [32] (fun i wr => ∃ k : Nat, k ≤ ks.length ∧ i = .int .i64 k ∧ wr = W12) (fun i _ => ks.length - (intOf i).toNat)
  case atStart => exact ⟨0, Nat.zero_le _, rfl, rfl⟩
  case round =>
    obtain ⟨k, hkk, rfl, rfl⟩ := hrel
    by_cases hin : k < ks.length
    · obtain ⟨b1, p1, q1, _, hr1⟩ := HK.out.below HB.out
      simp at q1
      obtain ⟨rfl, rfl⟩ := q1
      obtain ⟨g, off, rfl, y0⟩ := hr1 k hin
      clear hr1
      generalize ks[k] = q at y0
      by_cases hq0 : 0 ≤ q
      · have hq1 : ¬ q < (n : Int) := by have := HN.out; omega
        have hb0 : ¬ q < 0 := by omega
        go_wp2
        go_roundw
        case rel => exact ⟨k + 1, by omega, by go_num, trivial⟩
        case measure => simp [intOf]; omega
      · go_wp2
        go_roundw
        case rel => exact ⟨k + 1, by omega, by go_num, trivial⟩
        case measure => simp [intOf]; omega
    · go_wp2
      go_loopw [14] (fun _ wz => wz = wr) (fun _ _ => 0)
      case atStart => exact rfl
      case round =>
        subst hrel
        go_wp2
        go_loopw [14, 48] (fun l i wz => l = .bool false ∧ i = .int .i64 0 ∧ wz = wr) (fun _ _ _ => 0)
        case atStart => exact ⟨rfl, rfl, rfl⟩
        case round =>
          obtain ⟨rfl, rfl, rfl⟩ := hrel
          go_wp2
          have hz : w.heap.size ≤ w.heap.size + 1 := by omega
          have h1 := heap_setCell_same wr (w.heap.size + 1) 0 _ 36 (.slice none 0 0) HR.out
          have h2 := heap_setCell_same _ (w.heap.size + 1) 1 _ 36 (.slice (some ⟨w.heap.size + 3, 0, none⟩) n n) h1
          have h3 := heap_setCell_same _ (w.heap.size + 1) 2 _ 36 (.slice none 0 0) h2
          have hr : (((wr.setCell ⟨w.heap.size + 1, 0, none⟩ (.slice none 0 0)).setCell ⟨w.heap.size + 1, 1, none⟩ (.slice (some ⟨w.heap.size + 3, 0, none⟩) n n)).setCell ⟨w.heap.size + 1, 2, none⟩ (.slice none 0 0)).heap[w.heap.size + 1]? = some (.cells #[.slice none 0 0, .slice (some ⟨w.heap.size + 3, 0, none⟩) n n, .slice none 0 0] 36 (0, 0)) := by
            rw [h3]
            simp
          refine bodyPost_ret (results_one rfl _ _ (w.heap.size + 1) _ rfl (tri36 hr)) rfl ?_
          have e := lkP_nil ks
          refine ⟨none, 0, .slice (some ⟨w.heap.size + 3, 0, none⟩) n n, .slice none 0 0, ?_, ?_, ?_, ?_, ?_, ((HB.out.setCell (p := ⟨w.heap.size + 1, 0, none⟩) hz _).setCell (p := ⟨w.heap.size + 1, 1, none⟩) hz _).setCell (p := ⟨w.heap.size + 1, 2, none⟩) hz _⟩
          · rw [e]; rfl
          · rw [e]; exact Nat.le_refl _
          · rw [e]; exact .inl rfl
          · rw [← HN.out]
            exact ⟨_, 0, rfl, Nat.le_refl _, fun i hi => absurd hi (by simp)⟩
          · rw [e]; exact hasI_nil _
end Go.Proofs.YthmiocbihhbdpaaDoor
