/-
  The statements' own copy of a plan: steps of lists of whatever length; a row of lists that is appended to.
  Two rows of steps held against each other.
-/
import Derived.Test.YthmiocbihhbdpaaDoorLkMZ
import Derived.Maps.AppendAt
import Derived.Test.YthmiocbihhbdpaaDoorRgLZ
import Derived.Test.YthmiocbihhbdpaaDoorGrMZ
namespace Go.Proofs.YthmiocbihhbdpaaDoor
open Go.RowKit

theorem run_appS2 {w : World} {base B : Nat} {v : Value} {n : Nat} {L : List Stp} {s : Stp} (hown : w.ownsRow base 47 3 v n (stpC L)) (hB : StpAt w B 0 s) (hb : base ≤ w.heap.size) (hlen : (n + 1) * 24 ≤ 140737488355328) (ty : TypeId) :
    ∃ v' w', (Builtin.append_ #[27, 27] ty #[v, .slice (some ⟨B, 0, none⟩) 1 1]).run Tryd.prog w = .ok v' w' ∧ w'.ownsRow base 47 3 v' (n + 1) (stpC (L ++ [s])) ∧ w.grownBy w' v.ownBlock ∧ (v'.ownBlock = v.ownBlock ∨ v'.ownBlock = some w.heap.size) := by
  obtain ⟨i, hi, hz, hsz, hby⟩ := info_parts' info67
  have hnews : ∀ j u, [Value.int .i64 s.p, .int .i64 s.k, .int .i64 s.m][j]? = some u → w.cell? ((⟨B, 0, none⟩ : Addr).add j) = some u := by
    intro j u hj
    rw [Addr.add_mid, Nat.zero_add]
    match j, hj with
    | 0, hj => simp at hj; subst hj; exact hB.1
    | 1, hj => simp at hj; subst hj; exact hB.2.1
    | 2, hj => simp at hj; subst hj; exact hB.2.2
  obtain ⟨v', w', hr, ho, hg, _, hob⟩ := run_append_own_at (P := Tryd.prog) (w := w) base 27 ty 47 i _ 3 24 Tryd.underlying27 hi hz hsz hby rfl (by decide) v _ _ hown ⟨B, 0, none⟩ 1 1 [.int .i64 s.p, .int .i64 s.k, .int .i64 s.m] rfl hnews (by simp [Value.oneCell']) (by unfold maxLen; omega) (by omega) hb
  exact ⟨v', w', hr, by rw [stpC_app]; exact ho, hg, hob⟩
theorem info27 : (Tryd.prog.info? 27).map (fun i => (i.zero, i.size, i.bytes)) = some (some (.slice none 0 0), 1, 24) := by kernel_rfl
theorem run_appR2 {w : World} {base B : Nat} {v : Value} {L : List Value} {x : Value} (hx : x.oneCell' = true) (hown : w.ownsRow base 27 1 v L.length L) (h0 : w.cell? ⟨B, 0, none⟩ = some x) (hb : base ≤ w.heap.size) (hlen : (L.length + 1) * 24 ≤ 140737488355328) (ty : TypeId) :
    ∃ v' w', (Builtin.append_ #[25, 25] ty #[v, .slice (some ⟨B, 0, none⟩) 1 1]).run Tryd.prog w = .ok v' w' ∧ w'.ownsRow base 27 1 v' (L.length + 1) (L ++ [x]) ∧ w.grownBy w' v.ownBlock ∧ (v'.ownBlock = v.ownBlock ∨ v'.ownBlock = some w.heap.size) := by
  obtain ⟨i, hi, hz, hsz, hby⟩ := info_parts' info27
  have hnews : ∀ j u, [x][j]? = some u → w.cell? ((⟨B, 0, none⟩ : Addr).add j) = some u := by
    intro j u hj
    rw [Addr.add_mid, Nat.zero_add]
    match j, hj with
    | 0, hj => simp at hj; subst hj; exact h0
    | k + 1, hj => simp at hj
  obtain ⟨v', w', hr, ho, hg, _, hob⟩ := run_append_own_at (P := Tryd.prog) (w := w) base 25 ty 27 i _ 1 24 Tryd.underlying25 hi hz hsz hby rfl (by decide) v _ _ hown ⟨B, 0, none⟩ 1 1 [x] rfl hnews (by simpa using hx) (by unfold maxLen; omega) (by omega) hb
  exact ⟨v', w', hr, ho, hg, hob⟩

set_option maxRecDepth 100000 in
set_option maxHeartbeats 4000000 in
theorem mixedL_any (l : List Stp) (a : Option Addr) (cap : Nat) (w : World) (hlen : l.length * 24 ≤ 140737488355328) (hl : StpsQ w a l) :
    Calls Tryd.prog 4 #[.slice a l.length cap] w fun e w' => ∃ v, e = .returned v ∧ w'.ownsRow w.heap.size 47 3 v l.length (stpC l) ∧ Below w.heap.size w w' := by
  have HL := hideIt hl
  clear hl
  go_enter Tryd.func4, Tryd.ntmps4
  go_wp2
  go_loopw [3, 4] (fun v i wr => ∃ k : Nat, k ≤ l.length ∧ i = .int .i64 k ∧ wr.ownsRow w.heap.size 47 3 v k (stpC (l.take k)) ∧ Below w.heap.size w wr) (fun _ i _ => l.length - (intOf i).toNat)
  case atStart => exact ⟨0, Nat.zero_le _, rfl, World.ownsRow_nil _ _ _ _, Below.refl _ _⟩
  case round =>
    obtain ⟨k, hk, rfl, ho, hb⟩ := hrel
    have HO := hideIt ho
    have HB := hideIt hb
    obtain ⟨va, vc, hv⟩ := ownsRow_slice ho
    subst hv
    clear ho hb
    by_cases hkl : k < l.length
    · obtain ⟨b, off, rfl, hlt, hst⟩ : ∃ b off, a = some ⟨b, off, none⟩ ∧ b < w.heap.size ∧ StpsAt w b off l := by
        rcases HL.out with h | h
        · subst h; simp at hkl
        · exact h
      obtain ⟨c0, c1, c2⟩ := (hst k hkl).below hlt HB.out
      have HX : Hid (l.take (k + 1) = l.take k ++ [l[k]]) := List.take_succ_eq_append_getElem hkl
      generalize l[k] = x at c0 c1 c2 HX
      clear hst HL
      have hbl : b < wr.heap.size := Nat.lt_of_lt_of_le hlt HB.out.size
      have hOA : (wr.alloc (.cells #[.int .i64 x.p, .int .i64 x.k, .int .i64 x.m] 47)).drew.ownsRow w.heap.size 47 3 (.slice va k vc) k (stpC (l.take k)) := ownsRow_same HO.out fun b' hb' => Below.heap_alloc _ _ _ (ownsRow_block HO.out b' hb').2.1
      have hs3 : (wr.alloc (.cells #[.int .i64 x.p, .int .i64 x.k, .int .i64 x.m] 47)).drew.heap.size = wr.heap.size + 1 := by
        show (wr.alloc (.cells #[.int .i64 x.p, .int .i64 x.k, .int .i64 x.m] 47)).heap.size = _
        simp
      have hSA : StpAt (wr.alloc (.cells #[.int .i64 x.p, .int .i64 x.k, .int .i64 x.m] 47)).drew wr.heap.size 0 x := by
        have e : (wr.alloc (.cells #[.int .i64 x.p, .int .i64 x.k, .int .i64 x.m] 47)).drew.heap[wr.heap.size]? = some (.cells #[.int .i64 x.p, .int .i64 x.k, .int .i64 x.m] 47 (0, 0)) := heap_alloc_new wr _
        exact ⟨cell_of_row _ _ _ _ 47 (0, 0) e, cell_of_row _ _ _ _ 47 (0, 0) e, cell_of_row _ _ _ _ 47 (0, 0) e⟩
      obtain ⟨n1, w6, hr6, ho6, hg6, hob6⟩ := run_appS2 hOA hSA (by rw [hs3]; have := HB.out.size; omega) (by omega) 27
      have hB6 : Below w.heap.size w w6 := (belA HB.out _).drew.grown hg6 (by rw [hs3]; have := HB.out.size; omega) (fun b' hb' => (ownsRow_block hOA b' hb').1)
      rw [← HX.out] at ho6
      obtain ⟨na, nc, hn1⟩ := ownsRow_slice ho6
      have HO6 := hideIt ho6
      have HB6 := hideIt hB6
      have HR6 := hideIt hr6
      clear hOA hs3 hSA ho6 hg6 hob6 hB6 hr6
      subst hn1
      have hx1 : ¬ b = wr.heap.size := by omega
      have hx2 : ¬ wr.heap.size = b := by omega
      go_wp2_with fail
      go_region_law (refine step_append_run (by rfl) _ _ 27 (by rfl) _ _ _ w6 (by rfl) (by rfl) HR6.out ?_)
      all_goals
        go_wp2
        go_roundw
        case rel => exact ⟨k + 1, by omega, by go_num, HO6.out, HB6.out⟩
        case measure => simp [intOf]; omega
    · obtain rfl : k = l.length := by omega
      rw [List.take_length] at HO
      go_wp2
      go_ret
      exact ⟨_, rfl, HO.out, HB.out⟩
end Go.Proofs.YthmiocbihhbdpaaDoor

namespace Go.Proofs.YthmiocbihhbdpaaDoor
open Go.RowKit

set_option maxRecDepth 100000 in
set_option maxHeartbeats 1000000 in
theorem sameSteps_any (l : List Stp) (a a' : Option Addr) (cap cap' : Nat) (w : World) (hn : l.length ≤ 100) (h : StpsQ w a l) (h' : StpsQ w a' l) :
    Calls Tryd.prog 10 #[.slice a l.length cap, .slice a' l.length cap'] w fun e w' => e = .returned (.bool true) ∧ Below w.heap.size w w' := by
  have HC := hideIt (mixed_any l a cap w hn h)
  have HR' := hideIt h'
  clear h h'
  go_enter Tryd.func10, Tryd.ntmps10
  go_wp2_with fail
  refine HC.out.mono ?_
  rintro e w1 ⟨a1, cap1, rfl, hc1, hq, hb1⟩
  have HQ := hideIt hq
  have HB1 := hideIt hb1
  clear hq hb1 HC
  go_wp2
  go_loopw [6] (fun i wr => ∃ k : Nat, k ≤ l.length ∧ i = .int .i64 k ∧ Below w.heap.size w wr ∧ Below w1.heap.size w1 wr) (fun i _ => l.length - (intOf i).toNat)
  case atStart => exact ⟨0, Nat.zero_le _, rfl, HB1.out, Below.refl _ _⟩
  case round =>
    obtain ⟨i, hi, rfl, hb, hb2⟩ := hrel
    have HB := hideIt hb
    have HB2 := hideIt hb2
    clear hb hb2
    by_cases hil : i < l.length
    · obtain ⟨b, off, rfl, hlt, hst⟩ : ∃ b off, a' = some ⟨b, off, none⟩ ∧ b < w.heap.size ∧ StpsAt w b off l := by
        rcases HR'.out with h | h
        · subst h; simp at hil
        · exact h
      obtain ⟨b', off', rfl, hlt', hst'⟩ : ∃ b off, a1 = some ⟨b, off, none⟩ ∧ b < w1.heap.size ∧ StpsAt w1 b off l := by
        rcases HQ.out with h | h
        · subst h; simp at hil
        · exact h
      obtain ⟨c0, c1, c2⟩ := (hst i hil).below hlt HB.out
      obtain ⟨d0, d1, d2⟩ := (hst' i hil).below hlt' HB2.out
      clear hst hst'
      generalize l[i] = x at c0 c1 c2 d0 d1 d2
      go_wp2_with fail
      go_big_quiet (fail)
      go_wp2
      go_roundw
      case rel => exact ⟨i + 1, by omega, by go_num, below_drewN HB.out _, below_drewN HB2.out _⟩
      case measure => simp [intOf]; omega
    · go_wp2
      go_ret
      exact ⟨rfl, HB.out⟩
end Go.Proofs.YthmiocbihhbdpaaDoor
