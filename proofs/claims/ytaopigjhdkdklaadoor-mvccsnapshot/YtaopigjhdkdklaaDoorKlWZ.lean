/-
  The statements' own long, walked: whatever it says.
  The statements' own skews, walked: the story that it tells.
  The statements' own isolates, walked: it says yes.
-/
import Derived.Test.YtaopigjhdkdklaaDoorIkWZ
import Derived.Test.YtaopigjhdkdklaaDoorImWZ
import Derived.Test.YtaopigjhdkdklaaDoorMnPZ
import Derived.Test.YtaopigjhdkdklaaDoorIlW
namespace Go.Proofs.YtaopigjhdkdklaaDoor
open Go.RowKit

set_option maxRecDepth 100000 in
set_option maxHeartbeats 1000000 in
theorem long_any (s : ISt) (m : Int) (a b : Option Addr) (ca cb : Nat) (w : World) (h : StyQ w a ca b cb s) :
    Calls Tryd.prog 49 #[.agg #[.slice a s.txs.length ca, .slice b s.ord.length cb], .int .i64 m] w fun e w' => ∃ r, e = .returned (.bool r) ∧ Below w.heap.size w w' := by
  have HB : Hid (Below w.heap.size w (w.alloc (.cells #[.slice a s.txs.length ca, .slice b s.ord.length cb] 44))) := belA (Below.refl _ _) _
  obtain ⟨c0, c1⟩ := box2 w (.slice a s.txs.length ca) (.slice b s.ord.length cb) 44
  have HS := hideIt (h.below HB.out)
  have htm := h.tmax
  unfold maxLen at htm
  clear h
  go_enter Tryd.func49, Tryd.ntmps49
  go_wp2
  generalize w.alloc _ = W at HB c0 c1 HS ⊢
  go_loopw [5, 6] (fun n i wr => ∃ (q : Int) (k : Nat), k ≤ s.txs.length ∧ n = .int .i64 q ∧ i = .int .i64 k ∧ wr = W) (fun _ i _ => s.txs.length - (intOf i).toNat)
  case atStart => exact ⟨0, 0, Nat.zero_le _, rfl, rfl, rfl⟩
  case round =>
    obtain ⟨q, i, hi, rfl, rfl, rfl⟩ := hrel
    by_cases hin : i < s.txs.length
    · obtain ⟨g, off, rfl, hg, a1, cap1, t0, t1, t2, t3, t4⟩ := HS.out.tx hin
      clear t3
      generalize s.txs[i].ops.length = L at t0 t1 t2
      go_wp2
      go_roundw
      case rel => exact ⟨_, i + 1, by omega, rfl, by go_num, trivial⟩
      case measure => simp [intOf]; omega
    · obtain ⟨r, hr⟩ : ∃ r, decide (q > m) = r := ⟨_, rfl⟩
      cases r
      · go_wp2
        go_ret
        exact ⟨_, rfl, HB.out⟩
      · go_wp2
        go_ret
        exact ⟨_, rfl, HB.out⟩
end Go.Proofs.YtaopigjhdkdklaaDoor

namespace Go.Proofs.YtaopigjhdkdklaaDoor
open Go.RowKit

/-- Two that write what the other one reads. -/
def skS : ISt := ⟨[⟨[⟨false, 0, -1, 0⟩, ⟨true, 1, 0, 0⟩], true⟩, ⟨[⟨false, 1, -1, 0⟩, ⟨true, 0, 0, 0⟩], true⟩], [[1], [0], [], [], [], [], [], []]⟩
def SkTold (w : World) (e : Ending) (w' : World) : Prop :=
  ∃ a ca b cb, e = .returned (.agg #[.slice a 2 ca, .slice b 8 cb]) ∧ StyQ w' a ca b cb skS ∧ Below w.heap.size w w'

theorem chain8 (w : World) (o0 o1 o2 o3 o4 o5 o6 o7 : Obj) :
    (((((((((w.alloc o0).alloc o1).alloc o2).alloc o3).alloc o4).alloc o5).alloc o6).alloc o7).drew).heap[w.heap.size]? = some o0 ∧
    (((((((((w.alloc o0).alloc o1).alloc o2).alloc o3).alloc o4).alloc o5).alloc o6).alloc o7).drew).heap[w.heap.size + 1]? = some o1 ∧
    (((((((((w.alloc o0).alloc o1).alloc o2).alloc o3).alloc o4).alloc o5).alloc o6).alloc o7).drew).heap[w.heap.size + 1 + 1 + 1]? = some o3 ∧
    (((((((((w.alloc o0).alloc o1).alloc o2).alloc o3).alloc o4).alloc o5).alloc o6).alloc o7).drew).heap[w.heap.size + 1 + 1 + 1 + 1]? = some o4 ∧
    (((((((((w.alloc o0).alloc o1).alloc o2).alloc o3).alloc o4).alloc o5).alloc o6).alloc o7).drew).heap[w.heap.size + 1 + 1 + 1 + 1 + 1]? = some o5 ∧
    (((((((((w.alloc o0).alloc o1).alloc o2).alloc o3).alloc o4).alloc o5).alloc o6).alloc o7).drew).heap[w.heap.size + 1 + 1 + 1 + 1 + 1 + 1]? = some o6 ∧
    (((((((((w.alloc o0).alloc o1).alloc o2).alloc o3).alloc o4).alloc o5).alloc o6).alloc o7).drew).heap[w.heap.size + 1 + 1 + 1 + 1 + 1 + 1 + 1]? = some o7 := by
  have e : (((((((((w.alloc o0).alloc o1).alloc o2).alloc o3).alloc o4).alloc o5).alloc o6).alloc o7).drew).heap = ((((((((w.heap.push o0).push o1).push o2).push o3).push o4).push o5).push o6).push o7) := rfl
  rw [e]
  refine ⟨?_, ?_, ?_, ?_, ?_, ?_, ?_⟩
  all_goals simp only [Array.getElem?_push, Array.size_push]
  all_goals repeat (first | rw [if_pos (by omega)] | rw [if_neg (by omega)])
  all_goals exact if_pos trivial
theorem two_load {w : World} {g : Nat} {t : TypeId} {x y : Value} (h : w.heap[g]? = some (.cells #[x, y] t (0, 0))) : (loadVar 44 ⟨g, 0, none⟩).run Tryd.prog w = .ok (.agg #[x, y]) w :=
  run_loadVar_mid w g 0 44 [x, y] _ (fun j v hv => by rw [Nat.zero_add, cell_of_row _ _ _ _ t _ h]; simpa using hv) Tryd.underlying44 rfl (by kernel_rfl)
theorem sk_sty {W : World} {b1 b3 b4 b5 g1 g2 : Nat}
    (h1 : W.heap[b1]? = some (.cells #[.slice (some ⟨g1, 0, none⟩) 1 1, .slice (some ⟨g2, 0, none⟩) 1 1, .slice none 0 0, .slice none 0 0, .slice none 0 0, .slice none 0 0, .slice none 0 0, .slice none 0 0] 52 (0, 0)))
    (h3 : W.heap[b3]? = some (.cells #[.bool false, .int .i64 0, .int .i64 (-1), .int .i64 0, .bool true, .int .i64 1, .int .i64 0, .int .i64 0] 84 (0, 0)))
    (h4 : W.heap[b4]? = some (.cells #[.bool false, .int .i64 1, .int .i64 (-1), .int .i64 0, .bool true, .int .i64 0, .int .i64 0, .int .i64 0] 84 (0, 0)))
    (h5 : W.heap[b5]? = some (.cells #[.slice (some ⟨b3, 0, none⟩) 2 2, .bool true, .slice (some ⟨b4, 0, none⟩) 2 2, .bool true] 95 (0, 0)))
    (k1 : W.heap[g1]? = some (.cells #[.int .i64 1] 3 (0, 0))) (k2 : W.heap[g2]? = some (.cells #[.int .i64 0] 3 (0, 0))) :
    StyQ W (some ⟨b5, 0, none⟩) 2 (some ⟨b1, 0, none⟩) 8 skS := by
  have lt : ∀ {b : Nat} {o : Obj}, W.heap[b]? = some o → b < W.heap.size := fun h => (Array.getElem?_eq_some_iff.1 h).1
  have m : ∀ n, n ≤ 8 → n ≤ maxLen := fun n hn => by unfold maxLen; omega
  refine ⟨.inr ⟨b5, 0, rfl, lt h5, fun k hk => ?_⟩, Nat.le_refl _, m _ (by decide), .inr ⟨b1, 0, rfl, lt h1, fun k hk => ?_⟩, Nat.le_refl _, m _ (by decide)⟩
  · rcases k with _ | _ | k
    · refine ⟨some ⟨b3, 0, none⟩, 2, cell_of_row _ _ _ _ 95 _ h5, Nat.le_refl _, m 2 (by omega), .inr ⟨b3, 0, rfl, lt h3, fun j hj => ?_⟩, cell_of_row _ _ _ _ 95 _ h5⟩
      rcases j with _ | _ | j
      · exact ⟨cell_of_row _ _ _ _ 84 _ h3, cell_of_row _ _ _ _ 84 _ h3, cell_of_row _ _ _ _ 84 _ h3, cell_of_row _ _ _ _ 84 _ h3⟩
      · exact ⟨cell_of_row _ _ _ _ 84 _ h3, cell_of_row _ _ _ _ 84 _ h3, cell_of_row _ _ _ _ 84 _ h3, cell_of_row _ _ _ _ 84 _ h3⟩
      · simp [skS] at hj
        omega
    · refine ⟨some ⟨b4, 0, none⟩, 2, cell_of_row _ _ _ _ 95 _ h5, Nat.le_refl _, m 2 (by omega), .inr ⟨b4, 0, rfl, lt h4, fun j hj => ?_⟩, cell_of_row _ _ _ _ 95 _ h5⟩
      rcases j with _ | _ | j
      · exact ⟨cell_of_row _ _ _ _ 84 _ h4, cell_of_row _ _ _ _ 84 _ h4, cell_of_row _ _ _ _ 84 _ h4, cell_of_row _ _ _ _ 84 _ h4⟩
      · exact ⟨cell_of_row _ _ _ _ 84 _ h4, cell_of_row _ _ _ _ 84 _ h4, cell_of_row _ _ _ _ 84 _ h4, cell_of_row _ _ _ _ 84 _ h4⟩
      · simp [skS] at hj
        omega
    · simp [skS] at hk
      omega
  · have no : ∀ k, 2 ≤ k → k < 8 → IRowAt W b1 (0 + k) [] := fun k h2 h8 => ⟨none, 0, by
      rw [cell_of_row _ _ _ _ 52 _ h1]
      obtain rfl | rfl | rfl | rfl | rfl | rfl : k = 2 ∨ k = 3 ∨ k = 4 ∨ k = 5 ∨ k = 6 ∨ k = 7 := by omega
      all_goals rfl, Nat.le_refl _, Nat.zero_le _, .inl rfl⟩
    rcases k with _ | _ | _ | _ | _ | _ | _ | _ | k
    · refine ⟨some ⟨g1, 0, none⟩, 1, cell_of_row _ _ _ _ 52 _ h1, Nat.le_refl _, m 1 (by omega), .inr ⟨g1, 0, rfl, lt k1, fun j hj => ?_⟩⟩
      obtain rfl : j = 0 := by simp [skS] at hj; omega
      exact cell_of_row _ _ _ _ 3 _ k1
    · refine ⟨some ⟨g2, 0, none⟩, 1, cell_of_row _ _ _ _ 52 _ h1, Nat.le_refl _, m 1 (by omega), .inr ⟨g2, 0, rfl, lt k2, fun j hj => ?_⟩⟩
      obtain rfl : j = 0 := by simp [skS] at hj; omega
      exact cell_of_row _ _ _ _ 3 _ k2
    · exact no 2 (by omega) (by omega)
    · exact no 3 (by omega) (by omega)
    · exact no 4 (by omega) (by omega)
    · exact no 5 (by omega) (by omega)
    · exact no 6 (by omega) (by omega)
    · exact no 7 (by omega) (by omega)
    · simp [skS] at hk
      omega

set_option maxRecDepth 100000 in
set_option maxHeartbeats 2000000 in
theorem skews_any (w : World) : Calls Tryd.prog 72 #[] w fun e w' => SkTold w e w' := by
  have hmk : (Instr.makeSlice 42 (.int .i64 8) (.int .i64 8)).run Tryd.prog (w.alloc (.cells #[.slice none 0 0, .slice none 0 0] 44)) = .ok (.slice (some ⟨w.heap.size + 1, 0, none⟩) 8 8) ((w.alloc (.cells #[.slice none 0 0, .slice none 0 0] 44)).alloc (.cells #[.slice none 0 0, .slice none 0 0, .slice none 0 0, .slice none 0 0, .slice none 0 0, .slice none 0 0, .slice none 0 0, .slice none 0 0] 52)) := by
    have := made_lists (w.alloc (.cells #[.slice none 0 0, .slice none 0 0] 44)) 8 (by omega)
    rw [World.size_alloc, show madeCells #[Value.slice none 0 0] 8 = #[.slice none 0 0, .slice none 0 0, .slice none 0 0, .slice none 0 0, .slice none 0 0, .slice none 0 0, .slice none 0 0, .slice none 0 0] by kernel_rfl] at this
    exact this
  go_enter Tryd.func72, Tryd.ntmps72
  go_wp2
  go_region
  all_goals go_wp2
  all_goals obtain ⟨k0, k1, k3, k4, k5, k6, k7⟩ := chain8 w _ _ _ _ _ _ _ _
  all_goals refine bodyPost_ret (results_one rfl _ _ w.heap.size _ rfl (two_load (t := 44) k0)) rfl ?_
  all_goals first
    | exact ⟨_, 2, _, 8, rfl, sk_sty k1 k3 k4 k5 k6 k7, (belA (belA (belA (belA (belA (belA (belA (belA (Below.refl _ _) _) _) _) _) _) _) _) _).drew⟩
    | exact ⟨_, 2, _, 8, rfl, sk_sty k1 k3 k4 k5 k7 k6, (belA (belA (belA (belA (belA (belA (belA (belA (Below.refl _ _) _) _) _) _) _) _) _) _).drew⟩
end Go.Proofs.YtaopigjhdkdklaaDoor

namespace Go.Proofs.YtaopigjhdkdklaaDoor
open Go.RowKit

theorem sk_flt : fltI skS = 0 := by kernel_rfl
theorem sk_any : fndB skS 5 = true := by kernel_rfl
theorem sk_single : fndB skS 4 = false := by kernel_rfl
theorem sk_round : fndB skS 3 = false := by kernel_rfl
theorem sk_lvl : lvlI skS = 2 := by kernel_rfl

set_option maxRecDepth 100000 in
set_option maxHeartbeats 1000000 in
theorem isolates_any (w : World) : Calls Tryd.prog 50 #[] w fun e w' => e = .returned (.bool true) ∧ Below w.heap.size w w' := by
  go_enter Tryd.func50, Tryd.ntmps50
  go_wp2_with fail
  refine (skews_any w).mono ?_
  rintro e w1 ⟨a, ca, b, cb, rfl, hs, hb1⟩
  have HB := hideIt hb1
  have HF := hideIt (finds_any skS a b ca cb w1 hs)
  unfold FinTold at HF
  rw [sk_flt, show toldV 0 = .nilIface from rfl] at HF
  clear hb1 hs
  go_wp2_with fail
  refine HF.out.mono ?_
  rintro e w2 ⟨v, rfl, hY, _, hb2⟩
  obtain ⟨B, rfl, hB⟩ := hY trivial
  replace HB := hideIt (belJ HB.out hb2)
  clear HF hY hb2
  go_wp2_with fail
  refine (skews_any w2).mono ?_
  rintro e w3 ⟨a1, ca1, b1, cb1, rfl, hs, hb3⟩
  have HL := hideIt (level_any skS a1 b1 ca1 cb1 w3 hs)
  unfold LevTold at HL
  rw [sk_flt, if_pos rfl, sk_lvl, show toldV 0 = .nilIface from rfl] at HL
  replace hB := hB.below hb3 hB.lt
  replace HB := hideIt (belJ HB.out hb3)
  clear hb3 hs
  go_wp2_with fail
  refine HL.out.mono ?_
  rintro e w4 ⟨rfl, hb4⟩
  replace hB := hB.below hb4 hB.lt
  replace HB := hideIt (belJ HB.out hb4)
  have c3 := hB.bit 3 (by omega)
  have c4 := hB.bit 4 (by omega)
  have c5 := hB.bit 5 (by omega)
  rw [sk_round] at c3
  rw [sk_single] at c4
  rw [sk_any] at c5
  clear HL hb4 hB
  go_wp2
  go_ret
  exact ⟨rfl, HB.out⟩
end Go.Proofs.YtaopigjhdkdklaaDoor
