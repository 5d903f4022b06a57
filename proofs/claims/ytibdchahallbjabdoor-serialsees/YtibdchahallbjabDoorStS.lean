/-
  Steps of transactions in memory; the statements' own copy of them, walked.
-/
import Derived.Test.YtibdchahallbjabDoorSmBZ
import Derived.Deep.RegionHeld3
import Derived.Deep.RegionLaw
namespace Go.Proofs.YtibdchahallbjabDoor
open Go.RowKit

/-- A step: its transaction, its kind, its key. -/
structure Stp where
  p : Int
  k : Int
  m : Int
def stZ (l : List Stp) (i : Nat) : Stp := l.getD i ⟨0, 0, 0⟩
def Stp.agg (s : Stp) : Value := .agg #[.int .i64 s.p, .int .i64 s.k, .int .i64 s.m]
/-- A step in memory. -/
def StpAt (w : World) (b off : Nat) (s : Stp) : Prop := w.cell? ⟨b, off, none⟩ = some (.int .i64 s.p) ∧ w.cell? ⟨b, off + 1, none⟩ = some (.int .i64 s.k) ∧ w.cell? ⟨b, off + 2, none⟩ = some (.int .i64 s.m)
def StpsAt (w : World) (b off : Nat) (l : List Stp) : Prop := ∀ k (h : k < l.length), StpAt w b (off + k * 3) l[k]
theorem StpAt.below {B : Nat} {w w' : World} {b off : Nat} {s : Stp} (h : StpAt w b off s) (hb : b < B) (hw : Below B w w') : StpAt w' b off s :=
  ⟨(hw.cell (p := ⟨b, off, none⟩) hb).trans h.1, (hw.cell (p := ⟨b, off + 1, none⟩) hb).trans h.2.1, (hw.cell (p := ⟨b, off + 2, none⟩) hb).trans h.2.2⟩
theorem StpsAt.below {B : Nat} {w w' : World} {b off : Nat} {l : List Stp} (h : StpsAt w b off l) (hb : b < B) (hw : Below B w w') : StpsAt w' b off l := fun k hk => (h k hk).below hb hw
/-- Steps that came in: none, or in memory. -/
def StpsQ (w : World) (a : Option Addr) (l : List Stp) : Prop := l = [] ∨ ∃ b off, a = some ⟨b, off, none⟩ ∧ b < w.heap.size ∧ StpsAt w b off l
theorem StpsQ.below {w w' : World} {a : Option Addr} {l : List Stp} (h : StpsQ w a l) (hw : Below w.heap.size w w') : StpsQ w' a l := by
  rcases h with h | ⟨b, off, rfl, hb, h⟩
  · exact .inl h
  · exact .inr ⟨b, off, rfl, Nat.lt_of_lt_of_le hb hw.size, h.below hb hw⟩
theorem stZ_at {l : List Stp} {k : Nat} (h : k < l.length) : stZ l k = l[k] := by
  unfold stZ
  simp [List.getD, h]

def stpC (l : List Stp) : List Value := l.flatMap fun s => [.int .i64 s.p, .int .i64 s.k, .int .i64 s.m]
theorem stpC_app (l : List Stp) (s : Stp) : stpC (l ++ [s]) = stpC l ++ [.int .i64 s.p, .int .i64 s.k, .int .i64 s.m] := by simp [stpC]
theorem stpC_len : ∀ l : List Stp, (stpC l).length = l.length * 3
  | [] => rfl
  | s :: l => by
    have := stpC_len l
    unfold stpC at this ⊢
    rw [List.flatMap_cons, List.length_append, this]
    simp; omega
theorem stpC_at : ∀ (l : List Stp) (k j : Nat) (hk : k < l.length), j < 3 → (stpC l)[k * 3 + j]? = [Value.int .i64 l[k].p, .int .i64 l[k].k, .int .i64 l[k].m][j]?
  | [], k, _, hk, _ => absurd hk (by simp)
  | s :: l, 0, j, _, hj => by
    show ([Value.int .i64 s.p, .int .i64 s.k, .int .i64 s.m] ++ stpC l)[0 * 3 + j]? = _
    rw [List.getElem?_append_left (by simp; omega)]
    simp
  | s :: l, k + 1, j, hk, hj => by
    show ([Value.int .i64 s.p, .int .i64 s.k, .int .i64 s.m] ++ stpC l)[(k + 1) * 3 + j]? = _
    rw [List.getElem?_append_right (by simp; omega)]
    have := stpC_at l k j (by simpa using hk) hj
    rw [show (k + 1) * 3 + j - [Value.int .i64 s.p, .int .i64 s.k, .int .i64 s.m].length = k * 3 + j by simp; omega, this]
    simp
theorem info67 : (Tryd.prog.info? 62).map (fun i => (i.zero, i.size, i.bytes)) = some (some (.agg #[.int .i64 0, .int .i64 0, .int .i64 0]), 3, 24) := by kernel_rfl
theorem run_appS {w : World} {base B : Nat} {v : Value} {n : Nat} {L : List Stp} {s : Stp} (hown : w.ownsRow base 62 3 v n (stpC L)) (hB : StpAt w B 0 s) (hb : base ≤ w.heap.size) (hlen : n ≤ 1000) (ty : TypeId) :
    ∃ v' w', (Builtin.append_ #[23, 23] ty #[v, .slice (some ⟨B, 0, none⟩) 1 1]).run Tryd.prog w = .ok v' w' ∧ w'.ownsRow base 62 3 v' (n + 1) (stpC (L ++ [s])) ∧ w.grownBy w' v.ownBlock ∧ (v'.ownBlock = v.ownBlock ∨ v'.ownBlock = some w.heap.size) := by
  obtain ⟨i, hi, hz, hsz, hby⟩ := info_parts' info67
  have hnews : ∀ j u, [Value.int .i64 s.p, .int .i64 s.k, .int .i64 s.m][j]? = some u → w.cell? ((⟨B, 0, none⟩ : Addr).add j) = some u := by
    intro j u hj
    rw [Addr.add_mid, Nat.zero_add]
    match j, hj with
    | 0, hj => simp at hj; subst hj; exact hB.1
    | 1, hj => simp at hj; subst hj; exact hB.2.1
    | 2, hj => simp at hj; subst hj; exact hB.2.2
  obtain ⟨v', w', hr, ho, hg, _, hob⟩ := run_append_own_at (P := Tryd.prog) (w := w) base 23 ty 62 i _ 3 24 Tryd.underlying23 hi hz hsz hby rfl (by decide) v _ _ hown ⟨B, 0, none⟩ 1 1 [.int .i64 s.p, .int .i64 s.k, .int .i64 s.m] rfl hnews (by simp [Value.oneCell']) (by unfold maxLen; omega) (by omega) hb
  exact ⟨v', w', hr, by rw [stpC_app]; exact ho, hg, hob⟩
theorem stpsQ_own {w : World} {base : Nat} {v : Value} {l : List Stp} (h : w.ownsRow base 62 3 v l.length (stpC l)) : ∃ a cap, v = .slice a l.length cap ∧ l.length ≤ cap ∧ StpsQ w a l := by
  obtain ⟨hl, ⟨rfl, h0⟩ | ⟨g, cap, cur, rfl, hb, hh, h1, h2, h3, h4⟩⟩ := h
  · have : l = [] := List.eq_nil_of_length_eq_zero h0
    subst this
    exact ⟨none, 0, rfl, Nat.le_refl _, .inl rfl⟩
  · refine ⟨_, cap, rfl, h1, .inr ⟨g, 0, rfl, lt_of_heap hh, fun k hk => ?_⟩⟩
    have hc : ∀ j, j < 3 → w.cell? ⟨g, 0 + k * 3 + j, none⟩ = [Value.int .i64 l[k].p, .int .i64 l[k].k, .int .i64 l[k].m][j]? := fun j hj => by
      rw [cell_of_row _ _ _ _ 62 _ hh, Nat.zero_add, ← stpC_at l k j hk hj]
      have e : (cur.toList.take (l.length * 3))[k * 3 + j]? = (stpC l)[k * 3 + j]? := by rw [h4]
      rw [List.getElem?_take_of_lt (by omega), Array.getElem?_toList] at e
      exact e
    exact ⟨hc 0 (by omega), hc 1 (by omega), hc 2 (by omega)⟩

set_option maxRecDepth 100000 in
set_option maxHeartbeats 4000000 in
theorem mixed_any (l : List Stp) (a : Option Addr) (cap : Nat) (w : World) (hlen : l.length ≤ 100) (hl : StpsQ w a l) :
    Calls Tryd.prog 9 #[.slice a l.length cap] w fun e w' => ∃ a' cap', e = .returned (.slice a' l.length cap') ∧ l.length ≤ cap' ∧ StpsQ w' a' l ∧ Below w.heap.size w w' := by
  have HL := hideIt hl
  clear hl
  go_enter Tryd.func9, Tryd.ntmps9
  go_wp2
  go_loopw [3, 4] (fun v i wr => ∃ k : Nat, k ≤ l.length ∧ i = .int .i64 k ∧ wr.ownsRow w.heap.size 62 3 v k (stpC (l.take k)) ∧ Below w.heap.size w wr) (fun _ i _ => l.length - (intOf i).toNat)
  case atStart => exact ⟨0, Nat.zero_le _, rfl, World.ownsRow_nil _ _ _ _, Below.refl _ _⟩
  case round =>
    obtain ⟨k, hk, rfl, ho, hb⟩ := hrel
    have HO := hideIt ho
    have HB := hideIt hb
    obtain ⟨va, vc, hv⟩ := ownsRow_slice ho
    subst hv
    clear ho hb
    by_cases hkl : k < l.length
    · obtain ⟨b, off, rfl, hlt, hst⟩ : ∃ b off, a = some ⟨b, off, none⟩ ∧ b < w.heap.size ∧ StpsAt w b off l := by
        rcases HL.out with h | h
        · subst h; simp at hkl
        · exact h
      obtain ⟨c0, c1, c2⟩ := (hst k hkl).below hlt HB.out
      have HX : Hid (l.take (k + 1) = l.take k ++ [l[k]]) := List.take_succ_eq_append_getElem hkl
      generalize l[k] = x at c0 c1 c2 HX
      clear hst HL
      have hbl : b < wr.heap.size := Nat.lt_of_lt_of_le hlt HB.out.size
      have hOA : (wr.alloc (.cells #[.int .i64 x.p, .int .i64 x.k, .int .i64 x.m] 62)).drew.ownsRow w.heap.size 62 3 (.slice va k vc) k (stpC (l.take k)) := ownsRow_same HO.out fun b' hb' => Below.heap_alloc _ _ _ (ownsRow_block HO.out b' hb').2.1
      have hs3 : (wr.alloc (.cells #[.int .i64 x.p, .int .i64 x.k, .int .i64 x.m] 62)).drew.heap.size = wr.heap.size + 1 := by
        show (wr.alloc (.cells #[.int .i64 x.p, .int .i64 x.k, .int .i64 x.m] 62)).heap.size = _
        simp
      have hSA : StpAt (wr.alloc (.cells #[.int .i64 x.p, .int .i64 x.k, .int .i64 x.m] 62)).drew wr.heap.size 0 x := by
        have e : (wr.alloc (.cells #[.int .i64 x.p, .int .i64 x.k, .int .i64 x.m] 62)).drew.heap[wr.heap.size]? = some (.cells #[.int .i64 x.p, .int .i64 x.k, .int .i64 x.m] 62 (0, 0)) := heap_alloc_new wr _
        exact ⟨cell_of_row _ _ _ _ 62 (0, 0) e, cell_of_row _ _ _ _ 62 (0, 0) e, cell_of_row _ _ _ _ 62 (0, 0) e⟩
      obtain ⟨n1, w6, hr6, ho6, hg6, hob6⟩ := run_appS hOA hSA (by rw [hs3]; have := HB.out.size; omega) (by omega) 23
      have hB6 : Below w.heap.size w w6 := (belA HB.out _).drew.grown hg6 (by rw [hs3]; have := HB.out.size; omega) (fun b' hb' => (ownsRow_block hOA b' hb').1)
      rw [← HX.out] at ho6
      obtain ⟨na, nc, hn1⟩ := ownsRow_slice ho6
      have HO6 := hideIt ho6
      have HB6 := hideIt hB6
      have HR6 := hideIt hr6
      clear hOA hs3 hSA ho6 hg6 hob6 hB6 hr6
      subst hn1
      have hx1 : ¬ b = wr.heap.size := by omega
      have hx2 : ¬ wr.heap.size = b := by omega
      go_wp2_with fail
      go_region_law (refine step_append_run (by rfl) _ _ 23 (by rfl) _ _ _ w6 (by rfl) (by rfl) HR6.out ?_)
      all_goals
        go_wp2
        go_roundw
        case rel => exact ⟨k + 1, by omega, by go_num, HO6.out, HB6.out⟩
        case measure => simp [intOf]; omega
    · obtain rfl : k = l.length := by omega
      rw [List.take_length] at HO
      go_wp2
      go_ret
      obtain ⟨a', cap', hv, hc, hq⟩ := stpsQ_own HO.out
      exact ⟨a', cap', congrArg Ending.returned hv, hc, hq, HB.out⟩
end Go.Proofs.YtibdchahallbjabDoor
