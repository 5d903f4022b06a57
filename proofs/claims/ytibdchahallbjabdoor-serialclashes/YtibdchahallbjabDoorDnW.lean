/-
  The document's commits and Done, walked.
-/
import Derived.Test.YtibdchahallbjabDoorStS
namespace Go.Proofs.YtibdchahallbjabDoor
open Go.RowKit

/-- Whether a transaction commits. -/
def commB (l : List Stp) (t : Int) : Bool := decide (0 ≤ t) && decide (t < 8) && l.any fun s => s.p == t && s.k == 3
def doneB (l : List Stp) (s : Stp) : Bool := decide (s.k < 3) && commB l s.p
/-- The steps of those that commit. -/
def doneL (l : List Stp) : List Stp := l.filter (doneB l)

set_option maxRecDepth 100000 in
set_option maxHeartbeats 1000000 in
theorem commits_any (l : List Stp) (a : Option Addr) (cap : Nat) (t : Int) (w : World) (hn : l.length ≤ 100) (hl : StpsQ w a l) :
    Calls Tryd.prog 27 #[.slice a l.length cap, .int .i64 t] w fun e w' => e = .returned (.bool (commB l t)) ∧ Below w.heap.size w w' := by
  have HL := hideIt hl
  clear hl
  go_enter Tryd.func27, Tryd.ntmps27
  go_wp2
  go_loopw [9] (fun v wr => ∃ k : Nat, k ≤ l.length ∧ v = .int .i64 k ∧ (∀ j (h : j < l.length), j < k → ((decide (0 ≤ t) && decide (t < 8)) && (l[j].p == t && l[j].k == 3)) = false) ∧ Below w.heap.size w wr) (fun v _ => l.length - (intOf v).toNat)
  case atStart => exact ⟨0, Nat.zero_le _, rfl, fun j _ hj => absurd hj (by omega), Below.refl _ _⟩
  case round =>
    obtain ⟨k, hk, rfl, hno, hb⟩ := hrel
    have HNo := hideIt hno
    have HB := hideIt hb
    clear hno hb
    by_cases hkl : k < l.length
    · obtain ⟨b, off, rfl, hlt, hst⟩ : ∃ b off, a = some ⟨b, off, none⟩ ∧ b < w.heap.size ∧ StpsAt w b off l := by
        rcases HL.out with h | h
        · subst h; simp at hkl
        · exact h
      obtain ⟨c0, c1, c2⟩ := (hst k hkl).below hlt HB.out
      have hkl' : (k : Int) < l.length := by omega
      have HB2 : Hid (Below w.heap.size w (wr.alloc (.cells #[.int .i64 l[k].p, .int .i64 l[k].k, .int .i64 l[k].m] 62))) := belA HB.out _
      have R1 : Hid (((decide (0 ≤ t) && decide (t < 8)) && (l[k].p == t && l[k].k == 3)) = false → ∀ j (h : j < l.length), j < k + 1 → ((decide (0 ≤ t) && decide (t < 8)) && (l[j].p == t && l[j].k == 3)) = false) := fun hx j h hj => by
        by_cases e : j = k
        · subst e; exact hx
        · exact HNo.out j h (by omega)
      have R2 : Hid (((decide (0 ≤ t) && decide (t < 8)) && (l[k].p == t && l[k].k == 3)) = true → commB l t = true) := fun hx => by
        unfold commB
        rw [Bool.and_eq_true] at hx ⊢
        exact ⟨hx.1, List.any_eq_true.2 ⟨l[k], List.getElem_mem hkl, hx.2⟩⟩
      generalize l[k].p = xp at c0 HB2 R1 R2
      generalize l[k].k = xk at c1 HB2 R1 R2
      generalize l[k].m = xm at c2 HB2
      clear hst HL HB
      by_cases g1 : xp = t
      · have d1 : (xp == t) = true := by simp [g1]
        by_cases g2 : xk = 3
        · have d2 : (xk == 3) = true := by simp [g2]
          by_cases g3 : 0 ≤ t
          · by_cases g4 : t < 8
            · have HF := hideIt (R2.out (by rw [d1, d2]; simp [g3, g4]))
              clear g1 g2
              go_wp2
              go_ret
              exact ⟨ret_bool HF.out.symm, HB2.out⟩
            · have HF := hideIt (R1.out (by rw [d1, d2]; simp; omega))
              clear g1 g2
              go_wp2
              go_roundw
              case rel => exact ⟨k + 1, by omega, by go_num, HF.out, HB2.out⟩
              case measure => simp [intOf]; omega
          · have HF := hideIt (R1.out (by rw [d1, d2]; simp; omega))
            clear g1 g2
            go_wp2
            go_roundw
            case rel => exact ⟨k + 1, by omega, by go_num, HF.out, HB2.out⟩
            case measure => simp [intOf]; omega
        · have d2 : (xk == 3) = false := by simp [g2]
          have HF := hideIt (R1.out (by rw [d1, d2]; simp))
          clear g1 g2
          go_wp2
          go_roundw
          case rel => exact ⟨k + 1, by omega, by go_num, HF.out, HB2.out⟩
          case measure => simp [intOf]; omega
      · have d1 : (xp == t) = false := by simp [g1]
        have HF := hideIt (R1.out (by rw [d1]; simp))
        clear g1
        go_wp2
        go_roundw
        case rel => exact ⟨k + 1, by omega, by go_num, HF.out, HB2.out⟩
        case measure => simp [intOf]; omega
    · have HF : Hid (commB l t = false) := by
        show commB l t = false
        cases hc : commB l t
        · rfl
        · unfold commB at hc
          rw [Bool.and_eq_true, List.any_eq_true] at hc
          obtain ⟨h1, s, hs, h2⟩ := hc
          obtain ⟨j, hj, e⟩ := List.getElem_of_mem hs
          have := HNo.out j hj (by omega)
          rw [e, h1, h2] at this
          cases this
      obtain rfl : k = l.length := by omega
      go_wp2
      go_ret
      exact ⟨ret_bool HF.out.symm, HB.out⟩

theorem filter_take {p : Stp → Bool} {l : List Stp} {k : Nat} (h : k < l.length) : (l.take (k + 1)).filter p = (l.take k).filter p ++ (if p l[k] then [l[k]] else []) := by
  rw [List.take_succ_eq_append_getElem h, List.filter_append]
  congr 1
  simp [List.filter_cons]

set_option maxRecDepth 100000 in
set_option maxHeartbeats 2000000 in
theorem rDone_any (l : List Stp) (a : Option Addr) (cap : Nat) (w : World) (hn : l.length ≤ 100) (hl : StpsQ w a l) :
    Calls Tryd.prog 32 #[.slice a l.length cap] w fun e w' => ∃ v, e = .returned v ∧ w'.ownsRow w.heap.size 62 3 v (doneL l).length (stpC (doneL l)) ∧ Below w.heap.size w w' := by
  have HL := hideIt hl
  clear hl
  go_enter Tryd.func32, Tryd.ntmps32
  go_wp2
  go_loopw [3, 8] (fun v c wr => ∃ k : Nat, k ≤ l.length ∧ c = .int .i64 k ∧ wr.ownsRow w.heap.size 62 3 v ((l.take k).filter (doneB l)).length (stpC ((l.take k).filter (doneB l))) ∧ Below w.heap.size w wr) (fun _ c _ => l.length - (intOf c).toNat)
  case atStart => exact ⟨0, Nat.zero_le _, rfl, World.ownsRow_nil _ _ _ _, Below.refl _ _⟩
  case round =>
    obtain ⟨k, hk, rfl, ho, hb⟩ := hrel
    have HO := hideIt ho
    have HB := hideIt hb
    obtain ⟨va, vc, hv⟩ := ownsRow_slice ho
    subst hv
    clear ho hb
    by_cases hkl : k < l.length
    · obtain ⟨b, off, ea, hlt, hst⟩ : ∃ b off, a = some ⟨b, off, none⟩ ∧ b < w.heap.size ∧ StpsAt w b off l := by
        rcases HL.out with h | h
        · subst h; simp at hkl
        · exact h
      obtain ⟨c0, c1, c2⟩ := (hst k hkl).below hlt HB.out
      have hkl' : (k : Int) < l.length := by omega
      have HX := hideIt (filter_take (p := doneB l) hkl)
      have HDb : Hid (doneB l l[k] = (decide (l[k].k < 3) && commB l l[k].p)) := rfl
      have hbl : b < wr.heap.size := Nat.lt_of_lt_of_le hlt HB.out.size
      generalize l[k] = x at c0 c1 c2 HX HDb
      have hx1 : ¬ b = wr.heap.size := by omega
      have hx2 : ¬ wr.heap.size = b := by omega
      have hfl : ((l.take k).filter (doneB l)).length ≤ 100 := Nat.le_trans (List.length_filter_le _ _) (by rw [List.length_take]; omega)
      have HB1 : Hid (Below w.heap.size w (wr.alloc (.cells #[.int .i64 x.p, .int .i64 x.k, .int .i64 x.m] 62))) := belA HB.out _
      have HO1 : Hid ((wr.alloc (.cells #[.int .i64 x.p, .int .i64 x.k, .int .i64 x.m] 62)).ownsRow w.heap.size 62 3 (.slice va ((l.take k).filter (doneB l)).length vc) ((l.take k).filter (doneB l)).length (stpC ((l.take k).filter (doneB l)))) := ownsRow_same HO.out fun b' hb' => Below.heap_alloc _ _ _ (ownsRow_block HO.out b' hb').2.1
      have HS1 : Hid (StpAt (wr.alloc (.cells #[.int .i64 x.p, .int .i64 x.k, .int .i64 x.m] 62)) wr.heap.size 0 x) := by
        have e := heap_alloc_new wr (.cells #[.int .i64 x.p, .int .i64 x.k, .int .i64 x.m] 62)
        exact ⟨cell_of_row _ _ _ _ 62 (0, 0) e, cell_of_row _ _ _ _ 62 (0, 0) e, cell_of_row _ _ _ _ 62 (0, 0) e⟩
      have HCm := hideIt (commits_any l a cap x.p (wr.alloc (.cells #[.int .i64 x.p, .int .i64 x.k, .int .i64 x.m] 62)) hn (HL.out.below HB1.out))
      have HLen : Hid (wr.heap.size < (wr.alloc (.cells #[.int .i64 x.p, .int .i64 x.k, .int .i64 x.m] 62)).heap.size) := by simp [Hid]
      rw [ea] at HCm
      subst ea
      generalize (l.take k).filter (doneB l) = L at HO HO1 HX hfl ⊢
      clear hst HL HO
      by_cases hk3 : x.k < 3
      · rw [show decide (x.k < 3) = true by simp [hk3], Bool.true_and] at HDb
        obtain ⟨cb, hcb⟩ : ∃ cb, commB l x.p = cb := ⟨_, rfl⟩
        rw [hcb] at HDb HCm
        clear hcb
        cases cb
        · have HX2 : Hid ((l.take (k + 1)).filter (doneB l) = L) := by
            show _ = L
            rw [HX.out, HDb.out]; simp
          go_wp2_with fail
          refine HCm.out.mono ?_
          rintro e w1 ⟨rfl, hb1⟩
          have HO2 : Hid (w1.ownsRow w.heap.size 62 3 (.slice va L.length vc) L.length (stpC L)) := ownsRow_same HO1.out fun b' hb' => hb1.block b' (ownsRow_block HO1.out b' hb').2.1
          have HB2 := hideIt (belJ HB1.out hb1)
          clear hb1
          go_wp2
          go_roundw
          case rel => exact ⟨k + 1, by omega, by go_num, by rw [HX2.out]; exact HO2.out, HB2.out⟩
          case measure => simp [intOf]; omega
        · have HX2 : Hid ((l.take (k + 1)).filter (doneB l) = L ++ [x]) := by
            show _ = L ++ [x]
            rw [HX.out, HDb.out]; simp
          go_wp2_with fail
          refine HCm.out.mono ?_
          rintro e w1 ⟨rfl, hb1⟩
          have hO2 : w1.ownsRow w.heap.size 62 3 (.slice va L.length vc) L.length (stpC L) := ownsRow_same HO1.out fun b' hb' => hb1.block b' (ownsRow_block HO1.out b' hb').2.1
          have hB2 := belJ HB1.out hb1
          have hS2 := HS1.out.below HLen.out hb1
          obtain ⟨y0, y1, y2⟩ := hS2
          rw [Nat.zero_add] at y1 y2
          have hO3 : (w1.alloc (.cells #[.int .i64 x.p, .int .i64 x.k, .int .i64 x.m] 62)).ownsRow w.heap.size 62 3 (.slice va L.length vc) L.length (stpC L) := ownsRow_same hO2 fun b' hb' => Below.heap_alloc _ _ _ (ownsRow_block hO2 b' hb').2.1
          have hSA : StpAt (w1.alloc (.cells #[.int .i64 x.p, .int .i64 x.k, .int .i64 x.m] 62)) w1.heap.size 0 x := by
            have e := heap_alloc_new w1 (.cells #[.int .i64 x.p, .int .i64 x.k, .int .i64 x.m] 62)
            exact ⟨cell_of_row _ _ _ _ 62 (0, 0) e, cell_of_row _ _ _ _ 62 (0, 0) e, cell_of_row _ _ _ _ 62 (0, 0) e⟩
          obtain ⟨n1, w6, hr6, ho6, hg6, hob6⟩ := run_appS hO3 hSA (by have := hB2.size; simp; omega) (by omega) 23
          have HB6 : Hid (Below w.heap.size w w6) := (belA hB2 _).grown hg6 (by have := hB2.size; simp; omega) (fun b' hb' => (ownsRow_block hO3 b' hb').1)
          obtain ⟨na, nc, hn1⟩ := ownsRow_slice ho6
          have HO6 : Hid (w6.ownsRow w.heap.size 62 3 n1 (L ++ [x]).length (stpC (L ++ [x]))) := by
            rw [List.length_append]; exact ho6
          have HR6 := hideIt hr6
          clear hO2 hB2 hO3 hSA ho6 hg6 hob6 hr6 hb1
          subst hn1
          go_wp2_with (at_builtin; refine wpList_append_run _ rfl _ _ 23 rfl _ _ _ w6 rfl rfl HR6.out ?_)
          go_roundw
          case rel => exact ⟨k + 1, by omega, by go_num, by rw [HX2.out]; exact HO6.out, HB6.out⟩
          case measure => simp [intOf]; omega
      · have HX2 : Hid ((l.take (k + 1)).filter (doneB l) = L) := by
          show _ = L
          rw [HX.out, HDb.out, show decide (x.k < 3) = false by simp; omega]; simp
        go_wp2
        go_roundw
        case rel => exact ⟨k + 1, by omega, by go_num, by rw [HX2.out]; exact HO1.out, HB1.out⟩
        case measure => simp [intOf]; omega
    · obtain rfl : k = l.length := by omega
      rw [List.take_length] at HO ⊢
      go_wp2
      go_ret
      exact ⟨_, rfl, HO.out, HB.out⟩
end Go.Proofs.YtibdchahallbjabDoor
