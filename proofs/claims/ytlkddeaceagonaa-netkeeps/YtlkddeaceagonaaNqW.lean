/-
  pick, and the statement NetQuorum, walked.
-/
import Derived.Test.YtlkddeaceagonaaLiW
import Derived.Test.YtlkddeaceagonaaMoW
namespace Go.Proofs.Ytlkddeaceagonaa
open Go.RowKit

def pickN (a : Int) (n : Nat) : Nat := (IntKind.u64.wrap a).toNat % n
set_option maxHeartbeats 1000000 in
theorem pick_is (a : Int) (n : Nat) (w : World) (h0 : 0 < n) (hn : n ≤ 1000000) : Calls Try.prog 5 #[.int .i64 a, .int .i64 n] w fun e w' => e = .returned (.int .i64 (pickN a n)) ∧ w' = w := by
  have e1 : IntKind.u64.wrap (n : Int) = (n : Int) := by rw [IntKind.wrap_u64]; omega
  have h64 : 0 ≤ IntKind.u64.wrap a := by rw [IntKind.wrap_u64]; omega
  obtain ⟨m, hm⟩ : ∃ m : Nat, IntKind.u64.wrap a = m := ⟨(IntKind.u64.wrap a).toNat, by omega⟩
  have HPN : Hid (pickN a n = m % n) := hideIt (by unfold pickN; rw [hm, Int.toNat_natCast])
  have hne : (n : Int) ≠ 0 := by omega
  have hne' : ((n : Int) == 0) = false := by simp; omega
  have HM : Hid (wrap64 ((m : Int) % (n : Int)) = ((m % n : Nat) : Int)) := hideIt (by
    have h2 : m % n < n := Nat.mod_lt _ h0
    have h3 : (m : Int) % (n : Int) = ((m % n : Nat) : Int) := by simp
    rw [h3]
    unfold wrap64
    omega)
  go_enter Try.func5, Try.ntmps5
  go_wp2
  go_ret
  exact ⟨ret_int (by rw [HPN.out]; exact HM.out), rfl⟩
theorem pick_any (a : Int) (n : Nat) (w : World) (h0 : 0 < n) (hn : n ≤ 1000000) : Calls Try.prog 5 #[.int .i64 a, .int .i64 n] w fun e w' => ∃ k : Nat, k < n ∧ e = .returned (.int .i64 k) ∧ w' = w :=
  (pick_is a n w h0 hn).mono fun _ _ ⟨he, hw⟩ => ⟨_, Nat.mod_lt _ h0, he, hw⟩


theorem most_tab {n : Nat} {r : Nat → Nat → Bool} {i : Nat} (hi : i < n) : mostB (tabL n r) (i : Int) = decide (n < 2 * (List.range n).countP (r i)) := by
  unfold mostB
  have hi' : i < (tabL n r).length := by rw [tabL_len]; exact hi
  rw [if_pos (by omega), Int.toNat_natCast, List.getElem?_eq_getElem hi', tabL_row hi', tabL_len]
  show decide (n < 2 * ((List.range n).map fun b => r i b).countP id) = _
  rw [List.countP_map]
  rfl
theorem tab_rows {n : Nat} {r : Nat → Nat → Bool} : ∀ x ∈ tabL n r, x.length = n := fun x hx => by
  obtain ⟨i, hi, rfl⟩ := List.getElem_of_mem hx
  exact tabL_row_len hi
/-- A table: where each row lies. -/
theorem tab_cells {w : World} {X : Nat → Prop} {lv : Value} {n : Nat} {r : Nat → Nat → Bool} (h0 : 0 < n) (h : LnkS w X lv (tabL n r)) : ∃ g off cap, lv = .slice (some ⟨g, off, none⟩) n cap ∧ ∀ i, i < n → ∃ rg ro rc, ∀ Z, Below w.heap.size w Z → Z.cell? ⟨g, off + i, none⟩ = some (.slice (some ⟨rg, ro, none⟩) n rc) ∧ ∀ j, j < n → Z.cell? ⟨rg, ro + j, none⟩ = some (.bool (r i j)) := by
  obtain ⟨g, off, cap, e, _⟩ := h.tab h0
  refine ⟨g, off, cap, e, fun i hi => ?_⟩
  obtain ⟨g', off', cap', e', rg, ro, rc, h1, h2⟩ := h.tab hi
  rw [e] at e'
  cases e'
  exact ⟨rg, ro, rc, fun Z hZ => ⟨(hZ.cell (p := ⟨g, off + i, none⟩) (World.block_lt_of_cell? w _ h1)).trans h1, fun j hj => (hZ.cell (p := ⟨rg, ro + j, none⟩) (World.block_lt_of_cell? w _ (h2 j hj))).trans (h2 j hj)⟩⟩
/-- What both talk to among the first k. -/
def bothN (r : Nat → Nat → Bool) (a b k : Nat) : Bool := (List.range k).any fun c => r a c && r b c
theorem bothN_succ (r : Nat → Nat → Bool) (a b k : Nat) : bothN r a b (k + 1) = (bothN r a b k || (r a k && r b k)) := by
  unfold bothN
  rw [List.range_succ, List.any_append]
  simp
theorem both_most {n : Nat} {r : Nat → Nat → Bool} {a b : Nat} (ha : decide (n < 2 * (List.range n).countP (r a)) = true) (hb : decide (n < 2 * (List.range n).countP (r b)) = true) : bothN r a b n = true := by
  obtain ⟨c, hc, h1, h2⟩ := most_meet (of_decide_eq_true ha) (of_decide_eq_true hb)
  unfold bothN
  rw [List.any_eq_true]
  exact ⟨c, List.mem_range.2 hc, by rw [h1, h2]; rfl⟩

set_option maxRecDepth 100000 in
set_option maxHeartbeats 8000000 in
theorem quorum_walk (what x who : Int) (w : World) : Calls Try.prog 3 #[.int .i64 what, .int .i64 x, .int .i64 who] w fun e w' => e = .returned (.bool true) ∧ Below w.heap.size w w' := by
  have HP7 := hideIt (pick_any x 7 w (by omega) (by omega))
  have HP5 := hideIt (pick_any what 5 w (by omega) (by omega))
  go_enter Try.func3, Try.ntmps3
  go_wp2_with fail
  refine HP7.out.mono ?_
  rintro e w1 ⟨p7, hp7, rfl, rfl⟩
  clear HP7
  have e1 : IntKind.i64.wrap (1 + (p7 : Int)) = ((1 + p7 : Nat) : Int) := (IntWalk.i64_in _ (by omega)).trans (by omega)
  have e2 : (1 : Int) + (p7 : Int) = ((1 + p7 : Nat) : Int) := by omega
  obtain ⟨n, hn⟩ : ∃ n : Nat, n = 1 + p7 := ⟨_, rfl⟩
  rw [← hn] at e1 e2
  have hn1 : 1 ≤ n ∧ n ≤ 7 := by omega
  have HPn := hideIt (pick_any who n w1 (by omega) (by omega))
  clear hn
  go_wp2_with fail
  refine HP5.out.mono ?_
  rintro e w2 ⟨p5, hp5, rfl, rfl⟩
  clear HP5
  have e3 : IntKind.i64.wrap (7 + (p5 : Int)) = 7 + (p5 : Int) := IntWalk.i64_in _ (by omega)
  clear e1 e2 hp7
  go_wp2_with fail
  refine HPn.out.mono ?_
  rintro e w3 ⟨p, hp, rfl, rfl⟩
  clear HPn
  have HL := hideIt (links_any (7 + (p5 : Int)) n p w3)
  go_wp2_with fail
  refine HL.out.mono ?_
  clear HL e3
  rintro e W (⟨h1, _⟩ | ⟨_, _, h1, _⟩ | ⟨n', h0, h1, _, lv, rfl, h3, hb⟩)
  · omega
  · omega
  obtain rfl : n = n' := by omega
  have HD : Hid (∀ i, linkN (ruleW (7 + (p5 : Int))) n p i i = true) := fun i => linked_refl _ _ _ _
  have HS : Hid (∀ i j, linkN (ruleW (7 + (p5 : Int))) n p i j = linkN (ruleW (7 + (p5 : Int))) n p j i) := fun i j => linked_symm _ _ _ _ _
  generalize linkN (ruleW (7 + (p5 : Int))) n p = r at *
  have HB := hideIt hb
  have HMo : Hid (∀ Z, Below W.heap.size W Z → ∀ i, i < n → Calls Try.prog 7 #[lv, .int .i64 (i : Int)] Z fun e w' => e = .returned (.bool (decide (n < 2 * (List.range n).countP (r i)))) ∧ w' = Z) := fun Z hZ i hi => by
    have := most_any (i : Int) lv _ (tabL n r) (by rw [tabL_len]; omega) (fun x hx => by rw [tab_rows x hx]; omega) Z (h3.below hZ (Nat.le_refl _))
    rwa [most_tab hi] at this
  obtain ⟨g, off, cap, rfl, hT⟩ := tab_cells (by omega) h3
  have HT := hideIt hT
  clear hT h3 hb
  go_wp2
  go_loopw [9] (fun v wr => ∃ a : Nat, a ≤ n ∧ v = .int .i64 a ∧ Below W.heap.size W wr) (fun v _ => n - (intOf v).toNat)
  case atStart => exact ⟨0, Nat.zero_le _, rfl, Below.refl _ _⟩
  case round =>
    obtain ⟨a, ha, rfl, hbr⟩ := hrel
    have HBr := hideIt hbr
    clear hbr
    by_cases han : a < n
    · have han' : (a : Int) < n := by omega
      obtain ⟨rg, ro, rc, hra⟩ := HT.out a han
      have HRa := hideIt hra
      clear hra
      have c0 := (HRa.out wr HBr.out).1
      have c1 := (HRa.out wr HBr.out).2 a han
      rw [HD.out a] at c1
      go_wp2
      clear c0 c1
      go_loopw [10] (fun v wr => ∃ b : Nat, b ≤ n ∧ v = .int .i64 b ∧ Below W.heap.size W wr) (fun v _ => n - (intOf v).toNat)
      case atStart => exact ⟨0, Nat.zero_le _, rfl, HBr.out⟩
      case round =>
        clear HBr
        obtain ⟨b, hbn, rfl, hbr⟩ := hrel
        have HBr := hideIt hbr
        clear hbr
        by_cases hbn' : b < n
        · have hbi : (b : Int) < n := by omega
          obtain ⟨sg, so, sc, hrb⟩ := HT.out b hbn'
          have HRb := hideIt hrb
          clear hrb
          have c0 := (HRa.out wr HBr.out).1
          have c1 := (HRa.out wr HBr.out).2 b hbn'
          have c2 := (HRb.out wr HBr.out).1
          have c3 := (HRb.out wr HBr.out).2 a han
          rw [← HS.out a b] at c3
          generalize r a b = rab at c1 c3
          go_wp2_with fail
          go_quiet (fail)
          go_wp2
          clear c0 c1 c2 c3
          generalize hV : wr.drewN _ = V
          have HBr2 : Hid (Below W.heap.size W V) := by rw [← hV]; exact below_drewN HBr.out _
          clear hV
          go_loopw [12, 11] (fun v bo wz => ∃ c : Nat, c ≤ n ∧ v = .int .i64 c ∧ bo = .bool (bothN r a b c) ∧ Below W.heap.size W wz) (fun v _ _ => n - (intOf v).toNat)
          case atStart => exact ⟨0, Nat.zero_le _, rfl, rfl, HBr2.out⟩
          case round =>
            clear HBr HBr2
            obtain ⟨c, hcn, rfl, rfl, hbz⟩ := hrel
            have HBz := hideIt hbz
            clear hbz
            by_cases hc : c < n
            · have hci : (c : Int) < n := by omega
              have c0 := (HRa.out wr HBz.out).1
              have c1 := (HRa.out wr HBz.out).2 c hc
              have c2 := (HRb.out wr HBz.out).1
              have c3 := (HRb.out wr HBz.out).2 c hc
              have HS1 := hideIt (bothN_succ r a b c)
              generalize bothN r a b c = bo at *
              generalize r a c = ra at *
              generalize r b c = rb at *
              cases bo <;> cases ra <;> cases rb
              all_goals (
                go_wp2
                go_roundw
                case rel => exact ⟨c + 1, by omega, by go_num, by rw [HS1.out]; rfl, HBz.out⟩
                case measure => simp [intOf]; omega)
            · obtain rfl : c = n := by omega
              have HM1 := hideIt (HMo.out wr HBz.out a han)
              have HM2 := hideIt (HMo.out wr HBz.out b hbn')
              have HBo := hideIt (both_most (n := c) (r := r) (a := a) (b := b))
              generalize decide (c < 2 * (List.range c).countP (r a)) = ma at *
              generalize decide (c < 2 * (List.range c).countP (r b)) = mb at *
              generalize bothN r a b c = bo at *
              go_wp2_with fail
              refine HM1.out.mono ?_
              rintro e w4 ⟨rfl, rfl⟩
              clear HM1
              cases ma
              · go_wp2
                go_roundw
                case rel => exact ⟨b + 1, by omega, by go_num, HBz.out⟩
                case measure => simp [intOf]; omega
              · go_wp2_with fail
                refine HM2.out.mono ?_
                rintro e w5 ⟨rfl, rfl⟩
                clear HM2
                cases mb
                · go_wp2
                  go_roundw
                  case rel => exact ⟨b + 1, by omega, by go_num, HBz.out⟩
                  case measure => simp [intOf]; omega
                · have hbo : bo = true := HBo.out (by trivial) (by trivial)
                  subst hbo
                  go_wp2
                  go_roundw
                  case rel => exact ⟨b + 1, by omega, by go_num, HBz.out⟩
                  case measure => simp [intOf]; omega
        · obtain rfl : b = n := by omega
          go_wp2
          go_roundw
          case rel => exact ⟨a + 1, by omega, by go_num, HBr.out⟩
          case measure => simp [intOf]; omega
    · obtain rfl : a = n := by omega
      go_wp2
      go_ret
      exact ⟨rfl, belJ HB.out HBr.out⟩
end Go.Proofs.Ytlkddeaceagonaa
