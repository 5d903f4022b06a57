/-
  The statement LinearWitness walked: whatever the object and the ops, true.
-/
import Derived.Test.YtndogemgjjgbgaaDoorJudgeWZ
namespace Go.Proofs.YtndogemgjjgbgaaDoor
open Go.RowKit

theorem lc_zero {o bud : Int} {ops : List Opn} (h : LcTold o bud ops 0) : objB o = true ∧ CkTold o ops 0 ∧ 0 ≤ bud ∧ bud ≤ 1000000 := by
  rcases h with ⟨_, h⟩ | ⟨_, _, h⟩ | ⟨h1, h2, h3, h4⟩
  · cases h
  · cases h
  · exact ⟨h1, h4, h2, h3⟩
theorem ord_has {w : World} {base : Nat} {ov : Value} {ord : List Nat} (h : w.ownsRow base 3 1 ov ord.length (ordV ord)) : HasInts w ov (iL ord) := by
  have e : ordV ord = (iL ord).map (Value.int .i64) := by simp [ordV, iL]
  have : w.ownsRow base 3 1 ov (iL ord).length ((iL ord).map (Value.int .i64)) := by rw [iL_length, ← e]; exact h
  exact (rowAt_owns this).has
theorem nil_has (w : World) : HasInts w (.slice none 0 0) [] := ⟨none, 0, rfl, by decide, by decide, fun _ => rfl, .inl rfl⟩
/-- What Shows tells where nothing is told against the ops. -/
theorem sh_zero {o : Int} {ops : List Opn} {ord : List Int} {w : World} {e : Ending} {w' : World} (h : ShTold o ops ord w e w') (ho : objB o = true) (hc : CkTold o ops 0) : ∃ b, e = .returned (.tuple #[.bool b, .nilIface]) ∧ (b = true ↔ ShowsM o ops ord) := by
  obtain ⟨_, ⟨ho', _⟩ | ⟨_, n, hn, hc', _⟩ | ⟨_, _, b, hb, he⟩⟩ := h
  · rw [ho] at ho'; cases ho'
  · exact absurd (ckTold_one hc' hc) hn
  · exact ⟨b, he, hb⟩
theorem code_int {c : Nat} (h : c = 1 ∨ c = 2 ∨ c = 3) : ((c : Int) == 1) = (c == 1) ∧ ((c : Int) == 2) = (c == 2) := by
  rcases h with rfl | rfl | rfl <;> exact ⟨rfl, rfl⟩
theorem valid_shows {o : Int} {ops : List Opn} {bud : Nat} (h : (searchM (srB o ops bud)).code = 1) : ShowsM o ops (iL (searchM (srB o ops bud)).ord) := by
  obtain ⟨S, hR, ho⟩ := search_valid h
  exact reach_shows hR ho rfl
theorem valid_len {o : Int} {ops : List Opn} {bud : Nat} (h : (searchM (srB o ops bud)).code = 1) : (searchM (srB o ops bud)).ord.length ≤ ops.length := by
  obtain ⟨S, hR, _⟩ := search_valid h
  exact reach_length hR

set_option maxRecDepth 100000 in
set_option maxHeartbeats 2000000 in
theorem linearWitness_walk (o : Int) (ops : List Opn) (u : Value) (w : World) (hl : OpsIn w u ops) (hK : KnownAt w) :
    Calls Tryd.prog 4 #[.int .i64 o, u] w fun e w' => e = .returned (.bool true) ∧ Below w.heap.size w w' := by
  have hpos : 0 < w.heap.size := World.block_lt_of_cell? w ⟨0, 0 * 13 + 0, none⟩ (hK 0 0 (by decide) (by decide))
  by_cases h1 : 8 < ops.length
  · obtain ⟨a, cap, rfl, hc, hm, _⟩ := hl
    unfold maxLen at hm
    have h1' : decide (8 < (ops.length : Int)) = true := by simp; omega
    go_enter Tryd.func4, Tryd.ntmps4
    go_wp2
    go_ret
    exact ⟨rfl, Below.refl _ _⟩
  · have h1' : decide (8 < (ops.length : Int)) = false := by simp; omega
    have HC := hideIt (check_any o 1000000 ops u w (by omega) hl hK)
    have HT : Hid (∀ w1, Below w.heap.size w w1 → Calls Tryd.prog 12 #[] w1 fun e w' => e = .returned (.bool true) ∧ Below w1.heap.size w1 w') := hideIt (fun w1 hb => toldK_any w1 (hK.below hpos hb))
    have HS : Hid (∀ w1 v ord, Below w.heap.size w w1 → ord.length ≤ 60 → HasInts w1 v ord → Calls Tryd.prog 8 #[.int .i64 o, u, v] w1 fun e w' => ShTold o ops ord w1 e w') := hideIt (fun w1 v ord hb ho hv =>
      shows_any o ops ord u v w1 (by omega) ho (hl.below hb) hv (hK.below hpos hb))
    obtain ⟨a, cap, rfl, hc, hm, _⟩ := hl
    unfold maxLen at hm
    clear hK
    go_enter Tryd.func4, Tryd.ntmps4
    go_wp2_with fail
    refine HC.out.mono ?_
    rintro e w1 ⟨hb1, ⟨n, hn, _, rfl⟩ | ⟨hlc, ov, rfl, ho1, ho2⟩⟩
    · have HB1 := hideIt hb1
      have HV : Hid (Below w.heap.size w (w1.alloc (.cells #[.int .i64 0, .slice none 0 0, .int .i64 0] 33))) := hideIt (belA hb1 _)
      rw [toldV_some hn]
      clear hb1
      go_wp2_with fail
      refine (HT.out _ HV.out).mono ?_
      rintro e w2 ⟨rfl, hb2⟩
      have e2 : w2.heap[w1.heap.size]? = some z33 := (hb2.block w1.heap.size (by simp)).trans (heap_alloc_new w1 _)
      have d0 : w2.cell? ⟨w1.heap.size, 0, none⟩ = some (.int .i64 0) := cell_of_row w2 _ _ _ 33 (0, 0) e2
      have d1 : w2.cell? ⟨w1.heap.size, 1, none⟩ = some (.slice none 0 0) := cell_of_row w2 _ _ _ 33 (0, 0) e2
      have HV2 := hideIt (belJ HV.out hb2)
      have HE2 := hideIt e2
      clear e2 hb2
      go_wp2_with fail
      refine (HT.out _ HV2.out).mono ?_
      rintro e w3 ⟨rfl, hb3⟩
      have e3 : w3.heap[w1.heap.size]? = some z33 := (hb3.block w1.heap.size (lt_of_heap HE2.out)).trans HE2.out
      have d0 : w3.cell? ⟨w1.heap.size, 0, none⟩ = some (.int .i64 0) := cell_of_row w3 _ _ _ 33 (0, 0) e3
      have d1 : w3.cell? ⟨w1.heap.size, 1, none⟩ = some (.slice none 0 0) := cell_of_row w3 _ _ _ 33 (0, 0) e3
      have HV3 := hideIt (belJ HV2.out hb3)
      clear e3 hb3
      go_wp2
      go_ret
      exact ⟨rfl, HV3.out⟩
    · obtain ⟨hob, hck, _, _⟩ := lc_zero hlc
      have HOB := hideIt hob
      have HCK := hideIt hck
      have hkn : (searchM (srB o ops (1000000 : Int).toNat)).code ≠ 3 := search_known (c := srB o ops (1000000 : Int).toNat) (by show ops.length ≤ 8; omega) rfl
      clear hob hck
      rcases search_code (srB o ops (1000000 : Int).toNat) with hc1 | hc2 | hc3
      · have hrow := ho1 hc1
        obtain ⟨va, vc, e⟩ := ownsRow_slice hrow
        obtain ⟨vl, hvl⟩ : ∃ vl, vl = (searchM (srB o ops (1000000 : Int).toNat)).ord.length := ⟨_, rfl⟩
        rw [← hvl] at e
        subst e
        have HI := hideIt (ord_has hrow)
        have HLN : Hid ((iL (searchM (srB o ops (1000000 : Int).toNat)).ord).length ≤ 60) := hideIt (by rw [iL_length]; have := valid_len hc1; omega)
        have HSM := hideIt (valid_shows hc1)
        rw [hc1]
        clear hrow hvl ho1 ho2 hlc hkn hc1
        generalize ((searchM (srB o ops (1000000 : Int).toNat)).ent.length : Int) = xe
        have HV : Hid (Below w.heap.size w (w1.alloc (.cells #[.int .i64 1, .slice va vl vc, .int .i64 xe] 33))) := hideIt (belA hb1 _)
        clear hb1
        go_wp2_with fail
        refine (HT.out _ HV.out).mono ?_
        rintro e w2 ⟨rfl, hb2⟩
        have e2 : w2.heap[w1.heap.size]? = some (.cells #[.int .i64 1, .slice va vl vc, .int .i64 xe] 33 (0, 0)) := (hb2.block w1.heap.size (by simp)).trans (heap_alloc_new w1 _)
        have d0 : w2.cell? ⟨w1.heap.size, 0, none⟩ = some (.int .i64 1) := cell_of_row w2 _ _ _ 33 (0, 0) e2
        have d1 : w2.cell? ⟨w1.heap.size, 1, none⟩ = some (.slice va vl vc) := cell_of_row w2 _ _ _ 33 (0, 0) e2
        have HV2 := hideIt (belJ HV.out hb2)
        have HE2 := hideIt e2
        have HI2 := hideIt ((HI.out.below (belA (Below.refl _ _) _)).below hb2)
        clear e2 hb2
        go_wp2_with fail
        refine (HS.out _ _ _ HV2.out HLN.out HI2.out).mono ?_
        intro e w3 hsh
        have hb3 := hsh.1
        obtain ⟨b, rfl, hbb⟩ := sh_zero hsh HOB.out HCK.out
        have e3 : w3.heap[w1.heap.size]? = some (.cells #[.int .i64 1, .slice va vl vc, .int .i64 xe] 33 (0, 0)) := (hb3.block w1.heap.size (lt_of_heap HE2.out)).trans HE2.out
        have d0 : w3.cell? ⟨w1.heap.size, 0, none⟩ = some (.int .i64 1) := cell_of_row w3 _ _ _ 33 (0, 0) e3
        have d1 : w3.cell? ⟨w1.heap.size, 1, none⟩ = some (.slice va vl vc) := cell_of_row w3 _ _ _ 33 (0, 0) e3
        have HV3 := hideIt (belJ HV2.out hb3)
        obtain rfl : b = true := hbb.2 HSM.out
        clear e3 hb3 hsh hbb
        go_wp2
        go_ret
        exact ⟨rfl, HV3.out⟩
      · have hov := ho2 (by rw [hc2]; decide)
        subst hov
        have HI := hideIt (nil_has w1)
        have HLN : Hid (([] : List Int).length ≤ 60) := hideIt (by simp)
        rw [hc2]
        clear ho1 ho2 hlc hkn hc2
        generalize ((searchM (srB o ops (1000000 : Int).toNat)).ent.length : Int) = xe
        have HV : Hid (Below w.heap.size w (w1.alloc (.cells #[.int .i64 2, .slice none 0 0, .int .i64 xe] 33))) := hideIt (belA hb1 _)
        clear hb1
        go_wp2_with fail
        refine (HT.out _ HV.out).mono ?_
        rintro e w2 ⟨rfl, hb2⟩
        have e2 : w2.heap[w1.heap.size]? = some (.cells #[.int .i64 2, .slice none 0 0, .int .i64 xe] 33 (0, 0)) := (hb2.block w1.heap.size (by simp)).trans (heap_alloc_new w1 _)
        have d0 : w2.cell? ⟨w1.heap.size, 0, none⟩ = some (.int .i64 2) := cell_of_row w2 _ _ _ 33 (0, 0) e2
        have d1 : w2.cell? ⟨w1.heap.size, 1, none⟩ = some (.slice none 0 0) := cell_of_row w2 _ _ _ 33 (0, 0) e2
        have HV2 := hideIt (belJ HV.out hb2)
        have HE2 := hideIt e2
        have HI2 := hideIt ((HI.out.below (belA (Below.refl _ _) _)).below hb2)
        clear e2 hb2
        go_wp2_with fail
        refine (HS.out _ _ _ HV2.out HLN.out HI2.out).mono ?_
        intro e w3 hsh
        have hb3 := hsh.1
        obtain ⟨b, rfl, hbb⟩ := sh_zero hsh HOB.out HCK.out
        have e3 : w3.heap[w1.heap.size]? = some (.cells #[.int .i64 2, .slice none 0 0, .int .i64 xe] 33 (0, 0)) := (hb3.block w1.heap.size (lt_of_heap HE2.out)).trans HE2.out
        have d0 : w3.cell? ⟨w1.heap.size, 0, none⟩ = some (.int .i64 2) := cell_of_row w3 _ _ _ 33 (0, 0) e3
        have d1 : w3.cell? ⟨w1.heap.size, 1, none⟩ = some (.slice none 0 0) := cell_of_row w3 _ _ _ 33 (0, 0) e3
        have HV3 := hideIt (belJ HV2.out hb3)
        clear e3 hb3 hsh hbb
        go_wp2
        all_goals
          go_ret
          exact ⟨by first | rfl | simp, HV3.out⟩
      · exact absurd hc3 hkn

end Go.Proofs.YtndogemgjjgbgaaDoor
