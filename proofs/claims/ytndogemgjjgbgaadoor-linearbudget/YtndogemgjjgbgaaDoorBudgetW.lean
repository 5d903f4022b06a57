/-
  The statement LinearBudget walked: whatever the object, the ops and the two budgets, true.
-/
import Derived.Test.YtndogemgjjgbgaaDoorCompleteW
namespace Go.Proofs.YtndogemgjjgbgaaDoor
open Go.RowKit

theorem search_bud (o : Int) (ops : List Opn) (bud : Nat) : (searchM (srB o ops bud)).ent.length ≤ bud := visit_bud (c := srB o ops bud) _ _ _ _ (Nat.zero_le _)
theorem search_more {o : Int} {ops : List Opn} {few many : Nat} (h : few ≤ many) (hc : (searchM (srB o ops few)).code ≠ 3) : searchM (srB o ops many) = searchM (srB o ops few) :=
  visit_more (c := srB o ops few) (c' := srB o ops many) (fun _ _ _ => rfl) rfl rfl h _ _ _ _ (Nat.zero_le _) hc

/-- What Check tells, as values. -/
structure CkV (o : Int) (ops : List Opn) (k : Nat) (w1 : World) (xc : Int) (va : Option Addr) (vl vc : Nat) (xe : Int) : Prop where
  code : xc = ((searchM (srB o ops k)).code : Int)
  ent : xe = ((searchM (srB o ops k)).ent.length : Int)
  ord : HasInts w1 (.slice va vl vc) (if (searchM (srB o ops k)).code = 1 then iL (searchM (srB o ops k)).ord else [])
theorem ckV_of {o : Int} {ops : List Opn} {k : Nat} {w w1 : World} {ov : Value} (ho1 : (searchM (srB o ops (k : Int).toNat)).code = 1 → w1.ownsRow w.heap.size 3 1 ov (searchM (srB o ops (k : Int).toNat)).ord.length (ordV (searchM (srB o ops (k : Int).toNat)).ord)) (ho2 : (searchM (srB o ops (k : Int).toNat)).code ≠ 1 → ov = .slice none 0 0) :
    ∃ va vl vc, ov = .slice va vl vc ∧ CkV o ops k w1 ((searchM (srB o ops (k : Int).toNat)).code : Int) va vl vc ((searchM (srB o ops (k : Int).toNat)).ent.length : Int) := by
  rw [Int.toNat_natCast] at ho1 ho2 ⊢
  by_cases h1 : (searchM (srB o ops k)).code = 1
  · obtain ⟨a, c, e⟩ := ownsRow_slice (ho1 h1)
    subst e
    exact ⟨a, _, c, rfl, rfl, rfl, by rw [if_pos h1]; exact ord_has (ho1 h1)⟩
  · have := ho2 h1
    subst this
    exact ⟨none, 0, 0, rfl, rfl, rfl, by rw [if_neg h1]; exact nil_has _⟩

theorem budget_core (o : Int) (ops : List Opn) (few many : Nat) (hfm : few ≤ many) (w1 w2 : World) (xc xe yc ye : Int) (va ya : Option Addr) (vl vc yl yc' : Nat) (h1 : CkV o ops few w1 xc va vl vc xe) (h2 : CkV o ops many w2 yc ya yl yc' ye) :
    xe ≤ few ∧ ye ≤ many ∧ (xc ≠ 3 → xc = yc ∧ xe = ye ∧ ∃ st, HasInts w1 (.slice va vl vc) st ∧ HasInts w2 (.slice ya yl yc') st) := by
  have b1 := search_bud o ops few
  have b2 := search_bud o ops many
  refine ⟨by rw [h1.ent]; omega, by rw [h2.ent]; omega, fun h3 => ?_⟩
  have hm := search_more (o := o) (ops := ops) hfm (fun e => h3 (by rw [h1.code, e]; rfl))
  have g := h2.ord
  refine ⟨by rw [h1.code, h2.code, hm], by rw [h1.ent, h2.ent, hm], _, h1.ord, ?_⟩
  rw [hm] at g
  exact g

theorem CkV.keep {o : Int} {ops : List Opn} {k : Nat} {w1 w2 : World} {xc : Int} {va : Option Addr} {vl vc : Nat} {xe : Int} (h : CkV o ops k w1 xc va vl vc xe) (hb : Below w1.heap.size w1 w2) : CkV o ops k w2 xc va vl vc xe := ⟨h.code, h.ent, h.ord.below hb⟩
theorem ckTold_or {o bud bud' : Int} {ops : List Opn} {n m : Int} (h : LcTold o bud ops n) (h' : LcTold o bud' ops m) (hb : 0 ≤ bud ∧ bud ≤ 1000000) (hb' : 0 ≤ bud' ∧ bud' ≤ 1000000) : n = m := by
  rcases h with ⟨a, rfl⟩ | ⟨a, b, rfl⟩ | ⟨a, _, _, h⟩
  · rcases h' with ⟨_, rfl⟩ | ⟨_, b, _⟩ | ⟨a', _⟩
    · rfl
    · omega
    · rw [a] at a'; cases a'
  · omega
  · rcases h' with ⟨a', _⟩ | ⟨_, b, _⟩ | ⟨_, _, _, h'⟩
    · rw [a] at a'; cases a'
    · omega
    · exact ckTold_one h h'

set_option maxRecDepth 100000 in
set_option maxHeartbeats 4000000 in
theorem budget_rest (o : Int) (ops : List Opn) (few many : Int) (a : Option Addr) (cap : Nat) (w : World) (h30 : ops.length ≤ 30) (hl : OpsIn w (.slice a ops.length cap) ops) (hK : KnownAt w) (nf nm : Nat)
    (hpf : ∀ w1, Calls Tryd.prog 13 #[.int .i64 few, .int .i64 500] w1 fun e w' => e = .returned (.int .i64 nf) ∧ w' = w1) (hpm : ∀ w1, Calls Tryd.prog 13 #[.int .i64 many, .int .i64 2000] w1 fun e w' => e = .returned (.int .i64 nm) ∧ w' = w1)
    (hnf : nf < 500) (hnm : nm < 2000) : Calls Tryd.prog 6 #[.int .i64 o, .slice a ops.length cap, .int .i64 few, .int .i64 many] w fun e w' => e = .returned (.bool true) ∧ Below w.heap.size w w' := by
  have hpos : 0 < w.heap.size := World.block_lt_of_cell? w ⟨0, 0 * 13 + 0, none⟩ (hK 0 0 (by decide) (by decide))
  have h1' : decide (30 < (ops.length : Int)) = false := by simp; omega
  have HF := hideIt hpf
  have HM := hideIt hpm
  have HC : Hid (∀ (k : Nat) w1, Below w.heap.size w w1 → Calls Tryd.prog 11 #[.int .i64 o, .slice a ops.length cap, .int .i64 k] w1 fun e w' => JTold o k ops w1 e w') := hideIt (fun k w1 hb => check_any o k ops _ w1 (by omega) (hl.below hb) (hK.below hpos hb))
  have HT : Hid (∀ w1, Below w.heap.size w w1 → Calls Tryd.prog 12 #[] w1 fun e w' => e = .returned (.bool true) ∧ Below w1.heap.size w1 w') := hideIt (fun w1 hb => toldK_any w1 (hK.below hpos hb))
  have HSI := hideIt sameInts_same
  clear hpf hpm hl hK
  -- the lesser and the greater one
  obtain ⟨k1, k2, hk12, hk1, hk2, hsw⟩ : ∃ k1 k2 : Nat, k1 ≤ k2 ∧ k1 < 2000 ∧ k2 < 2000 ∧ ((nm < nf ∧ k1 = nm ∧ k2 = nf) ∨ (¬ nm < nf ∧ k1 = nf ∧ k2 = nm)) := by
    by_cases h : nm < nf
    · exact ⟨nm, nf, by omega, by omega, by omega, .inl ⟨h, rfl, rfl⟩⟩
    · exact ⟨nf, nm, by omega, by omega, by omega, .inr ⟨h, rfl, rfl⟩⟩
  rcases hsw with ⟨hlt, rfl, rfl⟩ | ⟨hlt, rfl, rfl⟩
  · have hd : decide ((k1 : Int) < (k2 : Int)) = true := by simp; omega
    go_enter Tryd.func6, Tryd.ntmps6
    go_wp2_with fail
    refine (HF.out _).mono ?_
    rintro e w' ⟨rfl, hw⟩
    have hw := hw.symm
    subst hw
    go_wp2_with fail
    refine (HM.out _).mono ?_
    rintro e w' ⟨rfl, hw⟩
    have hw := hw.symm
    subst hw
    go_wp2_with fail
    refine (HC.out k1 _ (Below.refl _ _)).mono ?_
    rintro e w1 ⟨hb1, hcase1⟩
    have hcase1' : (∃ n, n ≠ 0 ∧ LcTold o k1 ops n ∧ e = .returned (.tuple #[.agg #[.int .i64 0, .slice none 0 0, .int .i64 0], .iface 24 (.int .i64 n)])) ∨ (LcTold o k1 ops 0 ∧ ∃ va vl vc xc xe, e = .returned (.tuple #[.agg #[.int .i64 xc, .slice va vl vc, .int .i64 xe], .nilIface]) ∧ CkV o ops k1 w1 xc va vl vc xe) := by
      rcases hcase1 with ⟨n, hn, hlc, he⟩ | ⟨hlc, ov, he, ho1, ho2⟩
      · exact .inl ⟨n, hn, hlc, by rw [he, toldV_some hn]⟩
      · obtain ⟨va, vl, vc, rfl, hck⟩ := ckV_of ho1 ho2
        exact .inr ⟨hlc, va, vl, vc, _, _, he, hck⟩
    clear hcase1
    rcases hcase1' with ⟨n, hn, hlc1, rfl⟩ | ⟨hlc1, va, vl, vc, xc, xe, rfl, hck1⟩
    · have HV : Hid (Below w.heap.size w (w1.alloc (.cells #[.int .i64 0, .slice none 0 0, .int .i64 0] 33))) := hideIt (belA hb1 _)
      clear hb1
      go_wp2_with fail
      refine (HC.out k2 _ HV.out).mono ?_
      rintro e w2 ⟨hb2, ⟨n', hn', hlc2, rfl⟩ | ⟨hlc2, _⟩⟩
      · rw [toldV_some hn']
        have HV2 : Hid (Below w.heap.size w (w2.alloc (.cells #[.int .i64 0, .slice none 0 0, .int .i64 0] 33))) := hideIt (belA (belJ HV.out hb2) _)
        clear hb2 hlc1 hlc2
        go_wp2_with fail
        refine (HT.out _ HV2.out).mono ?_
        rintro e w3 ⟨rfl, hb3⟩
        have HV3 := hideIt (belJ HV2.out hb3)
        clear hb3
        go_wp2_with fail
        refine (HT.out _ HV3.out).mono ?_
        rintro e w4 ⟨rfl, hb4⟩
        have HV4 := hideIt (belJ HV3.out hb4)
        clear hb4
        go_wp2
        go_ret
        exact ⟨rfl, HV4.out⟩
      · exact absurd (ckTold_or hlc1 hlc2 (by omega) (by omega)) hn
    · have HCK1 := hideIt hck1
      have HV : Hid (Below w.heap.size w (w1.alloc (.cells #[.int .i64 xc, .slice va vl vc, .int .i64 xe] 33))) := hideIt (belA hb1 _)
      clear hb1 hck1
      go_wp2_with fail
      refine (HC.out k2 _ HV.out).mono ?_
      rintro e w2 ⟨hb2, hcase2⟩
      have hcase2' : ∃ ya yl yc zc ye, e = .returned (.tuple #[.agg #[.int .i64 zc, .slice ya yl yc, .int .i64 ye], .nilIface]) ∧ CkV o ops k2 w2 zc ya yl yc ye := by
        rcases hcase2 with ⟨n, hn, hlc, he⟩ | ⟨hlc, ov, he, ho1, ho2⟩
        · exact absurd (ckTold_or hlc hlc1 (by omega) (by omega)) hn
        · obtain ⟨va, vl, vc, rfl, hck⟩ := ckV_of ho1 ho2
          exact ⟨va, vl, vc, _, _, he, hck⟩
      clear hcase2
      obtain ⟨ya, yl, yc, zc, ye, rfl, hck2⟩ := hcase2'
      have e2 : w2.heap[w1.heap.size]? = some (.cells #[.int .i64 xc, .slice va vl vc, .int .i64 xe] 33 (0, 0)) := (hb2.block w1.heap.size (by simp)).trans (heap_alloc_new w1 _)
      have HV2 : Hid (Below w.heap.size w (w2.alloc (.cells #[.int .i64 zc, .slice ya yl yc, .int .i64 ye] 33))) := hideIt (belA (belJ HV.out hb2) _)
      have HCK12 := hideIt ((HCK1.out.keep (belA (Below.refl _ _) _)).keep hb2)
      have HCK2 := hideIt hck2
      have HE2 := hideIt e2
      clear hb2 hck2 e2 hlc1
      go_wp2_with fail
      refine (HT.out _ HV2.out).mono ?_
      rintro e w3 ⟨rfl, hb3⟩
      have e3 : w3.heap[w1.heap.size]? = some (.cells #[.int .i64 xc, .slice va vl vc, .int .i64 xe] 33 (0, 0)) := (hb3.block w1.heap.size (by have := lt_of_heap HE2.out; simp; omega)).trans ((Below.heap_alloc w2 _ _ (lt_of_heap HE2.out)).trans HE2.out)
      have f3 : w3.heap[w2.heap.size]? = some (.cells #[.int .i64 zc, .slice ya yl yc, .int .i64 ye] 33 (0, 0)) := (hb3.block w2.heap.size (by simp)).trans (heap_alloc_new w2 _)
      have d0 : w3.cell? ⟨w1.heap.size, 0, none⟩ = some (.int .i64 xc) := cell_of_row w3 _ _ _ 33 (0, 0) e3
      have d1 : w3.cell? ⟨w1.heap.size, 1, none⟩ = some (.slice va vl vc) := cell_of_row w3 _ _ _ 33 (0, 0) e3
      have d2 : w3.cell? ⟨w1.heap.size, 2, none⟩ = some (.int .i64 xe) := cell_of_row w3 _ _ _ 33 (0, 0) e3
      have g0 : w3.cell? ⟨w2.heap.size, 0, none⟩ = some (.int .i64 zc) := cell_of_row w3 _ _ _ 33 (0, 0) f3
      have g1 : w3.cell? ⟨w2.heap.size, 1, none⟩ = some (.slice ya yl yc) := cell_of_row w3 _ _ _ 33 (0, 0) f3
      have g2 : w3.cell? ⟨w2.heap.size, 2, none⟩ = some (.int .i64 ye) := cell_of_row w3 _ _ _ 33 (0, 0) f3
      have HV3 := hideIt (belJ HV2.out hb3)
      have hbb : Below w2.heap.size w2 w3 := belJ (belA (Below.refl _ _) _) hb3
      obtain ⟨l1, l2, l3⟩ := budget_core o ops k1 k2 hk12 w3 w3 xc xe zc ye va ya vl vc yl yc (HCK12.out.keep hbb) (HCK2.out.keep hbb)
      have l1' : decide ((k1 : Int) < xe) = false := by simp; omega
      have l2' : decide ((k2 : Int) < ye) = false := by simp; omega
      have HL3 := hideIt l3
      clear hb3 e3 f3 hbb l3
      by_cases hx3 : xc = 3
      · have hx3' : (xc == 3) = true := by simp [hx3]
        go_wp2
        go_ret
        exact ⟨rfl, HV3.out⟩
      · have hx3' : (xc == 3) = false := by simp [hx3]
        obtain ⟨e1, e2, st, hs1, hs2⟩ := HL3.out hx3
        have HSAME := hideIt (HSI.out _ _ st w3 hs1 hs2)
        have q1 : (xc == zc) = true := by simp [e1]
        have q2 : (xe == ye) = true := by simp [e2]
        clear e1 e2 hs1 hs2 l1 l2
        go_wp2_with (go_at_call 14; refine HSAME.out.mono ?_; rintro e w4 ⟨rfl, hb4⟩; have HB4 := hideIt hb4; clear hb4)
        go_ret
        exact ⟨rfl, belJ HV3.out HB4.out⟩
  · have hd : decide ((k2 : Int) < (k1 : Int)) = false := by simp; omega
    go_enter Tryd.func6, Tryd.ntmps6
    go_wp2_with fail
    refine (HF.out _).mono ?_
    rintro e w' ⟨rfl, hw⟩
    have hw := hw.symm
    subst hw
    go_wp2_with fail
    refine (HM.out _).mono ?_
    rintro e w' ⟨rfl, hw⟩
    have hw := hw.symm
    subst hw
    go_wp2_with fail
    refine (HC.out k1 _ (Below.refl _ _)).mono ?_
    rintro e w1 ⟨hb1, hcase1⟩
    have hcase1' : (∃ n, n ≠ 0 ∧ LcTold o k1 ops n ∧ e = .returned (.tuple #[.agg #[.int .i64 0, .slice none 0 0, .int .i64 0], .iface 24 (.int .i64 n)])) ∨ (LcTold o k1 ops 0 ∧ ∃ va vl vc xc xe, e = .returned (.tuple #[.agg #[.int .i64 xc, .slice va vl vc, .int .i64 xe], .nilIface]) ∧ CkV o ops k1 w1 xc va vl vc xe) := by
      rcases hcase1 with ⟨n, hn, hlc, he⟩ | ⟨hlc, ov, he, ho1, ho2⟩
      · exact .inl ⟨n, hn, hlc, by rw [he, toldV_some hn]⟩
      · obtain ⟨va, vl, vc, rfl, hck⟩ := ckV_of ho1 ho2
        exact .inr ⟨hlc, va, vl, vc, _, _, he, hck⟩
    clear hcase1
    rcases hcase1' with ⟨n, hn, hlc1, rfl⟩ | ⟨hlc1, va, vl, vc, xc, xe, rfl, hck1⟩
    · have HV : Hid (Below w.heap.size w (w1.alloc (.cells #[.int .i64 0, .slice none 0 0, .int .i64 0] 33))) := hideIt (belA hb1 _)
      clear hb1
      go_wp2_with fail
      refine (HC.out k2 _ HV.out).mono ?_
      rintro e w2 ⟨hb2, ⟨n', hn', hlc2, rfl⟩ | ⟨hlc2, _⟩⟩
      · rw [toldV_some hn']
        have HV2 : Hid (Below w.heap.size w (w2.alloc (.cells #[.int .i64 0, .slice none 0 0, .int .i64 0] 33))) := hideIt (belA (belJ HV.out hb2) _)
        clear hb2 hlc1 hlc2
        go_wp2_with fail
        refine (HT.out _ HV2.out).mono ?_
        rintro e w3 ⟨rfl, hb3⟩
        have HV3 := hideIt (belJ HV2.out hb3)
        clear hb3
        go_wp2_with fail
        refine (HT.out _ HV3.out).mono ?_
        rintro e w4 ⟨rfl, hb4⟩
        have HV4 := hideIt (belJ HV3.out hb4)
        clear hb4
        go_wp2
        go_ret
        exact ⟨rfl, HV4.out⟩
      · exact absurd (ckTold_or hlc1 hlc2 (by omega) (by omega)) hn
    · have HCK1 := hideIt hck1
      have HV : Hid (Below w.heap.size w (w1.alloc (.cells #[.int .i64 xc, .slice va vl vc, .int .i64 xe] 33))) := hideIt (belA hb1 _)
      clear hb1 hck1
      go_wp2_with fail
      refine (HC.out k2 _ HV.out).mono ?_
      rintro e w2 ⟨hb2, hcase2⟩
      have hcase2' : ∃ ya yl yc zc ye, e = .returned (.tuple #[.agg #[.int .i64 zc, .slice ya yl yc, .int .i64 ye], .nilIface]) ∧ CkV o ops k2 w2 zc ya yl yc ye := by
        rcases hcase2 with ⟨n, hn, hlc, he⟩ | ⟨hlc, ov, he, ho1, ho2⟩
        · exact absurd (ckTold_or hlc hlc1 (by omega) (by omega)) hn
        · obtain ⟨va, vl, vc, rfl, hck⟩ := ckV_of ho1 ho2
          exact ⟨va, vl, vc, _, _, he, hck⟩
      clear hcase2
      obtain ⟨ya, yl, yc, zc, ye, rfl, hck2⟩ := hcase2'
      have e2 : w2.heap[w1.heap.size]? = some (.cells #[.int .i64 xc, .slice va vl vc, .int .i64 xe] 33 (0, 0)) := (hb2.block w1.heap.size (by simp)).trans (heap_alloc_new w1 _)
      have HV2 : Hid (Below w.heap.size w (w2.alloc (.cells #[.int .i64 zc, .slice ya yl yc, .int .i64 ye] 33))) := hideIt (belA (belJ HV.out hb2) _)
      have HCK12 := hideIt ((HCK1.out.keep (belA (Below.refl _ _) _)).keep hb2)
      have HCK2 := hideIt hck2
      have HE2 := hideIt e2
      clear hb2 hck2 e2 hlc1
      go_wp2_with fail
      refine (HT.out _ HV2.out).mono ?_
      rintro e w3 ⟨rfl, hb3⟩
      have e3 : w3.heap[w1.heap.size]? = some (.cells #[.int .i64 xc, .slice va vl vc, .int .i64 xe] 33 (0, 0)) := (hb3.block w1.heap.size (by have := lt_of_heap HE2.out; simp; omega)).trans ((Below.heap_alloc w2 _ _ (lt_of_heap HE2.out)).trans HE2.out)
      have f3 : w3.heap[w2.heap.size]? = some (.cells #[.int .i64 zc, .slice ya yl yc, .int .i64 ye] 33 (0, 0)) := (hb3.block w2.heap.size (by simp)).trans (heap_alloc_new w2 _)
      have d0 : w3.cell? ⟨w1.heap.size, 0, none⟩ = some (.int .i64 xc) := cell_of_row w3 _ _ _ 33 (0, 0) e3
      have d1 : w3.cell? ⟨w1.heap.size, 1, none⟩ = some (.slice va vl vc) := cell_of_row w3 _ _ _ 33 (0, 0) e3
      have d2 : w3.cell? ⟨w1.heap.size, 2, none⟩ = some (.int .i64 xe) := cell_of_row w3 _ _ _ 33 (0, 0) e3
      have g0 : w3.cell? ⟨w2.heap.size, 0, none⟩ = some (.int .i64 zc) := cell_of_row w3 _ _ _ 33 (0, 0) f3
      have g1 : w3.cell? ⟨w2.heap.size, 1, none⟩ = some (.slice ya yl yc) := cell_of_row w3 _ _ _ 33 (0, 0) f3
      have g2 : w3.cell? ⟨w2.heap.size, 2, none⟩ = some (.int .i64 ye) := cell_of_row w3 _ _ _ 33 (0, 0) f3
      have HV3 := hideIt (belJ HV2.out hb3)
      have hbb : Below w2.heap.size w2 w3 := belJ (belA (Below.refl _ _) _) hb3
      obtain ⟨l1, l2, l3⟩ := budget_core o ops k1 k2 hk12 w3 w3 xc xe zc ye va ya vl vc yl yc (HCK12.out.keep hbb) (HCK2.out.keep hbb)
      have l1' : decide ((k1 : Int) < xe) = false := by simp; omega
      have l2' : decide ((k2 : Int) < ye) = false := by simp; omega
      have HL3 := hideIt l3
      clear hb3 e3 f3 hbb l3
      by_cases hx3 : xc = 3
      · have hx3' : (xc == 3) = true := by simp [hx3]
        go_wp2
        go_ret
        exact ⟨rfl, HV3.out⟩
      · have hx3' : (xc == 3) = false := by simp [hx3]
        obtain ⟨e1, e2, st, hs1, hs2⟩ := HL3.out hx3
        have HSAME := hideIt (HSI.out _ _ st w3 hs1 hs2)
        have q1 : (xc == zc) = true := by simp [e1]
        have q2 : (xe == ye) = true := by simp [e2]
        clear e1 e2 hs1 hs2 l1 l2
        go_wp2_with (go_at_call 14; refine HSAME.out.mono ?_; rintro e w4 ⟨rfl, hb4⟩; have HB4 := hideIt hb4; clear hb4)
        go_ret
        exact ⟨rfl, belJ HV3.out HB4.out⟩

theorem pick_fun (a : Int) (n : Nat) (h0 : 0 < n) (hn : n ≤ 1000000) : ∃ k : Nat, k < n ∧ ∀ w, Calls Tryd.prog 13 #[.int .i64 a, .int .i64 n] w fun e w' => e = .returned (.int .i64 k) ∧ w' = w :=
  ⟨pickN a n, Nat.mod_lt _ h0, fun w => pick_is a n w h0 hn⟩

set_option maxRecDepth 100000 in
set_option maxHeartbeats 1000000 in
theorem linearBudget_walk (o : Int) (ops : List Opn) (few many : Int) (u : Value) (w : World) (hl : OpsIn w u ops) (hK : KnownAt w) :
    Calls Tryd.prog 6 #[.int .i64 o, u, .int .i64 few, .int .i64 many] w fun e w' => e = .returned (.bool true) ∧ Below w.heap.size w w' := by
  by_cases h1 : 30 < ops.length
  · obtain ⟨a, cap, rfl, hc, hm, _⟩ := hl
    unfold maxLen at hm
    have h1' : decide (30 < (ops.length : Int)) = true := by simp; omega
    go_enter Tryd.func6, Tryd.ntmps6
    go_wp2
    go_ret
    exact ⟨rfl, Below.refl _ _⟩
  · obtain ⟨nf, hnf, hpf⟩ := pick_fun few 500 (by decide) (by decide)
    obtain ⟨nm, hnm, hpm⟩ := pick_fun many 2000 (by decide) (by decide)
    have hl' := hl
    obtain ⟨a, cap, rfl, hc, hm, _⟩ := hl'
    exact budget_rest o ops few many a cap w (by omega) hl hK nf nm hpf hpm hnf hnm

end Go.Proofs.YtndogemgjjgbgaaDoor
