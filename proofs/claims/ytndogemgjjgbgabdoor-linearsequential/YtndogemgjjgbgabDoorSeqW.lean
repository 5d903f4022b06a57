/-
  The statement LinearSequential walked: whatever the object and the ops, true.
-/
import Derived.Test.YtndogemgjjgbgabDoorSeqP
import Derived.Test.YtndogemgjjgbgabDoorSameC
import Derived.Test.YtndogemgjjgbgabDoorWitnessW
namespace Go.Proofs.YtndogemgjjgbgabDoor
open Go.RowKit

theorem lcTold_same {o bud : Int} {ops : List Opn} {n m : Int} (h : LcTold o bud ops n) (h' : LcTold o bud ops m) : n = m := by
  rcases h with ⟨a, rfl⟩ | ⟨a, b, rfl⟩ | ⟨a, b, c, h⟩
  · rcases h' with ⟨_, rfl⟩ | ⟨a', _⟩ | ⟨a', _⟩
    · rfl
    · rw [a] at a'; cases a'
    · rw [a] at a'; cases a'
  · rcases h' with ⟨a', _⟩ | ⟨_, _, rfl⟩ | ⟨_, b', c', _⟩
    · rw [a] at a'; cases a'
    · rfl
    · omega
  · rcases h' with ⟨a', _⟩ | ⟨_, b', _⟩ | ⟨_, _, _, h'⟩
    · rw [a] at a'; cases a'
    · omega
    · exact ckTold_one h h'

/-- What a verdict is, as values. -/
theorem ov_slice {w w1 : World} {ov : Value} {code : Nat} {ord : List Nat} (ho1 : code = 1 → w1.ownsRow w.heap.size 3 1 ov ord.length (ordV ord)) (ho2 : code ≠ 1 → ov = .slice none 0 0) : ∃ va vl vc, ov = .slice va vl vc := by
  by_cases h1 : code = 1
  · obtain ⟨a, c, e⟩ := ownsRow_slice (ho1 h1)
    exact ⟨a, _, c, e⟩
  · exact ⟨none, 0, 0, ho2 h1⟩

set_option maxRecDepth 100000 in
set_option maxHeartbeats 4000000 in
theorem linearSequential_walk (o : Int) (ops : List Opn) (u : Value) (w : World) (hl : OpsIn w u ops) (hK : KnownAt w) :
    Calls Tryd.prog 5 #[.int .i64 o, u] w fun e w' => e = .returned (.bool true) ∧ Below w.heap.size w w' := by
  have hpos : 0 < w.heap.size := World.block_lt_of_cell? w ⟨0, 0 * 13 + 0, none⟩ (hK 0 0 (by decide) (by decide))
  by_cases h8 : 8 < ops.length
  · obtain ⟨a, cap, rfl, _, _, _⟩ := hl
    have h8' : decide (8 < (ops.length : Int)) = true := by simp; omega
    clear hK
    go_enter Tryd.func5, Tryd.ntmps5
    go_wp2
    go_ret
    exact ⟨rfl, Below.refl _ _⟩
  · have h8' : decide (8 < (ops.length : Int)) = false := by simp; omega
    have hlen : ops.length ≤ 60 := by omega
    have HC : Hid (∀ w1, Below w.heap.size w w1 → Calls Tryd.prog 9 #[.int .i64 o, u, .int .i64 1000000] w1 fun e w' => JTold o 1000000 ops w1 e w') := hideIt (fun w1 hb => check_any o 1000000 ops _ w1 hlen (hl.below hb) (hK.below hpos hb))
    have HS : Hid (∀ w1, Below w.heap.size w w1 → Calls Tryd.prog 11 #[.int .i64 o, u, .int .i64 1000000] w1 fun e w' => Sm.JTold o 1000000 ops w1 e w') := hideIt (fun w1 hb => Sm.same_all o 1000000 ops _ w1 hlen (hl.below hb) (hK.below hpos hb))
    have HT : Hid (∀ w1, Below w.heap.size w w1 → Calls Tryd.prog 8 #[] w1 fun e w' => e = .returned (.bool true) ∧ Below w1.heap.size w1 w') := hideIt (fun w1 hb => toldK_any w1 (hK.below hpos hb))
    obtain ⟨a, cap, rfl, _, _, _⟩ := hl
    clear hK hlen
    go_enter Tryd.func5, Tryd.ntmps5
    go_wp2_with fail
    refine (HC.out _ (Below.refl _ _)).mono ?_
    rintro e w1 ⟨hb1, hcase⟩
    rcases hcase with ⟨n, hn, hlc1, rfl⟩ | ⟨hlc1, ov, rfl, ho1, ho2⟩
    · rw [toldV_some hn]
      have HV : Hid (Below w.heap.size w (w1.alloc (.cells #[.int .i64 0, .slice none 0 0, .int .i64 0] 32))) := hideIt (belA hb1 _)
      clear hb1
      go_wp2_with fail
      refine (HS.out _ HV.out).mono ?_
      rintro e w2 ⟨hb2, ⟨n', hn', hlc2, rfl⟩ | ⟨hlc2, _⟩⟩
      · rw [toldV_some hn']
        have HV2 : Hid (Below w.heap.size w (w2.alloc (.cells #[.int .i64 0, .slice none 0 0, .int .i64 0] 32))) := hideIt (belA (belJ HV.out hb2) _)
        clear hb2 hlc1 hlc2
        go_wp2_with fail
        refine (HT.out _ HV2.out).mono ?_
        rintro e w3 ⟨rfl, hb3⟩
        have HV3 := hideIt (belJ HV2.out hb3)
        clear hb3
        go_wp2_with fail
        refine (HT.out _ HV3.out).mono ?_
        rintro e w4 ⟨rfl, hb4⟩
        have HV4 := hideIt (belJ HV3.out hb4)
        clear hb4
        go_wp2
        go_ret
        exact ⟨rfl, HV4.out⟩
      · exact absurd (lcTold_same hlc1 hlc2) hn
    · obtain ⟨va, vl, vc, rfl⟩ := ov_slice ho1 ho2
      have HV : Hid (Below w.heap.size w (w1.alloc (.cells #[.int .i64 ((searchM (srB o ops (1000000 : Int).toNat)).code : Int), .slice va vl vc, .int .i64 ((searchM (srB o ops (1000000 : Int).toNat)).ent.length : Int)] 32))) := hideIt (belA hb1 _)
      have hval : (searchM (srB o ops (1000000 : Int).toNat)).code = 1 → (searchM (Sm.srB o ops (1000000 : Int).toNat)).code = 1 := fun hc => seq_core (ckTold_told (lc_zero hlc1).2.1) (by omega) (valid_shows hc)
      generalize hxc : ((searchM (srB o ops (1000000 : Int).toNat)).code : Int) = xc at HV ⊢
      generalize ((searchM (srB o ops (1000000 : Int).toNat)).ent.length : Int) = xe at HV ⊢
      clear hb1 ho1 ho2
      go_wp2_with fail
      refine (HS.out _ HV.out).mono ?_
      rintro e w2 ⟨hb2, hcase2⟩
      rcases hcase2 with ⟨n', hn', hlc2, rfl⟩ | ⟨hlc2, ov2, rfl, ho3, ho4⟩
      · exact absurd (lcTold_same hlc2 hlc1) hn'
      · obtain ⟨ya, yl, yc, rfl⟩ := ov_slice ho3 ho4
        have hzc : xc = 1 → ((searchM (Sm.srB o ops (1000000 : Int).toNat)).code : Int) = 1 := fun h1 => by
          have := hval (by omega)
          omega
        have e2 : w2.heap[w1.heap.size]? = some (.cells #[.int .i64 xc, .slice va vl vc, .int .i64 xe] 32 (0, 0)) := (hb2.block w1.heap.size (by simp)).trans (heap_alloc_new w1 _)
        have HV2 : Hid (Below w.heap.size w (w2.alloc (.cells #[.int .i64 ((searchM (Sm.srB o ops (1000000 : Int).toNat)).code : Int), .slice ya yl yc, .int .i64 ((searchM (Sm.srB o ops (1000000 : Int).toNat)).ent.length : Int)] 32))) := hideIt (belA (belJ HV.out hb2) _)
        generalize ((searchM (Sm.srB o ops (1000000 : Int).toNat)).code : Int) = zc at HV2 hzc ⊢
        generalize ((searchM (Sm.srB o ops (1000000 : Int).toNat)).ent.length : Int) = ze at HV2 ⊢
        have HE2 := hideIt e2
        have HZ := hideIt hzc
        clear hb2 e2 hlc1 hlc2 ho3 ho4 hval hxc hzc
        go_wp2_with fail
        refine (HT.out _ HV2.out).mono ?_
        rintro e w3 ⟨rfl, hb3⟩
        have e3 : w3.heap[w1.heap.size]? = some (.cells #[.int .i64 xc, .slice va vl vc, .int .i64 xe] 32 (0, 0)) := (hb3.block w1.heap.size (by have := lt_of_heap HE2.out; simp; omega)).trans ((Below.heap_alloc w2 _ _ (lt_of_heap HE2.out)).trans HE2.out)
        have f3 : w3.heap[w2.heap.size]? = some (.cells #[.int .i64 zc, .slice ya yl yc, .int .i64 ze] 32 (0, 0)) := (hb3.block w2.heap.size (by simp)).trans (heap_alloc_new w2 _)
        have d0 : w3.cell? ⟨w1.heap.size, 0, none⟩ = some (.int .i64 xc) := cell_of_row w3 _ _ _ 32 (0, 0) e3
        have g0 : w3.cell? ⟨w2.heap.size, 0, none⟩ = some (.int .i64 zc) := cell_of_row w3 _ _ _ 32 (0, 0) f3
        have HV3 := hideIt (belJ HV2.out hb3)
        clear hb3 e3 f3
        by_cases hx : xc = 1
        · have hx' : (xc == 1) = true := by simp [hx]
          have hz' : (zc == 1) = true := by simp [HZ.out hx]
          go_wp2
          go_ret
          exact ⟨rfl, HV3.out⟩
        · have hx' : (xc == 1) = false := by simp [hx]
          go_wp2
          go_ret
          exact ⟨rfl, HV3.out⟩

end Go.Proofs.YtndogemgjjgbgabDoor
