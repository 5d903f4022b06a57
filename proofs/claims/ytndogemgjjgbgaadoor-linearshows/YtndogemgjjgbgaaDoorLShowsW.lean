/-
  The statement LinearShows walked: whatever the object, the ops and the order, true.
-/
import Derived.Test.YtndogemgjjgbgaaDoorRefM
namespace Go.Proofs.YtndogemgjjgbgaaDoor
open Go.RowKit Go.Extern.Stop Go.Stop Go.Extern

theorem shTold_lc {o : Int} {ops : List Opn} {ord : List Int} {w w' : World} {e : Ending} {n : Int} (h : ShTold o ops ord w e w') (hl : LcTold o 0 ops n) :
    ∃ b, e = .returned (.tuple #[.bool b, toldV n]) ∧ ((n ≠ 0 ∧ b = false) ∨ (n = 0 ∧ Told ops 0 ∧ (b = true ↔ ShowsM o ops ord))) := by
  obtain ⟨_, ⟨ho, rfl⟩ | ⟨ho, m, hm, hc, rfl⟩ | ⟨ho, hc, b, hb, rfl⟩⟩ := h
  · rcases hl with ⟨_, rfl⟩ | ⟨ho', _⟩ | ⟨ho', _⟩
    · exact ⟨false, rfl, .inl ⟨by decide, rfl⟩⟩
    · rw [ho] at ho'; cases ho'
    · rw [ho] at ho'; cases ho'
  · rcases hl with ⟨ho', _⟩ | ⟨_, h, _⟩ | ⟨_, _, _, h⟩
    · rw [ho] at ho'; cases ho'
    · omega
    · obtain rfl := ckTold_one hc h
      exact ⟨false, rfl, .inl ⟨hm, rfl⟩⟩
  · rcases hl with ⟨ho', _⟩ | ⟨_, h, _⟩ | ⟨_, _, _, h⟩
    · rw [ho] at ho'; cases ho'
    · omega
    · obtain rfl := ckTold_one hc h
      refine ⟨b, by rw [toldV_zero], .inr ⟨rfl, ?_, hb⟩⟩
      rcases hc with ⟨h, _⟩ | ⟨h, _⟩ | ⟨h, _⟩
      · exact absurd rfl h
      · exact h
      · exact h

set_option maxRecDepth 100000 in
set_option maxHeartbeats 2000000 in
theorem linearShows_walk (o : Int) (ops : List Opn) (ord : List Int) (u v : Value) (w : World) (hl : OpsIn w u ops) (hv : HasInts w v ord) (hK : KnownAt w)
    (hg : w.cell? ⟨1, 0, none⟩ = some (.iface 133 (.agg #[.pointer (some ⟨5, 27, none⟩)]))) :
    Calls Tryd.prog 3 #[.int .i64 o, u, v] w fun e w' => e = .returned (.bool true) ∧ Below w.heap.size w w' := by
  have hpos : 0 < w.heap.size := World.block_lt_of_cell? w ⟨0, 0 * 13 + 0, none⟩ (hK 0 0 (by decide) (by decide))
  by_cases h1 : 60 < ops.length
  · obtain ⟨a, cap, rfl, hc, hm, _⟩ := hl
    unfold maxLen at hm
    have h1' : decide (60 < (ops.length : Int)) = true := by simp; omega
    go_enter Tryd.func3, Tryd.ntmps3
    go_wp2
    go_ret
    exact ⟨rfl, Below.refl _ _⟩
  · by_cases h2 : 60 < ord.length
    · obtain ⟨a, cap, rfl, hc, hm, _⟩ := hl
      obtain ⟨a', cap', rfl, hm1, hm2, _⟩ := hv
      unfold maxLen at hm hm2
      have h1' : decide (60 < (ops.length : Int)) = false := by simp; omega
      have h2' : decide (60 < (ord.length : Int)) = true := by simp; omega
      go_enter Tryd.func3, Tryd.ntmps3
      go_wp2
      go_ret
      exact ⟨rfl, Below.refl _ _⟩
    · have HC := hideIt (refLinCheck_any o 0 ops u w (by omega) hl)
      have HS : Hid (∀ w1, Below w.heap.size w w1 → Calls Tryd.prog 8 #[.int .i64 o, u, v] w1 fun e w' => ShTold o ops ord w1 e w') := hideIt (fun w1 hb =>
        shows_any o ops ord u v w1 (by omega) (by omega) (hl.below hb) (hv.below hb) (hK.below hpos hb))
      have HR : Hid (∀ w1, Below w.heap.size w w1 → Told ops 0 → Calls Tryd.prog 10 #[.int .i64 o, u, v] w1 fun e w' => BoolTold (ShowsM o ops ord) w1 e w') := hideIt (fun w1 hb ht =>
        refShows_any o ops ord u v w1 (by omega) (by omega) (hl.below hb) (hv.below hb) (told_keys ht))
      have HB : Hid (∀ n w1, Below w.heap.size w w1 → Calls Tryd.prog 9 #[toldV n, .int .i64 n] w1 fun e w' => e = .returned (.bool true) ∧ Below w1.heap.size w1 w') := hideIt (fun n w1 hb => bare_told n w1 (globB hb hg))
      obtain ⟨a, cap, rfl, hc, hm, _⟩ := hl
      obtain ⟨a', cap', rfl, hm1, hm2, _⟩ := hv
      unfold maxLen at hm hm2
      clear hK hg
      have h1' : decide (60 < (ops.length : Int)) = false := by simp; omega
      have h2' : decide (60 < (ord.length : Int)) = false := by simp; omega
      go_enter Tryd.func3, Tryd.ntmps3
      go_wp2_with fail
      refine HC.out.mono ?_
      rintro e w1 ⟨n, rfl, hlc, hb1⟩
      have HLC := hideIt hlc
      have HB1 := hideIt hb1
      clear hlc hb1
      go_wp2_with fail
      refine (HS.out _ HB1.out).mono ?_
      intro e w2 hsh
      have HB2 := hideIt (belJ HB1.out hsh.1)
      obtain ⟨b, rfl, hcase⟩ := shTold_lc hsh HLC.out
      clear hsh
      rcases hcase with ⟨hn, rfl⟩ | ⟨rfl, ht, hb⟩
      · have hn' : (n == 0) = false := by simp [hn]
        go_wp2_with fail
        refine (HB.out n _ HB2.out).mono ?_
        rintro e w3 ⟨rfl, hb3⟩
        have HB3 := hideIt (belJ HB2.out hb3)
        clear hb3
        go_wp2
        go_ret
        exact ⟨rfl, HB3.out⟩
      · have HT := hideIt ht
        have HBB := hideIt hb
        clear ht hb
        go_wp2_with fail
        refine (HB.out 0 _ HB2.out).mono ?_
        rintro e w3 ⟨rfl, hb3⟩
        have HB3 := hideIt (belJ HB2.out hb3)
        clear hb3
        go_wp2_with fail
        refine (HR.out _ HB3.out HT.out).mono ?_
        rintro e w4 ⟨b', rfl, hb', hb4⟩
        have HB4 := hideIt (belJ HB3.out hb4)
        obtain rfl : b' = b := by rw [Bool.eq_iff_iff, hb']; exact HBB.out.symm
        clear hb' hb4
        go_wp2
        go_ret
        exact ⟨by simp, HB4.out⟩

end Go.Proofs.YtndogemgjjgbgaaDoor
