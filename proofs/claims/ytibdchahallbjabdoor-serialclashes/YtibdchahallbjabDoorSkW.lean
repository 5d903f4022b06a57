/-
  The program's Check of steps, walked.
-/
import Derived.Test.YtibdchahallbjabDoorFaW
namespace Go.Proofs.YtibdchahallbjabDoor
open Go.RowKit

theorem octO_made (w : World) : OctB (w.alloc (.cells #[.bool false, .bool false, .bool false, .bool false, .bool false, .bool false, .bool false, .bool false] 68)) w.heap.size (fun _ => false) := octB_new w (fun _ => false) 68

set_option maxRecDepth 100000 in
set_option maxHeartbeats 4000000 in
theorem sCheck_any (l : List Stp) (a : Option Addr) (cap : Nat) (w : World) (hmax : l.length ≤ maxLen) (hl : StpsQ w a l) :
    Calls Tryd.prog 35 #[.slice a l.length cap] w fun e w' => ∃ v n pl, e = .returned v ∧ ErrAt w' v n pl ∧ CkS l n pl ∧ Below w.heap.size w w' := by
  have HL := hideIt hl
  have hm2 : l.length ≤ 9223372036854775807 := hmax
  clear hl
  by_cases h60 : l.length ≤ 60
  · have HO0 := hideIt (octO_made w)
    have HB0 : Hid (Below w.heap.size w (w.alloc (.cells #[.bool false, .bool false, .bool false, .bool false, .bool false, .bool false, .bool false, .bool false] 68))) := belA (Below.refl _ _) _
    go_enter Tryd.func35, Tryd.ntmps35
    go_wp2
    generalize w.alloc _ = W at HO0 HB0 ⊢
    go_loopw [13] (fun i wr => ∃ k : Nat, k ≤ l.length ∧ i = .int .i64 k ∧ (∀ j, j < k → fltQ l j = 0) ∧ OctB wr w.heap.size (fun q => overB l (q : Int) k) ∧ Below w.heap.size w wr) (fun i _ => l.length - (intOf i).toNat)
    case atStart => exact ⟨0, Nat.zero_le _, rfl, fun j hj => absurd hj (by omega), HO0.out, HB0.out⟩
    case round =>
      clear HO0 HB0
      obtain ⟨k, hk, rfl, ha, ho, hb⟩ := hrel
      have HA := hideIt ha
      have HO := hideIt ho
      have HB := hideIt hb
      clear ha ho hb
      by_cases hkl : k < l.length
      · obtain ⟨b, off, rfl, hlt, hst⟩ : ∃ b off, a = some ⟨b, off, none⟩ ∧ b < w.heap.size ∧ StpsAt w b off l := by
          rcases HL.out with h | h
          · subst h; simp at hkl
          · exact h
        obtain ⟨c0, c1, c2⟩ := (hst k hkl).below hlt HB.out
        have HX : Hid (stZ l k = l[k]) := stZ_at hkl
        have HQ : Hid (fltQ l k = if fltR (stZ l k) = 0 then (if overB l (stZ l k).p k then 6 else 0) else fltR (stZ l k)) := rfl
        have HOs : Hid (∀ q, overB l q (k + 1) = (overB l q k || ((stZ l k).p == q && decide (2 < (stZ l k).k)))) := fun q => overB_succ l q k
        rw [HX.out] at HQ HOs
        generalize l[k] = x at c0 c1 c2 HX HQ HOs
        have hwl := HO.out.lt
        have HOA := hideIt (HO.out.alloc (.cells #[.int .i64 x.p, .int .i64 x.k, .int .i64 x.m] 40))
        have HBA : Hid (Below w.heap.size w (wr.alloc (.cells #[.int .i64 x.p, .int .i64 x.k, .int .i64 x.m] 40))) := belA HB.out _
        have HXA : Hid (StpN (wr.alloc (.cells #[.int .i64 x.p, .int .i64 x.k, .int .i64 x.m] 40)) wr.heap.size x) := ⟨by simp, by simp, by simp⟩
        have HCf := hideIt (fault_any x (wr.alloc (.cells #[.int .i64 x.p, .int .i64 x.k, .int .i64 x.m] 40)))
        have hws : (wr.alloc (.cells #[.int .i64 x.p, .int .i64 x.k, .int .i64 x.m] 40)).heap.size = wr.heap.size + 1 := by simp
        unfold Stp.agg at HCf
        clear hst HL HO HB
        go_wp2_with fail
        refine HCf.out.mono ?_
        clear HCf c0 c1 c2
        rintro e w1 ⟨rfl, hb1⟩
        rw [hws] at hb1
        have HO1 := hideIt (HOA.out.below hb1 (Nat.lt_succ_of_lt hwl))
        have HB1 : Hid (Below w.heap.size w w1) := HBA.out.trans (hb1.mono (by omega))
        obtain ⟨d0, d1, d2⟩ := HXA.out.below hb1 (Nat.lt_succ_self _)
        have hl1 : wr.heap.size < w1.heap.size := by have := hb1.size; omega
        generalize wr.heap.size = Z at d0 d1 d2 hwl hl1 ⊢
        clear hb1 hws HOA HBA HXA
        by_cases hf : fltR x = 0
        · rw [if_pos hf] at HQ
          rw [hf]
          have hx := fltR_zero hf
          obtain ⟨t, ht⟩ : ∃ t : Nat, x.p = (t : Int) := ⟨x.p.toNat, by omega⟩
          rw [ht] at d0 HQ HOs
          have ht8 : t < 8 := by omega
          have ht8' : (t : Int) < 8 := by omega
          have o0 := HO1.out.at' ht8
          have z0 := HO1.out.fz t
          cases hov : overB l (t : Int) k
          · rw [hov] at HQ o0
            have hQ0 : fltQ l k = 0 := HQ.out
            have R1 : Hid (∀ j, j < k + 1 → fltQ l j = 0) := fun j hj => by
              by_cases e : j = k
              · subst e; exact hQ0
              · exact HA.out j (by omega)
            have R2 : Hid (OctB (w1.setCell ⟨w.heap.size, t, none⟩ (.bool (decide (3 ≤ x.k)))) w.heap.size (fun q => overB l (q : Int) (k + 1))) := (HO1.out.put ht8 (decide (3 ≤ x.k))).same fun q hq => by
              show (if q = t then decide (3 ≤ x.k) else overB l (q : Int) k) = overB l (q : Int) (k + 1)
              rw [HOs.out]
              by_cases e : q = t
              · subst e
                rw [if_pos rfl, hov]
                have : ((q : Int) == (q : Int)) = true := by simp
                rw [this]
                simp
                omega
              · rw [if_neg e]
                have : ((t : Int) == (q : Int)) = false := by simp; omega
                rw [this]; simp
            have R3 : Hid (Below w.heap.size w (w1.setCell ⟨w.heap.size, t, none⟩ (.bool (decide (3 ≤ x.k))))) := HB1.out.setCell (p := ⟨w.heap.size, t, none⟩) (Nat.le_refl _) _
            clear HQ HOs hQ0 hov d2
            go_wp2
            go_roundw
            case rel => exact ⟨k + 1, by omega, by go_num, R1.out, R2.out, R3.out⟩
            case measure => simp [intOf]; omega
          · rw [hov] at HQ o0
            have hQ6 : fltQ l k = 6 := HQ.out
            have HE : Hid (CkS l 6 k) := .inr ⟨h60, .inr ⟨k, hkl, HA.out, by rw [hQ6]; decide, hQ6.symm, rfl⟩⟩
            clear HQ HOs hQ6 hov d2
            go_wp2
            go_ret
            exact ⟨_, 6, (k : Int), rfl, .inr (.inr ⟨by decide, by omega, w1.heap.size, rfl, by simp, by simp, by simp⟩), HE.out, belA HB1.out _⟩
        · rw [if_neg hf] at HQ
          generalize fltR x = fx at hf HQ ⊢
          have HE : Hid (CkS l fx k) := .inr ⟨h60, .inr ⟨k, hkl, HA.out, by rw [HQ.out]; exact hf, HQ.out.symm, rfl⟩⟩
          have hf' : (fx != 0) = true := by simp [hf]
          clear HQ HOs d0 d1 d2
          go_wp2
          go_ret
          exact ⟨_, fx, (k : Int), rfl, .inr (.inr ⟨hf, by omega, w1.heap.size, rfl, by simp, by simp, by simp⟩), HE.out, belA HB1.out _⟩
      · obtain rfl : k = l.length := by omega
        go_wp2
        go_ret
        exact ⟨_, 0, -1, rfl, .inl ⟨rfl, rfl, rfl⟩, .inr ⟨h60, .inl ⟨HA.out, rfl, rfl⟩⟩, HB.out⟩
  · have h60' : (60 : Int) < l.length := by omega
    go_enter Tryd.func35, Tryd.ntmps35
    go_wp2
    go_ret
    exact ⟨_, 4, -1, rfl, .inr (.inl ⟨by decide, rfl, rfl⟩), .inl ⟨by omega, rfl, rfl⟩, Below.refl _ _⟩
end Go.Proofs.YtibdchahallbjabDoor
