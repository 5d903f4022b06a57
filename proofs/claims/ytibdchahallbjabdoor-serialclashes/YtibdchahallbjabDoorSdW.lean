/-
  The program's committed and Done, walked.
-/
import Derived.Test.YtibdchahallbjabDoorSkW
namespace Go.Proofs.YtibdchahallbjabDoor
open Go.RowKit

def cmK (l : List Stp) (t : Int) (k : Nat) : Bool := (l.take k).any fun s => s.p == t && s.k == 3
theorem cmK_succ {l : List Stp} {k : Nat} (t : Int) (h : k < l.length) : cmK l t (k + 1) = (cmK l t k || (l[k].p == t && l[k].k == 3)) := by
  unfold cmK
  rw [List.take_succ_eq_append_getElem h, List.any_append]
  simp
theorem cmK_all (l : List Stp) (q : Nat) (hq : q < 8) : cmK l (q : Int) l.length = commB l (q : Int) := by
  unfold cmK commB
  rw [List.take_length, decide_eq_true (by omega : (0 : Int) ≤ (q : Int)), decide_eq_true (by omega : (q : Int) < 8)]
  rfl

set_option maxRecDepth 100000 in
set_option maxHeartbeats 4000000 in
theorem committed_any (l : List Stp) (a : Option Addr) (cap : Nat) (w : World) (hn : l.length ≤ 100) (hl : StpsQ w a l) :
    Calls Tryd.prog 30 #[.slice a l.length cap] w fun e w' => e = .returned (octA fun q => commB l (q : Int)) ∧ Below w.heap.size w w' := by
  have HL := hideIt hl
  clear hl
  have HR0 := hideIt ((octO_made w).alloc (.cells #[.bool false, .bool false, .bool false, .bool false, .bool false, .bool false, .bool false, .bool false] 68))
  have HO0 := hideIt (octO_made (w.alloc (.cells #[.bool false, .bool false, .bool false, .bool false, .bool false, .bool false, .bool false, .bool false] 68)))
  rw [show (w.alloc (.cells #[.bool false, .bool false, .bool false, .bool false, .bool false, .bool false, .bool false, .bool false] 68)).heap.size = w.heap.size + 1 by simp] at HO0
  have HB0 : Hid (Below w.heap.size w ((w.alloc (.cells #[.bool false, .bool false, .bool false, .bool false, .bool false, .bool false, .bool false, .bool false] 68)).alloc (.cells #[.bool false, .bool false, .bool false, .bool false, .bool false, .bool false, .bool false, .bool false] 68))) := belA (belA (Below.refl _ _) _) _
  go_enter Tryd.func30, Tryd.ntmps30
  go_wp2
  generalize (w.alloc _).alloc _ = W at HO0 HB0 HR0 ⊢
  go_loopw [8] (fun i wr => ∃ k : Nat, k ≤ l.length ∧ i = .int .i64 k ∧ OctB wr w.heap.size (fun _ => false) ∧ OctB wr (w.heap.size + 1) (fun q => cmK l (q : Int) k) ∧ Below w.heap.size w wr) (fun i _ => l.length - (intOf i).toNat)
  case atStart => exact ⟨0, Nat.zero_le _, rfl, HR0.out, HO0.out, HB0.out⟩
  case round =>
    clear HO0 HB0 HR0
    obtain ⟨k, hk, rfl, hr, ho, hb⟩ := hrel
    have HR := hideIt hr
    have HO := hideIt ho
    have HB := hideIt hb
    clear hr ho hb
    by_cases hkl : k < l.length
    · obtain ⟨b, off, rfl, hlt, hst⟩ : ∃ b off, a = some ⟨b, off, none⟩ ∧ b < w.heap.size ∧ StpsAt w b off l := by
        rcases HL.out with h | h
        · subst h; simp at hkl
        · exact h
      obtain ⟨c0, c1, c2⟩ := (hst k hkl).below hlt HB.out
      have hkl' : (k : Int) < l.length := by omega
      have HOs : Hid (∀ q : Int, cmK l q (k + 1) = (cmK l q k || (l[k].p == q && l[k].k == 3))) := fun q => cmK_succ q hkl
      generalize l[k] = x at c0 c1 c2 HOs
      have HRA := hideIt (HR.out.alloc (.cells #[.int .i64 x.p, .int .i64 x.k, .int .i64 x.m] 40))
      have HOA := hideIt (HO.out.alloc (.cells #[.int .i64 x.p, .int .i64 x.k, .int .i64 x.m] 40))
      have HBA : Hid (Below w.heap.size w (wr.alloc (.cells #[.int .i64 x.p, .int .i64 x.k, .int .i64 x.m] 40))) := belA HB.out _
      have d0 : (wr.alloc (.cells #[.int .i64 x.p, .int .i64 x.k, .int .i64 x.m] 40)).cell? ⟨wr.heap.size, 0, none⟩ = some (.int .i64 x.p) := by simp
      have d1 : (wr.alloc (.cells #[.int .i64 x.p, .int .i64 x.k, .int .i64 x.m] 40)).cell? ⟨wr.heap.size, 1, none⟩ = some (.int .i64 x.k) := by simp
      have hwl := HO.out.lt
      have HSame : Hid ((∀ q : Nat, q < 8 → (x.p == (q : Int) && x.k == 3) = false) → OctB (wr.alloc (.cells #[.int .i64 x.p, .int .i64 x.k, .int .i64 x.m] 40)) (w.heap.size + 1) (fun q => cmK l (q : Int) (k + 1))) := fun h => HOA.out.same fun q hq => by
        show cmK l (q : Int) k = cmK l (q : Int) (k + 1)
        rw [HOs.out, h q hq]; simp
      clear hst HL HO HB HR
      by_cases h3 : x.k = 3
      · have HX := hideIt (isTx_any x.p (wr.alloc (.cells #[.int .i64 x.p, .int .i64 x.k, .int .i64 x.m] 40)))
        rw [h3] at HX HRA HOA HBA d0 d1 HSame HOs c1
        go_wp2_with fail
        refine HX.out.mono ?_
        clear HX c0 c1 c2
        rintro e w1 ⟨rfl, rfl⟩
        generalize wr.alloc _ = WA at HRA HOA HBA d0 d1 HSame ⊢
        generalize wr.heap.size = Z at d0 d1 hwl ⊢
        have hT := @txB_iff x.p
        generalize txB x.p = tb at hT ⊢
        cases tb
        · have hne : ¬ (0 ≤ x.p ∧ x.p ≤ 7) := fun h => by have := hT.2 h; cases this
          have R1 := hideIt (HSame.out fun q hq => by
            have : (x.p == (q : Int)) = false := by simp; omega
            rw [this]; rfl)
          clear hT hne HSame HOs
          go_wp2
          go_roundw
          case rel => exact ⟨k + 1, by omega, by go_num, HRA.out, R1.out, HBA.out⟩
          case measure => simp [intOf]; omega
        · have hp := hT.1 rfl
          obtain ⟨t, ht⟩ : ∃ t : Nat, x.p = (t : Int) := ⟨x.p.toNat, by omega⟩
          have ht8 : t < 8 := by omega
          have ht8' : (t : Int) < 8 := by omega
          rw [ht] at d0 HOs
          have o0 := HOA.out.at' ht8
          have z0 := HOA.out.fz t
          have R1 : Hid (OctB (WA.setCell ⟨w.heap.size + 1, t, none⟩ (.bool true)) (w.heap.size + 1) (fun q => cmK l (q : Int) (k + 1))) := (HOA.out.put ht8 true).same fun q hq => by
            show (if q = t then true else cmK l (q : Int) k) = cmK l (q : Int) (k + 1)
            rw [HOs.out]
            by_cases e : q = t
            · subst e; rw [if_pos rfl]; simp
            · rw [if_neg e]
              have : ((t : Int) == (q : Int)) = false := by simp; omega
              rw [this]; simp
          have R2 : Hid (OctB (WA.setCell ⟨w.heap.size + 1, t, none⟩ (.bool true)) w.heap.size (fun _ => false)) := HRA.out.other (p := ⟨w.heap.size + 1, t, none⟩) (by show w.heap.size ≠ w.heap.size + 1; omega) _
          have R3 : Hid (Below w.heap.size w (WA.setCell ⟨w.heap.size + 1, t, none⟩ (.bool true))) := HBA.out.setCell (p := ⟨w.heap.size + 1, t, none⟩) (by show w.heap.size ≤ w.heap.size + 1; omega) _
          rw [ht]
          clear hT hp HSame HOs ht
          go_wp2
          go_roundw
          case rel => exact ⟨k + 1, by omega, by go_num, R2.out, R1.out, R3.out⟩
          case measure => simp [intOf]; omega
      · have h3' : (x.k == 3) = false := by simp [h3]
        have R1 := hideIt (HSame.out fun q hq => by rw [h3', Bool.and_false])
        clear HSame HOs d0 d1
        go_wp2
        go_roundw
        case rel => exact ⟨k + 1, by omega, by go_num, HRA.out, R1.out, HBA.out⟩
        case measure => simp [intOf]; omega
    · obtain rfl : k = l.length := by omega
      have R : Hid (∀ q : Nat, q < 8 → cmK l (q : Int) l.length = commB l (q : Int)) := fun q hq => cmK_all l q hq
      obtain ⟨f, hf⟩ : ∃ f : Nat → Bool, f = fun q : Nat => cmK l (q : Int) l.length := ⟨_, rfl⟩
      have R' : Hid (∀ q : Nat, q < 8 → f q = commB l (q : Int)) := fun q hq => by rw [hf]; exact R.out q hq
      rw [← hf] at HO
      clear hf R
      obtain ⟨y0, y1, y2, y3, y4, y5, y6, y7⟩ := HO.out.eight
      obtain ⟨z0, z1, z2, z3, z4, z5, z6, z7⟩ := HR.out.eight
      have zf := HR.out.fz
      go_wp2
      refine bodyPost_ret (results_one rfl _ _ _ _ rfl (load71 (HR.out.store f).at_)) rfl ?_
      exact ⟨ret_oct R'.out, HB.out.grown (grown_setCells _ (octL f) 0 _) HB.out.size (fun b' hb' => by cases hb'; omega)⟩
end Go.Proofs.YtibdchahallbjabDoor
