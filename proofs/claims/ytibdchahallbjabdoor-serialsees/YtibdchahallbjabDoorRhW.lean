/-
  The document's Clashes, walked.
-/
import Derived.Test.YtibdchahallbjabDoorChW
namespace Go.Proofs.YtibdchahallbjabDoor
open Go.RowKit

/-- What the document's Clashes tells. -/
def RhTold (l : List Stp) (w : World) (e : Ending) (w' : World) : Prop :=
  ∃ v1 v2, e = .returned (.tuple #[v1, v2]) ∧ Below w.heap.size w w' ∧
    ((∃ L, sgO l = some L ∧ RowAt w' w.heap.size v1 (natI (comL l L)) ∧ v2 = .slice none 0 0) ∨
     (sgO l = none ∧ v1 = .slice none 0 0 ∧ HasI w' v2 (natI (cyL (sgR l))) ∧ 0 < (cyL (sgR l)).length))
theorem sg_round {l : List Stp} (h : sgO l = none) : ∃ c, cycD (gB (sgR l)) 8 = some c ∧ cyL (sgR l) = c ∧ 0 < c.length := by
  rcases cycD_spec (gB (sgR l)) 8 with ⟨c, e, hc⟩ | ⟨_, hno⟩
  · refine ⟨c, e, ?_, ?_⟩
    · unfold cyL; rw [if_pos (sgR_ok l), sgR_len, e]; rfl
    · exact hc.cyc.2.1
  · obtain ⟨L, hL⟩ := ord_iff.2 hno
    unfold sgO at h
    rw [hL] at h
    cases h

set_option maxRecDepth 100000 in
set_option maxHeartbeats 8000000 in
theorem rClashes_any (l : List Stp) (hok : ∀ s ∈ l, fltR s = 0) (a : Option Addr) (cap : Nat) (w : World) (hn : l.length ≤ 100) (hl : StpsQ w a l) :
    Calls Tryd.prog 11 #[.slice a l.length cap] w fun e w' => RhTold l w e w' := by
  have HL := hideIt hl
  have HC := hideIt (rSGraph_any l hok a cap w hn hl)
  clear hl hok
  unfold SgTold at HC
  unfold RhTold
  go_enter Tryd.func11, Tryd.ntmps11
  go_wp2_with fail
  refine HC.out.mono ?_
  clear HC
  rintro e w1 ⟨v1, gs, A, rfl, hout, hgs, hA, hb1⟩
  obtain ⟨a2, c2, rfl, hg2⟩ := grQ_read (hout.readM hgs)
  rw [sgR_of hA] at hg2
  have HG := hideIt hg2
  have HB1 := hideIt hb1
  clear hb1 hout hgs hA hg2
  have HC := hideIt (rOrder_any (sgR l) (sgR_ok l) a2 c2 w1 HG.out)
  have HS : Hid (ordG (gB (sgR l)) (sgR l).length (sgR l).length = sgO l) := by
    show _ = sgO l
    rw [sgR_len]; rfl
  unfold GoTold at HC
  rw [HS.out, sgR_len] at HC
  go_wp2_with fail
  refine HC.out.mono ?_
  clear HC
  rintro e w2 ⟨v2, okb, rfl, hcase, hb2⟩
  have HB2 := hideIt (belJ HB1.out hb2)
  rcases hcase with ⟨L, hO, rfl, hr2⟩ | ⟨hO, rfl, rfl⟩
  · have HR2 := hideIt hr2
    have HLt := hideIt (sgO_lt hO)
    have HO := hideIt hO
    obtain ⟨N, hN⟩ : ∃ N, L.length = N := ⟨_, rfl⟩
    have hnL : (natI L).length = N := by unfold natI; rw [List.length_map]; exact hN
    have hN8 : N ≤ 8 := by have := HLt.out.1; omega
    have HLN := hideIt hN
    obtain ⟨va, vc, hv2⟩ := hr2.slice
    rw [hnL] at hv2
    subst hv2
    clear hN hr2 hb2 hO
    have HCm : Hid (∀ W (x : Nat), Below w.heap.size w W → Calls Tryd.prog 27 #[.slice a l.length cap, .int .i64 (x : Int)] W fun e w' => e = .returned (.bool (commB l (x : Int))) ∧ Below W.heap.size W w') := fun W x hW => commits_any l a cap x W hn (HL.out.below hW)
    have hHR : (natI []).length = 0 := rfl
    have HR0 : Hid (RowAt (w2.alloc (.cells #[] 3)) w2.heap.size (.slice (some ⟨w2.heap.size, 0, none⟩) 0 0) (natI [])) := by
      have hnew := heap_alloc_new w2 (.cells #[] 3)
      refine .inr ⟨w2.heap.size, 0, 0, _, rfl, Nat.le_refl _, hnew, Nat.le_refl _, by simp, by decide, fun j hj => absurd hj (by simp [natI])⟩
    clear hHR
    go_wp2
    have HB3 : Hid (Below w2.heap.size w2 (w2.alloc (.cells #[] 3))) := belA (Below.refl _ _) _
    generalize w2.alloc _ = W at HR0 HB3 ⊢
    go_loopw [7, 24] (fun v c wr => ∃ k : Nat, k ≤ N ∧ c = .int .i64 k ∧ RowAt wr w2.heap.size v (natI (comL l (L.take k))) ∧ Below w2.heap.size w2 wr) (fun _ c _ => N - (intOf c).toNat)
    case atStart => exact ⟨0, Nat.zero_le _, rfl, HR0.out, HB3.out⟩
    case round =>
      clear HR0 HB3
      obtain ⟨k, hk, rfl, hrow, hb⟩ := hrel
      have HRow := hideIt hrow
      have HB := hideIt hb
      clear hrow hb
      obtain ⟨na, nc, rfl⟩ := HRow.out.slice
      by_cases hk8 : k < N
      · have hkL : k < L.length := by have := HLN.out; omega
        have HX : Hid (comL l (L.take (k + 1)) = comL l (L.take k) ++ if commB l (L[k] : Int) = true then [L[k]] else []) := filter_snoc (p := fun t => commB l (t : Int)) hkL
        obtain ⟨a3, c3, e3, _, hcell⟩ := (HR2.out.belowR HB.out).hasI
        injection e3 with e4 e5 e6
        subst e4 e6
        clear e5
        obtain ⟨g2, off2, rfl, r0⟩ := hcell k (by rw [hnL]; exact hk8)
        have hnk : (natI L)[k]'(by rw [hnL]; exact hk8) = (L[k] : Int) := by simp [natI]
        rw [hnk] at r0
        generalize L[k] = x at r0 HX
        have hk8' : (k : Int) < N := by omega
        have hfl : (natI (comL l (L.take k))).length ≤ 8 := by
          unfold natI
          rw [List.length_map]
          exact Nat.le_trans (List.length_filter_le _ _) (by rw [List.length_take]; omega)
        have HC := hideIt (HCm.out wr x (belJ HB2.out HB.out))
        clear hcell hnk
        generalize comL l (L.take k) = D at HRow HX hfl ⊢
        generalize commB l (x : Int) = cb at HX HC
        go_wp2_with fail
        refine HC.out.mono ?_
        clear HC
        rintro e w5 ⟨rfl, hb5⟩
        have HRow5 := hideIt (HRow.out.belowR hb5)
        have HB5 := hideIt (belJ HB.out hb5)
        have hWs := HB5.out.size
        clear hb5 r0
        cases cb
        · have R : Hid (comL l (L.take (k + 1)) = D) := by
            show _ = D
            rw [HX.out]; simp
          clear HX
          go_wp2
          go_roundw
          case rel => exact ⟨k + 1, by omega, by go_num, by rw [R.out]; exact HRow5.out, HB5.out⟩
          case measure => simp [intOf]; omega
        · have R : Hid (comL l (L.take (k + 1)) = D ++ [x]) := by
            show _ = D ++ [x]
            rw [HX.out]; simp
          clear HX
          have HRow2 : Hid (RowAt (w5.alloc (.cells #[.int .i64 (x : Int)] 3)) w2.heap.size (.slice na (natI D).length nc) (natI D)) := HRow5.out.belowR (belA (Below.refl _ _) _)
          go_wp2_with (at_builtin; refine wpList_append_row rfl _ _ rfl w2.heap.size _ (natI D) rfl HRow2.out w5.heap.size 1 (x : Int) rfl ?c1 ?c2 ?c3 ?_)
          case c1 => simp
          case c2 => omega
          case c3 => simp; omega
          intro v' w6 ht
          have HG2 : Hid (RowAt w6 w2.heap.size v' (natI (D ++ [x]))) := by
            show RowAt w6 w2.heap.size v' (natI (D ++ [x]))
            rw [natI_app]; exact ht.row
          have HG3 : Hid (Below w2.heap.size w2 w6) := (belA HB5.out _).grown ht.grown (by simp; omega) (fun j hj => (HRow.out.lt j hj).1)
          clear ht
          go_wp2
          go_roundw
          case rel => exact ⟨k + 1, by omega, by go_num, by rw [R.out]; exact HG2.out, HG3.out⟩
          case measure => simp [intOf]; omega
      · obtain rfl : k = N := by omega
        have hT : L.take k = L := List.take_of_length_le (by have := HLN.out; omega)
        have HEnd : Hid (RowAt wr w.heap.size (.slice na (natI (comL l (L.take k))).length nc) (natI (comL l L))) := by
          have := HRow.out.base HB2.out.size
          rw [hT] at this ⊢
          exact this
        go_wp2
        go_ret2
        exact ⟨_, _, rfl, belJ HB2.out HB.out, .inl ⟨L, HO.out, HEnd.out, rfl⟩⟩
  · obtain ⟨c, hc1, hc2, hc3⟩ := sg_round hO
    have HC := hideIt (rCycle_any (sgR l) (sgR_ok l) a2 c2 w2 (HG.out.below hb2))
    unfold CdTold at HC
    rw [sgR_len, hc1] at HC
    have HO := hideIt hO
    have HC2 := hideIt hc2
    clear hO hb2 hc1 hc2
    go_wp2_with fail
    refine HC.out.mono ?_
    clear HC
    rintro e w3 ⟨v3, rfl, hcase, hb3⟩
    have HB3 := hideIt (belJ HB2.out hb3)
    have HI : Hid (HasI w3 v3 (natI c)) := by
      rcases hcase with ⟨h, _⟩ | ⟨c', h, h'⟩
      · cases h
      · obtain rfl := Option.some.inj h; exact h'
    clear hcase hb3
    go_wp2
    go_ret2
    exact ⟨_, _, rfl, HB3.out, .inr ⟨HO.out, rfl, by rw [HC2.out]; exact HI.out, by rw [HC2.out]; exact hc3⟩⟩
end Go.Proofs.YtibdchahallbjabDoor
