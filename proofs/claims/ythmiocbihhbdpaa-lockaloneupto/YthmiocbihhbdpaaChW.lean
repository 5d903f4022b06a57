/-
  The program's Clashes, walked.
-/
import Derived.Test.YthmiocbihhbdpaaSgR
namespace Go.Proofs.Ythmiocbihhbdpaa
open Go.RowKit

set_option maxRecDepth 100000 in
set_option maxHeartbeats 8000000 in
theorem clashes_any (l : List Stp) (a : Option Addr) (cap : Nat) (w : World) (hmax : l.length ≤ maxLen) (hl : StpsQ w a l) :
    Calls Try.prog 7 #[.slice a l.length cap] w fun e w' => ChTold l w e w' := by
  have HL := hideIt hl
  have HC := hideIt (sGraph_any l a cap w hmax hl)
  clear hl
  unfold PgTold at HC
  unfold ChTold
  go_enter Try.func7, Try.ntmps7
  go_wp2_with fail
  refine HC.out.mono ?_
  clear HC
  rintro e w1 ⟨v1, er1, n, pl, rfl, her, hck, hno, hok, hb1⟩
  have HE := hideIt her
  have HK := hideIt hck
  have HB1 := hideIt hb1
  clear her hck hb1
  by_cases hn0 : n = 0
  · subst hn0
    obtain ⟨h60, hoks, rfl⟩ := HK.out.ok
    have hnil : er1 = .nilIface := by
      rcases HE.out with ⟨_, _, h⟩ | ⟨h, _⟩ | ⟨h, _⟩
      · exact h
      · exact absurd rfl h
      · exact absurd rfl h
    subst hnil
    obtain ⟨G, rb, A, rfl, hM, hA⟩ := hok rfl
    obtain ⟨a2, c2, e2, hg2⟩ := grQ_read hM.readM
    injection e2 with e3 e4 e5
    subst e3 e5
    rw [sgR_of hA] at hg2
    have HG := hideIt hg2
    clear hno hok hM hA hg2 hoks
    have HC := hideIt (gOrder_any (sgR l) (some ⟨G, 0, none⟩) 8 w1 (by rw [sgR_len]; decide) (sgR_rows l) HG.out)
    rw [sgR_len] at HC
    unfold PoTold at HC
    cases hO : sgO l with
    | none =>
      rw [(sgO_none hO).1, (sgO_none hO).2] at HC
      have HO := hideIt hO
      have ht : toldV 11 = .iface 45 (.int .i64 11) := rfl
      rw [ht] at HC
      clear hO
      go_wp2_with fail
      refine HC.out.mono ?_
      clear HC
      rintro e w2 ⟨v2, rfl, _, hb2⟩
      have HB2 := hideIt (belJ HB1.out hb2)
      have HC := hideIt (gCycle_any (sgR l) (some ⟨G, 0, none⟩) 8 w2 (by rw [sgR_len]; decide) (sgR_rows l) (HG.out.below hb2))
      rw [sgR_len] at HC
      unfold PyTold at HC
      clear hb2
      go_wp2_with fail
      refine HC.out.mono ?_
      clear HC
      rintro e w3 ⟨v3, rfl, hr3, hb3⟩
      have HR := hideIt (hr3.base HB2.out.size)
      have HB3 := hideIt (belJ HB2.out hb3)
      clear hr3 hb3
      go_wp2
      refine bodyPost_ret (v := .tuple #[.slice none 0 0, v3, .iface 45 (.int .i64 11)]) (by simp [results, Try.results7, go_sem]) rfl ?_
      exact ⟨_, _, _, 0, -1, rfl, HK.out, HB3.out, .inr (.inr ⟨rfl, HO.out, rfl, HR.out, rfl⟩)⟩
    | some L =>
      rw [(sgO_order hO).1, (sgO_order hO).2] at HC
      have HLt := hideIt (sgO_lt hO)
      have HO := hideIt hO
      have ht : toldV 0 = .nilIface := rfl
      rw [ht] at HC
      clear hO
      go_wp2_with fail
      refine HC.out.mono ?_
      clear HC
      rintro e w2 ⟨v2, rfl, hr2, hb2⟩
      have HB2 := hideIt (belJ HB1.out hb2)
      have HR2 := hideIt hr2
      have hL8 : L.length = 8 := HLt.out.1
      obtain ⟨N, hN⟩ : ∃ N, L.length = N := ⟨_, rfl⟩
      have hnL : (natI L).length = N := by unfold natI; rw [List.length_map]; exact hN
      have hN8 : N ≤ 8 := by omega
      have HLN := hideIt hN
      clear hL8 hN
      obtain ⟨va, vc, hv2⟩ := hr2.slice
      rw [hnL] at hv2
      subst hv2
      have HC := hideIt (committed_any l a cap w2 (by omega) (HL.out.below HB2.out))
      clear hr2 hb2
      obtain ⟨f, hf⟩ : ∃ f : Nat → Bool, f = fun q : Nat => commB l (q : Int) := ⟨_, rfl⟩
      rw [← hf] at HC
      have HFq : Hid (∀ q : Nat, f q = commB l (q : Int)) := fun q => by rw [hf]
      clear hf
      unfold octA at HC
      go_wp2_with fail
      refine HC.out.mono ?_
      clear HC
      rintro e w3 ⟨rfl, hb3⟩
      have HO3 := hideIt (octB_new w3 f 62)
      have HB3 : Hid (Below w.heap.size w (w3.alloc (octO f 62))) := belA (belJ HB2.out hb3) _
      have HR3 : Hid (RowAt (w3.alloc (octO f 62)) w1.heap.size (.slice va N vc) (natI L)) := (HR2.out.belowR hb3).belowR (belA (Below.refl _ _) _)
      unfold octO at HO3 HB3 HR3
      clear hb3
      go_wp2
      generalize w3.alloc _ = W at HO3 HB3 HR3 ⊢
      generalize w3.heap.size = C at HO3 ⊢
      clear HR2 HB2
      go_loopw [2, 36] (fun v c wr => ∃ k : Nat, k ≤ N ∧ c = .int .i64 k ∧ RowAt wr W.heap.size v (natI (comL l (L.take k))) ∧ Below W.heap.size W wr) (fun _ c _ => N - (intOf c).toNat)
      case atStart => exact ⟨0, Nat.zero_le _, rfl, rowAt_nil _ _, Below.refl _ _⟩
      case round =>
        obtain ⟨k, hk, rfl, hrow, hb⟩ := hrel
        have HRow := hideIt hrow
        have HB := hideIt hb
        clear hrow hb
        obtain ⟨na, nc, rfl⟩ := HRow.out.slice
        by_cases hk8 : k < N
        · have hkL : k < L.length := by have := HLN.out; omega
          have hx8 := HLt.out.2 _ (List.getElem_mem hkL)
          have HX : Hid (comL l (L.take (k + 1)) = comL l (L.take k) ++ if commB l (L[k] : Int) = true then [L[k]] else []) := filter_snoc (p := fun t => commB l (t : Int)) hkL
          obtain ⟨a2, c2, e2, _, hcell⟩ := (HR3.out.belowR HB.out).hasI
          injection e2 with e3 e4 e5
          subst e3 e5
          clear e4
          obtain ⟨g2, off2, rfl, r0⟩ := hcell k (by rw [hnL]; exact hk8)
          have hnk : (natI L)[k]'(by rw [hnL]; exact hk8) = (L[k] : Int) := by simp [natI]
          rw [hnk] at r0
          generalize L[k] = x at r0 hx8 HX
          have o0 := (HO3.out.below HB.out HO3.out.lt).at' hx8
          rw [HFq.out x] at o0
          have hk8' : (k : Int) < N := by omega
          have hx8' : (x : Int) < 8 := by omega
          have hfl : (natI (comL l (L.take k))).length ≤ 8 := by
            unfold natI
            rw [List.length_map]
            exact Nat.le_trans (List.length_filter_le _ _) (by rw [List.length_take]; omega)
          have hWs := HB.out.size
          clear hcell hnk
          generalize comL l (L.take k) = D at HRow HX hfl ⊢
          generalize commB l (x : Int) = cb at o0 HX
          cases cb
          · have R : Hid (comL l (L.take (k + 1)) = D) := by
              show _ = D
              rw [HX.out]; simp
            clear HX
            go_wp2
            go_roundw
            case rel => exact ⟨k + 1, by omega, by go_num, by rw [R.out]; exact HRow.out, HB.out⟩
            case measure => simp [intOf]; omega
          · have R : Hid (comL l (L.take (k + 1)) = D ++ [x]) := by
              show _ = D ++ [x]
              rw [HX.out]; simp
            clear HX
            have HRow2 : Hid (RowAt (wr.alloc (.cells #[.int .i64 (x : Int)] 3)) W.heap.size (.slice na (natI D).length nc) (natI D)) := HRow.out.belowR (belA (Below.refl _ _) _)
            go_wp2_with (at_builtin; refine wpList_append_row rfl _ _ rfl W.heap.size _ (natI D) rfl HRow2.out wr.heap.size 1 (x : Int) rfl ?c1 ?c2 ?c3 ?_)
            case c1 => simp
            case c2 => omega
            case c3 => simp; omega
            intro v' w6 ht
            have HG2 : Hid (RowAt w6 W.heap.size v' (natI (D ++ [x]))) := by
              show RowAt w6 W.heap.size v' (natI (D ++ [x]))
              rw [natI_app]; exact ht.row
            have HG3 : Hid (Below W.heap.size W w6) := (belA HB.out _).grown ht.grown (by simp; omega) (fun j hj => (HRow.out.lt j hj).1)
            clear ht
            go_wp2
            go_roundw
            case rel => exact ⟨k + 1, by omega, by go_num, by rw [R.out]; exact HG2.out, HG3.out⟩
            case measure => simp [intOf]; omega
        · obtain rfl : k = N := by omega
          have hT : L.take k = L := List.take_of_length_le (by have := HLN.out; omega)
          have HEnd : Hid (RowAt wr w.heap.size (.slice na (natI (comL l (L.take k))).length nc) (natI (comL l L))) := by
            have := HRow.out.base HB3.out.size
            rw [hT] at this ⊢
            exact this
          go_wp2
          refine bodyPost_ret (v := .tuple #[.slice na (natI (comL l (L.take k))).length nc, .slice none 0 0, .nilIface]) (by simp [results, Try.results7, go_sem]) rfl ?_
          exact ⟨_, _, _, 0, -1, rfl, HK.out, belJ HB3.out HB.out, .inr (.inl ⟨rfl, L, HO.out, HEnd.out, rfl, rfl⟩)⟩
  · have hne : ∃ t x, er1 = .iface t x := by
      rcases HE.out with ⟨h, _⟩ | ⟨_, _, h⟩ | ⟨_, _, g, h, _⟩
      · exact absurd h hn0
      · exact ⟨_, _, h⟩
      · exact ⟨_, _, h⟩
    obtain ⟨t, x, rfl⟩ := hne
    obtain rfl := hno hn0
    clear hno hok
    go_wp2
    refine bodyPost_ret (v := .tuple #[.slice none 0 0, .slice none 0 0, .iface t x]) (by simp [results, Try.results7, go_sem]) rfl ?_
    exact ⟨_, _, _, n, pl, rfl, HK.out, HB1.out, .inl ⟨hn0, rfl, rfl, HE.out⟩⟩
end Go.Proofs.Ythmiocbihhbdpaa
