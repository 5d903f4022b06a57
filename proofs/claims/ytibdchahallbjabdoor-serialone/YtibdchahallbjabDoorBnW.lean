/-
  The statement SerialBernstein, walked.
-/
import Derived.Test.YtibdchahallbjabDoorBhPZ
import Derived.Test.YtibdchahallbjabDoorMxW
import Derived.Test.YtibdchahallbjabDoorInT
import Derived.Test.YtibdchahallbjabDoorLhW
namespace Go.Proofs.YtibdchahallbjabDoor
open Go.RowKit

theorem tell_told (v : Value) (n pl : Int) (w : World) (he : ErrAt w v n pl) (hg : TypAt w) : Calls Tryd.prog 20 #[v] w fun e w' => e = .returned (.int .i64 n) ∧ Below w.heap.size w w' := by
  rcases he with ⟨rfl, rfl, rfl⟩ | ⟨_, rfl, rfl⟩ | ⟨_, _, g, rfl, _, c0, _⟩
  · refine (tell_nil w).mono ?_
    rintro e w' ⟨rfl, rfl⟩
    exact ⟨rfl, Below.refl _ _⟩
  · exact tell_errno n w hg
  · exact tell_at n g w hg c0
theorem fltR_few (s : Stp) : fltR s = 0 ∨ fltR s = 1 ∨ fltR s = 2 := by
  unfold fltR
  split
  · exact .inr (.inr rfl)
  · split
    · exact .inr (.inl rfl)
    · exact .inl rfl
theorem ckS_few {l : List Stp} {n pl : Int} (h : CkS l n pl) : n ≤ 6 := by
  rcases h with ⟨_, rfl, _⟩ | ⟨_, ⟨_, rfl, _⟩ | ⟨k, _, _, _, rfl, _⟩⟩
  · decide
  · decide
  · unfold fltQ
    have := fltR_few (stZ l k)
    split
    · split <;> decide
    · omega
theorem ckS_of {l : List Stp} (h : l.length ≤ 60) (ok : OkS l) : CkS l 0 (-1) := .inr ⟨h, .inl ⟨ok, rfl, rfl⟩⟩

set_option maxRecDepth 100000 in
set_option maxHeartbeats 8000000 in
theorem bn_walk (l : List Stp) (a : Option Addr) (cap : Nat) (w : World) (h : InT w a cap l) :
    Calls Tryd.prog 6 #[.slice a l.length cap] w fun e w' => e = .returned (.bool true) ∧ Below w.heap.size w w' := by
  have HI := hideIt h
  have hm2 : l.length ≤ 9223372036854775807 := h.max
  clear h
  by_cases h70 : l.length ≤ 70
  · have HC := hideIt (clashes_any l a cap w HI.out.max HI.out.at_)
    have HM : Hid (∀ W, Below w.heap.size w W → Calls Tryd.prog 19 #[] W fun e w' => e = .returned (.bool true) ∧ Below W.heap.size W w') := fun W hW => mixes_any W (HI.out.typ.below hW)
    unfold ChTold at HC
    go_enter Tryd.func6, Tryd.ntmps6
    go_wp2_with fail
    refine HC.out.mono ?_
    clear HC
    rintro e w1 ⟨v1, v2, er, n, pl, rfl, hck, hb1, hcase⟩
    have HB1 := hideIt hb1
    have HK := hideIt hck
    have HC := hideIt (HM.out w1 hb1)
    clear hb1 hck
    rcases hcase with ⟨hn0, rfl, rfl, her⟩ | ⟨rfl, L, hO, hrow, rfl, rfl⟩ | ⟨rfl, hO, rfl, hrow, rfl⟩
    · have hne : ∃ t x, er = .iface t x := by
        rcases her with ⟨h, _⟩ | ⟨_, _, h⟩ | ⟨_, _, g, h, _⟩
        · exact absurd h hn0
        · exact ⟨_, _, h⟩
        · exact ⟨_, _, h⟩
      obtain ⟨t, x, rfl⟩ := hne
      have HE := hideIt her
      have hn11 : (n == 11) = false := by
        have := ckS_few HK.out
        simp; omega
      clear her
      go_wp2_with fail
      refine HC.out.mono ?_
      clear HC
      rintro e w2 ⟨rfl, hb2⟩
      have HB2 := hideIt (belJ HB1.out hb2)
      have HC := hideIt (HM.out w2 HB2.out)
      have HE2 := hideIt (HE.out.below hb2)
      clear hb2
      go_wp2_with fail
      refine HC.out.mono ?_
      clear HC
      rintro e w3 ⟨rfl, hb3⟩
      have HB3 := hideIt (belJ HB2.out hb3)
      have HC := hideIt (tell_told _ n pl w3 (HE2.out.below hb3) (HI.out.typ.below HB3.out))
      clear hb3
      go_wp2_with fail
      refine HC.out.mono ?_
      clear HC
      rintro e w4 ⟨rfl, hb4⟩
      go_wp2
      go_ret
      exact ⟨rfl, belJ HB3.out hb4⟩
    · obtain ⟨h60, hok, rfl⟩ := HK.out.ok
      have HOk : Hid (OkS l) := hok
      have HO := hideIt hO
      have HR1 := hideIt hrow
      obtain ⟨va, vc, rfl⟩ := hrow.slice
      have hcl := com_len HOk.out hO
      have hc8 : (comL l L).length ≤ 8 := Nat.le_trans (List.length_filter_le _ _) (Nat.le_of_eq (sgO_lt hO).1)
      have hnl : (natI (comL l L)).length = comN l := by rw [natI_len]; exact hcl
      have HLen := hideIt hnl
      have HCm := hideIt (comN_eq HOk.out)
      rw [hnl]
      clear hok hO hrow hnl hcl
      go_wp2_with fail
      refine HC.out.mono ?_
      clear HC
      rintro e w2 ⟨rfl, hb2⟩
      have HB2 := hideIt (belJ HB1.out hb2)
      have HI2 := (HR1.out.belowR hb2).hasI
      rw [HLen.out] at HI2
      have HC := hideIt (behind_any l (natI (comL l L)) a cap _ w2 (by omega) (by rw [natI_len]; exact hc8) (HI.out.at_.below HB2.out) HI2)
      clear hb2 HI2 HR1
      obtain ⟨S, hS⟩ : ∃ S, behL (doneL l) (natI (comL l L)) = S := ⟨_, rfl⟩
      have HSk := hideIt (bern_step HOk.out HO.out)
      have hSl := bern_len HOk.out HO.out
      have HSg := hideIt (fun t u => bern_graph (l := l) HO.out t u)
      rw [hS] at HC HSk hSl HSg
      clear hS
      go_wp2_with fail
      refine HC.out.mono ?_
      clear HC
      rintro e w3 ⟨a3, c3, rfl, hc3, hq3, hb3⟩
      have HB3 := hideIt (belJ HB2.out hb3)
      have HQ3 := hideIt hq3
      have HC := hideIt (sGraph_any l a cap w3 HI.out.max (HI.out.at_.below HB3.out))
      unfold PgTold at HC
      clear hb3 hq3
      go_wp2_with fail
      refine HC.out.mono ?_
      clear HC
      rintro e w4 ⟨v4, er4, n4, pl4, rfl, her4, hck4, _, hok4, hb4⟩
      obtain ⟨rfl, rfl⟩ := hck4.one HK.out
      obtain ⟨G, rb, A, rfl, hM4, hA4⟩ := hok4 rfl
      have hnil4 : er4 = .nilIface := by
        rcases her4 with ⟨_, _, h⟩ | ⟨h, _⟩ | ⟨h, _⟩
        · exact h
        · exact absurd rfl h
        · exact absurd rfl h
      subst hnil4
      have HB4 := hideIt (belJ HB3.out hb4)
      have HM4 := hideIt hM4.readM
      have HA4 := hideIt hA4
      have hS7 : S.length ≤ maxLen := by unfold maxLen; omega
      have HC := hideIt (sGraph_any S a3 c3 w4 hS7 (HQ3.out.below hb4))
      unfold PgTold at HC
      clear her4 hck4 hok4 hM4 hA4 hb4 hS7
      go_wp2_with fail
      refine HC.out.mono ?_
      clear HC
      rintro e w5 ⟨v5, er5, n5, pl5, rfl, her5, hck5, _, hok5, hb5⟩
      obtain ⟨rfl, rfl⟩ := hck5.one (ckS_of (by omega) HSk.out)
      obtain ⟨G5, rb5, A5, rfl, hM5, hA5⟩ := hok5 rfl
      have hnil5 : er5 = .nilIface := by
        rcases her5 with ⟨_, _, h⟩ | ⟨h, _⟩ | ⟨h, _⟩
        · exact h
        · exact absurd rfl h
        · exact absurd rfl h
      subst hnil5
      have HB5 := hideIt (belJ HB4.out hb5)
      have HM5 := hideIt (HM4.out.below hb5)
      have HN5 : Hid (ReadM w5 (.slice (some ⟨G5, 0, none⟩) 8 8) 8 A) := hM5.readM.same fun i k hi hk => by
        rw [Bool.eq_iff_iff, hA5 i k hi hk, HA4.out i k hi hk]
        exact HSg.out i k
      clear her5 hck5 hok5 hM5 hA5 hb5
      have HC := hideIt (kCommits_any l a cap w5 (by omega) (HI.out.at_.below HB5.out))
      have hne : ((comN l : Int) != (comN l : Int)) = false := by simp
      go_wp2_with fail
      refine HC.out.mono ?_
      clear HC
      rintro e w6 ⟨rfl, rfl⟩
      go_wp2
      clear hne
      go_loopw [11] (fun i wr => ∃ k : Nat, k ≤ 8 ∧ i = .int .i64 k ∧ Below w6.heap.size w6 wr) (fun i _ => 8 - (intOf i).toNat)
      case atStart => exact ⟨0, by omega, rfl, Below.refl _ _⟩
      case round =>
        obtain ⟨k, hk, rfl, hb⟩ := hrel
        have HB := hideIt hb
        clear hb
        by_cases hk8 : k < 8
        · have hk8' : (k : Int) < 8 := by omega
          go_wp2
          go_loopw [12] (fun i wr => ∃ j : Nat, j ≤ 8 ∧ i = .int .i64 j ∧ Below w6.heap.size w6 wr) (fun i _ => 8 - (intOf i).toNat)
          case atStart => exact ⟨0, by omega, rfl, HB.out⟩
          case round =>
            clear HB
            obtain ⟨j, hj, rfl, hb⟩ := hrel
            have HB := hideIt hb
            clear hb
            by_cases hj8 : j < 8
            · have hj8' : (j : Int) < 8 := by omega
              obtain ⟨ga, gc, e1, _, hg⟩ := HM5.out.below HB.out
              injection e1 with e1 e2 e3
              subst e1 e3
              obtain ⟨g1, o1, r1, e4, x1, hx⟩ := hg k hk8
              injection e4 with e4
              injection e4 with e4 e5
              subst e4 e5
              have x2 := hx j hj8
              obtain ⟨gb, gd, e6, _, hh⟩ := HN5.out.below HB.out
              injection e6 with e6 e7 e8
              subst e6 e8
              obtain ⟨g2, o2, r2, e9, y1, hy⟩ := hh k hk8
              injection e9 with e9
              injection e9 with e9 e10
              subst e9 e10
              have y2 := hy j hj8
              rw [Nat.zero_add] at x1 y1
              clear hg hh hx hy e2 e7
              generalize A k j = ab at x2 y2
              have hab : (ab != ab) = false := by simp
              have HBn : Hid (∀ n, Below w6.heap.size w6 (wr.drewN n)) := fun n => below_drewN HB.out n
              go_upto_region 17 with fail
              go_quiet (fail)
              go_wp2
              go_roundw
              case rel => exact ⟨j + 1, by omega, by go_num, HBn.out _⟩
              case measure => simp [intOf]; omega
            · obtain rfl : j = 8 := by omega
              go_wp2
              go_roundw
              case rel => exact ⟨k + 1, by omega, by go_num, HB.out⟩
              case measure => simp [intOf]; omega
        · obtain rfl : k = 8 := by omega
          have HBa := hideIt (belJ HB5.out HB.out)
          have HC := hideIt (kCommits_any l a cap wr (by omega) (HI.out.at_.below HBa.out))
          go_wp2_with fail
          refine HC.out.mono ?_
          clear HC
          rintro e w7 ⟨rfl, rfl⟩
          by_cases h5 : comN l ≤ 5
          · have h5' : (comN l : Int) ≤ 5 := by omega
            have HC := hideIt (sees_any l a cap w7 HI.out.max (HI.out.at_.below HBa.out))
            unfold SeTold at HC
            have HSs := hideIt (bern_sees HOk.out HO.out)
            go_wp2_with fail
            refine HC.out.mono ?_
            clear HC
            rintro e w8 ⟨v8, er8, n8, pl8, rfl, hck8, hb8, hcs⟩
            obtain ⟨rfl, rfl⟩ := hck8.one HK.out
            have hnil : er8 = .nilIface := by
              rcases hcs with ⟨h, _⟩ | ⟨_, h, _⟩ | ⟨_, _, h, _⟩ | ⟨_, _, c, _, _, h⟩
              · exact absurd rfl h
              · rw [← HCm.out] at h; omega
              · have := HSs.out; rw [h] at this; cases this
              · exact h
            subst hnil
            have HB8 := hideIt (belJ HBa.out hb8)
            clear hcs hb8 hck8
            go_wp2
            go_ret
            exact ⟨rfl, HB8.out⟩
          · have h5' : (5 : Int) < comN l := by omega
            go_wp2
            go_ret
            exact ⟨rfl, HBa.out⟩
    · have HR1 := hideIt hrow
      have hl2 := sg_two hO
      obtain ⟨va, vc, rfl⟩ := hrow.slice
      have ht : toldV 11 = .iface 25 (.int .i64 11) := rfl
      rw [ht]
      have hpos : (0 : Int) < (natI (cyL (sgR l))).length := by rw [natI_len]; omega
      generalize (natI (cyL (sgR l))).length = cn at hpos ⊢
      have HPos : Hid (decide (0 < cn) = true) := by
        show _ = _
        simp; omega
      clear hrow hO HR1 hl2 hpos
      go_wp2_with fail
      refine HC.out.mono ?_
      clear HC
      rintro e w2 ⟨rfl, hb2⟩
      have HB2 := hideIt (belJ HB1.out hb2)
      have HC := hideIt (HM.out w2 HB2.out)
      clear hb2
      go_wp2_with fail
      refine HC.out.mono ?_
      clear HC
      rintro e w3 ⟨rfl, hb3⟩
      have HB3 := hideIt (belJ HB2.out hb3)
      have HC := hideIt (tell_errno 11 w3 (HI.out.typ.below HB3.out))
      clear hb3
      go_wp2_with fail
      refine HC.out.mono ?_
      clear HC
      rintro e w4 ⟨rfl, hb4⟩
      go_wp2
      go_ret
      exact ⟨ret_bool HPos.out, belJ HB3.out hb4⟩
  · have h70' : (70 : Int) < l.length := by omega
    go_enter Tryd.func6, Tryd.ntmps6
    go_wp2
    go_ret
    exact ⟨rfl, Below.refl _ _⟩
end Go.Proofs.YtibdchahallbjabDoor
