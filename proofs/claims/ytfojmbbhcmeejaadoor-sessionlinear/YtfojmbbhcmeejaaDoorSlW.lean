/-
  The statement SessionLinear, walked.
-/
import Derived.Test.YtfojmbbhcmeejaaDoorGkPZ
import Derived.Test.YtfojmbbhcmeejaaDoorCoW
import Derived.Test.YtfojmbbhcmeejaaDoorRpWZ
namespace Go.Proofs.YtfojmbbhcmeejaaDoor
open Go.RowKit

theorem causal_ckL {l : List Opn} (ok : KOk l) : CkTold 1 l 0 := by
  refine .inr (.inr ⟨ok.told, ?_, rfl⟩)
  rw [List.any_eq_false]
  intro x hx
  obtain ⟨i, hi, e⟩ := List.getElem_of_mem hx
  rw [← e, ← opZ_at hi]
  rcases ok.kind i hi with e | e <;> simp [knowsB, e]

theorem runK_ofL {l : List Opn} (ok : KOk l) {c : Sr} (hc : c.ops = l) (ho : c.o = 1) {ord : List Nat} {S : Int → List Int} (h : Reach c ord S) (hov : overB c.ops ord = true) : RunK l ord := by
  subst hc
  refine ⟨(List.perm_ext_iff_of_nodup (reach_nodup h) List.nodup_range).2 fun n => ⟨fun hn => List.mem_range.2 (reach_range h n hn), fun hn => ?_⟩, fun j hj => ?_⟩
  · simp only [overB, List.all_eq_true] at hov
    have hl := List.mem_range.1 hn
    have := hov n hn
    simp at this
    rcases this with h1 | h1
    · have hb := ok.back n hl
      rw [opN_at hl, ← opZ_at hl] at h1
      omega
    · exact h1
  · rw [← ho]; exact (reach_run h).2 j hj

/-- Of what the search tells: nothing is broken. -/
theorem lin_core {l : List Opn} (hk : KTold l 0) {bud : Nat} (h : (searchM (srB 1 l bud)).code = 1) :
    RunK l (searchM (srB 1 l bud)).ord ∧ STold l (versJ l (searchM (srB 1 l bud)).ord (searchM (srB 1 l bud)).ord.length) 0 ∧ ∀ g, brkI l (versJ l (searchM (srB 1 l bud)).ord (searchM (srB 1 l bud)).ord.length) g = (-1, -1) := by
  have ok := kOk_of hk
  obtain ⟨S, hR, ho⟩ := search_valid h
  have hrun := runK_ofL ok (c := srB 1 l bud) rfl rfl hR ho
  refine ⟨hrun, lin_told ok hrun hk, lin_whole ok hrun fun i j hij hj => ?_⟩
  have ht := reach_timely hR j hj i hij
  have hlj := hrun.lt hj
  have hli := hrun.lt (Nat.lt_trans hij hj)
  have e : (srB 1 l bud).ah = beforeB := rfl
  have e' : (srB 1 l bud).ops = l := rfl
  rw [e, e', opN_at hlj, opN_at hli, ← opZ_at hlj, ← opZ_at hli] at ht
  exact ht

theorem ord_cells {w : World} {base : Nat} {va : Option Addr} {vn vc : Nat} {ord : List Nat} (h : w.ownsRow base 3 1 (.slice va vn vc) ord.length (ordV ord)) :
    vn = ord.length ∧ ∀ k, (hk : k < ord.length) → ∃ G, va = some ⟨G, 0, none⟩ ∧ G < w.heap.size ∧ w.cell? ⟨G, k, none⟩ = some (.int .i64 (ord[k] : Nat)) := by
  obtain ⟨hl, ⟨e, h0⟩ | ⟨g, cap, cur, e, hb, hh, h1, h2, h3, h4⟩⟩ := h
  · injection e with e1 e2 e3
    exact ⟨by omega, fun k hk => absurd hk (by omega)⟩
  · injection e with e1 e2 e3
    refine ⟨e2, fun k hk => ⟨g, e1, lt_of_heap hh, ?_⟩⟩
    rw [cell_of_row _ _ _ _ 3 _ hh]
    have e : (cur.toList.take (ord.length * 1))[k]? = (ordV ord)[k]? := by rw [h4]
    rw [List.getElem?_take_of_lt (by omega), Array.getElem?_toList] at e
    rw [e]
    simp [ordV, List.getElem?_eq_getElem hk]

set_option maxRecDepth 100000 in
set_option maxHeartbeats 4000000 in
theorem sl_walk (ops : List Opn) (u : Value) (w : World) (hl : OpsIn w u ops) (hK : KnownAt w) :
    Calls Tryd.prog 8 #[u] w fun e w' => e = .returned (.bool true) ∧ Below w.heap.size w w' := by
  have hpos : 0 < w.heap.size := World.block_lt_of_cell? w ⟨0, 0 * 13 + 0, none⟩ (hK 0 0 (by decide) (by decide))
  obtain ⟨a, cap, rfl, hcap, hml, hh⟩ := opsQ_in hl
  unfold maxLen at hml
  by_cases h8 : 8 < ops.length
  · have h8' : decide (8 < (ops.length : Int)) = true := by simp; omega
    clear hl hh hK
    go_enter Tryd.func8, Tryd.ntmps8
    go_wp2
    go_ret
    exact ⟨rfl, Below.refl _ _⟩
  · have h8' : decide (8 < (ops.length : Int)) = false := by simp; omega
    have HF := hideIt (kCheck_any ops a cap w (by omega) hcap hh)
    have HT : Hid (∀ w1, Below w.heap.size w w1 → Calls Tryd.prog 18 #[] w1 fun e w' => e = .returned (.bool true) ∧ Below w1.heap.size w1 w') := hideIt (fun w1 hb => toldK_any w1 (hK.below hpos hb))
    have HC : Hid (∀ w1, Below w.heap.size w w1 → Calls Tryd.prog 24 #[.int .i64 1, .slice a ops.length cap, .int .i64 1000000] w1 fun e w' => JTold 1 1000000 ops w1 e w') := hideIt (fun w1 hb => check_any 1 1000000 ops _ w1 (by omega) (hl.below hb) (hK.below hpos hb))
    have HQ := hideIt hh
    have H22 : Hid (∀ W v V, Below w.heap.size w W → VersAt W v V → ShortV V → Calls Tryd.prog 22 #[.slice a ops.length cap, v] W fun e w' => BkTold ops V W e w') := fun W v V hW hv hs => broken_any ops V a cap v W (by omega) hcap (HQ.out.below hW) hv hs
    clear hl hh hK
    go_enter Tryd.func8, Tryd.ntmps8
    go_wp2_with fail
    refine HF.out.mono ?_
    rintro e w1 ⟨n, rfl, hct, hb1⟩
    have HB1 := hideIt hb1
    have HCT := hideIt hct
    clear hb1 hct HF
    by_cases hn : n = 0
    · subst hn
      rw [show toldV 0 = .nilIface from by simp [toldV]]
      have HOk := hideIt (kOk_of HCT.out)
      have HLC : Hid (LcTold 1 1000000 ops 0) := .inr (.inr ⟨rfl, by decide, by decide, causal_ckL HOk.out⟩)
      have HCore : Hid ((searchM (srB 1 ops 1000000)).code = 1 → RunK ops (searchM (srB 1 ops 1000000)).ord ∧ STold ops (versJ ops (searchM (srB 1 ops 1000000)).ord (searchM (srB 1 ops 1000000)).ord.length) 0 ∧ ∀ g, brkI ops (versJ ops (searchM (srB 1 ops 1000000)).ord (searchM (srB 1 ops 1000000)).ord.length) g = (-1, -1)) := fun h => lin_core HCT.out h
      go_wp2_with fail
      refine (HC.out _ HB1.out).mono ?_
      rintro e w2 ⟨hb2, ⟨n2, hn2, hlc, rfl⟩ | ⟨hlc, ov, rfl, ho1, ho2⟩⟩
      · exact absurd (lcTold_one hlc HLC.out) hn2
      · rw [show ((1000000 : Int)).toNat = 1000000 from rfl] at ho1 ho2 ⊢
        have HB2 := hideIt (belJ HB1.out hb2)
        have HR : Hid ((searchM (srB 1 ops 1000000)).code = 1 → w2.ownsRow w1.heap.size 3 1 ov (searchM (srB 1 ops 1000000)).ord.length (ordV (searchM (srB 1 ops 1000000)).ord)) := ho1
        have hov : ∃ va vn vc, ov = .slice va vn vc := by
          by_cases h1 : (searchM (srB 1 ops 1000000)).code = 1
          · rcases (ho1 h1).2 with ⟨e, _⟩ | ⟨g, cp, cur, e, _⟩
            · exact ⟨_, _, _, e⟩
            · exact ⟨_, _, _, e⟩
          · exact ⟨_, _, _, ho2 h1⟩
        obtain ⟨va, vn, vc, rfl⟩ := hov
        clear ho1 ho2 hlc hb2 HLC HOk
        generalize (searchM (srB 1 ops 1000000)).code = cc at HR HCore ⊢
        generalize (searchM (srB 1 ops 1000000)).ord = ord at HR HCore ⊢
        generalize (searchM (srB 1 ops 1000000)).ent.length = en
        by_cases hcc : cc = 1
        · have HRow := hideIt (HR.out hcc)
          have HSum := hideIt (HCore.out hcc)
          subst hcc
          clear HR HCore
          have HOrd := hideIt (ord_cells HRow.out)
          obtain ⟨rfl, _⟩ := HOrd.out
          have HB3 : Hid (Below w.heap.size w (w2.alloc (.cells #[.int .i64 1, .slice va ord.length vc, .int .i64 en] 43))) := hideIt (belA HB2.out _)
          go_wp2_with fail
          refine (HT.out _ HB3.out).mono ?_
          rintro e w4 ⟨rfl, hb4⟩
          have hs0 : (w2.alloc (.cells #[.int .i64 1, .slice va ord.length vc, .int .i64 en] 43)).heap.size = w2.heap.size + 1 := by simp
          have hD : w2.heap.size < w4.heap.size := by have := hb4.size; rw [hs0] at this; omega
          have c0 : w4.cell? ⟨w2.heap.size, 0, none⟩ = some (.int .i64 1) := (hb4.cell (p := ⟨w2.heap.size, 0, none⟩) (by simp)).trans (by simp)
          have c1 : w4.cell? ⟨w2.heap.size, 1, none⟩ = some (.slice va ord.length vc) := (hb4.cell (p := ⟨w2.heap.size, 1, none⟩) (by simp)).trans (by simp)
          have HB4 := hideIt (belJ HB3.out hb4)
          have HB24 := hideIt (belJ (belA (Below.refl w2.heap.size w2) (.cells #[.int .i64 1, .slice va ord.length vc, .int .i64 en] 43)) hb4)
          have HC1 := hideIt c1
          have hm55 := made55
          have hsz4 := HB4.out.size
          have hordl : ord.length ≤ 8 := by have := HSum.out.1.len; omega
          generalize w2.heap.size = D at hD c0 c1 HC1 ⊢
          have HSt : Hid (TabAt (w4.alloc (.cells (row8 nil8) 41)) w4.heap.size w4.heap.size 41 3 1 nil8 (fun q => intV (rowJ ops ord q 0)) (fun q => (rowJ ops ord q 0).length) ∧ Below w4.heap.size w4 (w4.alloc (.cells (row8 nil8) 41))) := ⟨tab_made (heap_alloc_new w4 _) (Nat.le_refl _), belA (Below.refl _ _) _⟩
          clear hb4 HRow HB3 HB2 hs0
          go_wp2
          clear c0 c1 hm55
          go_loopw [6] (fun i wr => ∃ (k : Nat) (vs : Nat → Value), k ≤ ord.length ∧ i = .int .i64 k ∧ TabAt wr w4.heap.size w4.heap.size 41 3 1 vs (fun q => intV (rowJ ops ord q k)) (fun q => (rowJ ops ord q k).length) ∧ Below w4.heap.size w4 wr) (fun i _ => ord.length - (intOf i).toNat)
          case atStart => exact ⟨0, nil8, Nat.zero_le _, rfl, HSt.out.1, HSt.out.2⟩
          case round =>
            clear HSt
            obtain ⟨k, vs, hk, rfl, htab, hb5⟩ := hrel
            have HP := hideIt htab
            have HB5 := hideIt hb5
            have HBW := hideIt (belJ HB4.out hb5)
            have c1 : wr.cell? ⟨D, 1, none⟩ = some (.slice va ord.length vc) := (hb5.cell (p := ⟨D, 1, none⟩) hD).trans HC1.out
            have hDl : D < wr.heap.size := Nat.lt_of_lt_of_le hD hb5.size
            clear htab hb5
            by_cases hkl : k < ord.length
            · obtain ⟨G, rfl, hG, cG⟩ := HOrd.out.2 k hkl
              have o1 : wr.cell? ⟨G, k, none⟩ = some (.int .i64 (ord[k] : Nat)) := ((belJ HB24.out HB5.out).cell (p := ⟨G, k, none⟩) hG).trans cG
              have hj := HSum.out.1.lt hkl
              obtain ⟨b, off, hea, hb, hops⟩ : ∃ b off, a = some ⟨b, off, none⟩ ∧ b < w.heap.size ∧ OpsAt w b off ops := by
                rcases HQ.out with h | h
                · subst h; simp at hj
                · exact h
              subst hea
              obtain ⟨p0, p1, p2, p3, p4, p5, p6, p7⟩ := (hops _ hj).below hb HBW.out
              have HX : Hid (opZ ops (ord.getD k 0) = ops[ord[k]]) := by
                show opZ ops (ord.getD k 0) = ops[ord[k]]
                rw [getD_ord hkl, opZ_at hj]
              have ok := kOk_of HCT.out
              have hkind := ok.kind _ hj
              have hnum := (ok.num _ hj).1
              rw [opZ_at hj] at hkind hnum
              have HOps := hideIt hops
              clear hops cG ok p0 p4 p5 p6 p7
              generalize hj' : ord[k] = j at o1 hj p1 p2 p3
              obtain ⟨x, hxj⟩ : ∃ x, ops[j] = x := ⟨_, rfl⟩
              rw [hxj] at HX hkind hnum p1 p2 p3
              have HXj := hideIt hxj
              clear hxj
              have hbl : b < wr.heap.size := Nat.lt_of_lt_of_le hb HBW.out.size
              rcases hkind with hd | hd
              · have R1 : Hid (TabAt wr w4.heap.size w4.heap.size 41 3 1 vs (fun q => intV (rowJ ops ord q (k + 1))) (fun q => (rowJ ops ord q (k + 1)).length)) := by
                  have e : ∀ q : Int, rowJ ops ord q (k + 1) = rowJ ops ord q k := fun q => rowJ_keep (by rw [HX.out]; omega)
                  show TabAt wr w4.heap.size w4.heap.size 41 3 1 vs (fun q => intV (rowJ ops ord q (k + 1))) (fun q => (rowJ ops ord q (k + 1)).length)
                  simp only [e]
                  exact HP.out
                rw [hd] at p2
                clear hd hnum p1 p3 HX hj'
                go_wp2
                go_roundw
                case rel => exact ⟨k + 1, vs, by omega, by go_num, R1.out, HB5.out⟩
                case measure => simp [intOf]; omega
              · obtain ⟨q, hxq⟩ : ∃ q : Nat, x.k = (q : Int) := ⟨x.k.toNat, by omega⟩
                have hq8 : q < 8 := by omega
                obtain ⟨xp, xk, xd, xa, xb, xr, xc, xe⟩ := x
                simp only at hxq hd p1 p2 p3
                subst hxq hd
                clear hnum
                have g3 : (q : Int) < 8 := by omega
                have hle := rowJ_le ops ord q k
                have p9 : wr.cell? ⟨w4.heap.size, q, none⟩ = some (vs q) := tab_cell HP.out hq8
                have hTl : w4.heap.size < wr.heap.size := World.block_lt_of_cell? wr _ p9
                have HT2 : Hid (TabAt (wr.alloc (.cells #[.int .i64 xa] 3)).drew w4.heap.size w4.heap.size 41 3 1 vs (fun q => intV (rowJ ops ord q k)) (fun q => (rowJ ops ord q k).length)) := hideIt ((HP.out.alloc _).same (fun _ _ _ _ _ => rfl))
                have hs2 : (wr.alloc (.cells #[.int .i64 xa] 3)).drew.heap.size = wr.heap.size + 1 := by
                  show (wr.alloc (.cells #[.int .i64 xa] 3)).heap.size = _
                  simp
                obtain ⟨n1, w6, hr6, ho6, hg6, hob6⟩ := run_appI (w := (wr.alloc (.cells #[.int .i64 xa] 3)).drew) (B := wr.heap.size) (x := xa) (HT2.out.rows q hq8) (by
                  have e : (wr.alloc (.cells #[.int .i64 xa] 3)).drew.heap[wr.heap.size]? = some (.cells #[.int .i64 xa] 3 (0, 0)) := heap_alloc_new wr _
                  exact cell_of_row _ _ _ _ 3 (0, 0) e) (by rw [hs2]; omega) (by omega) 41
                have hmid := HT2.out.grow (by decide) hq8 ho6 hg6 hob6
                obtain ⟨z0, z1⟩ := mid_cell hmid hq8
                obtain ⟨na, nc, hn1⟩ := ownsRow_slice ho6
                have hb6 : Below w4.heap.size w4 w6 := (Below.drew (belA HB5.out _)).grown hg6 (by rw [hs2]; omega) (fun b hb => ((HT2.out.rows q hq8).lt b hb).1)
                have hbw6 : Below w.heap.size w w6 := belJ HB4.out hb6
                obtain ⟨_, y1, _, y3, _, _, _, _⟩ := (HOps.out _ hj).below hb hbw6
                rw [HXj.out] at y1 y3
                have HR6 := hideIt hr6
                have hss := hg6.size
                rw [hs2] at hss
                have hbl6 : b < w6.heap.size := by omega
                have hTl6 : w4.heap.size < w6.heap.size := World.block_lt_of_cell? w6 _ z0
                have HFin : Hid (TabAt (w6.setCell ⟨w4.heap.size, q, none⟩ n1) w4.heap.size w4.heap.size 41 3 1 (setT vs q n1) (fun r => intV (rowJ ops ord r (k + 1))) (fun r => (rowJ ops ord r (k + 1)).length)) := hideIt (by
                  have h := hmid.put (by decide) hq8
                  refine ⟨h.tab, h.lo, fun r hr => ?_, h.sep⟩
                  have := h.rows r hr
                  by_cases e : r = q
                  · subst e
                    simp only [if_true] at this
                    have e2 : rowJ ops ord r (k + 1) = rowJ ops ord r k ++ [xa] := by
                      rw [rowJ_put (by rw [HX.out]) (by rw [HX.out]), HX.out]
                    simp only [e2, List.length_append, List.length_singleton]
                    exact this
                  · simp only [if_neg e] at this
                    have e2 : rowJ ops ord r (k + 1) = rowJ ops ord r k := rowJ_keep (by rw [HX.out]; simp; omega)
                    simp only [e2]
                    exact this)
                have HB6 : Hid (Below w4.heap.size w4 (w6.setCell ⟨w4.heap.size, q, none⟩ n1)) := hideIt (hb6.setCell (p := ⟨w4.heap.size, q, none⟩) (Nat.le_refl _) _)
                obtain ⟨vq, hvq⟩ : ∃ vq, vs q = vq := ⟨_, rfl⟩
                have HVQ := hideIt hvq
                rw [hvq] at p9 z0 HR6
                clear hr6 ho6 hg6 hob6 hmid hb6 hbw6 HT2 hvq hj'
                subst hn1
                have hn1 : ¬ b = wr.heap.size := by omega
                have hn2 : ¬ wr.heap.size = b := by omega
                have hn3 : ¬ w4.heap.size = wr.heap.size := by omega
                have hn4 : ¬ wr.heap.size = w4.heap.size := by omega
                go_upto_region 14 with fail
                go_region_law (refine step_append_run (by rfl) _ _ 41 (by rfl) _ _ _ w6 (by rfl) (by rfl) HR6.out ?_)
                all_goals
                  go_wp2
                  go_roundw
                  case rel => exact ⟨k + 1, _, by omega, by go_num, HFin.out, HB6.out⟩
                  case measure => simp [intOf]; omega
            · obtain rfl : k = ord.length := by omega
              have HVt := hideIt (H22.out wr _ _ HBW.out (tab_vers HP.out) (versJ_short (by omega)))
              go_wp2_with fail
              refine HVt.out.mono ?_
              rintro e w7 ⟨hb7, ⟨m, hm, ht, _⟩ | ⟨_, g, hg, hf, rfl⟩⟩
              · exact absurd (ht.one HSum.out.2.1) hm
              have HF := hideIt hf
              have HB7 := hideIt (belJ HBW.out hb7)
              clear hf hb7 HVt
              go_wp2
              go_loopw [9] (fun i wr => ∃ k : Nat, k ≤ 4 ∧ i = .int .i64 k ∧ FourAt wr g (brkI ops (versJ ops ord ord.length)) ∧ Below w.heap.size w wr) (fun i _ => 4 - (intOf i).toNat)
              case atStart => exact ⟨0, by omega, rfl, HF.out, HB7.out⟩
              case round =>
                clear HF HB7
                obtain ⟨k, hk, rfl, hf, hb8⟩ := hrel
                have HF := hideIt hf
                have HB8 := hideIt hb8
                clear hf hb8
                by_cases hk4 : k < 4
                · obtain ⟨a0, a1⟩ := HF.out.at_ k hk4
                  rw [HSum.out.2.2 k] at a0 a1
                  have hk4I : (k : Int) < 4 := by omega
                  have hgl := HF.out.lt
                  have heq := eq57
                  go_wp2
                  go_roundw
                  case rel => exact ⟨k + 1, by omega, by go_num, HF.out, HB8.out⟩
                  case measure => simp [intOf]; omega
                · obtain rfl : k = 4 := by omega
                  go_wp2
                  go_ret
                  exact ⟨rfl, HB8.out⟩
        · have hcc' : ((cc : Int) != 1) = true := by simp; omega
          have HB3 : Hid (Below w.heap.size w (w2.alloc (.cells #[.int .i64 cc, .slice va vn vc, .int .i64 en] 43))) := hideIt (belA HB2.out _)
          clear hcc HR HCore
          go_wp2_with fail
          refine (HT.out _ HB3.out).mono ?_
          rintro e w4 ⟨rfl, hb4⟩
          have c0 : w4.cell? ⟨w2.heap.size, 0, none⟩ = some (.int .i64 cc) := (hb4.cell (p := ⟨w2.heap.size, 0, none⟩) (by simp)).trans (by simp)
          have HB4 := hideIt (belJ HB3.out hb4)
          clear hb4 HB3 HB2
          go_wp2
          go_ret
          exact ⟨rfl, HB4.out⟩
    · rw [show toldV n = .iface 23 (.int .i64 n) from by simp [toldV, hn]]
      go_wp2
      go_ret
      exact ⟨rfl, HB1.out⟩

end Go.Proofs.YtfojmbbhcmeejaaDoor
