/-
  The statement SerialOne, walked.
-/
import Derived.Test.YtibdchahallbjabDoorBnW
import Derived.Test.YtibdchahallbjabDoorCfW
namespace Go.Proofs.YtibdchahallbjabDoor
open Go.RowKit
open Go.Maps (int_keyed)

abbrev mkB (b : Bool) : Value := .bool b
theorem zero4 (w : World) : (zeroValue 4).run Tryd.prog w = .ok (.bool false) w := by kernel_rfl
theorem MapV.look1 {w : World} {M n : Nat} {f : Int → Option Bool} (h : MapV Tryd.prog mkB w M n f) {q : Int} (hq : (Lit.int .i64 q).wf = true) :
    (Instr.lookup 60 (.map (some M)) (.int .i64 q) false).run Tryd.prog w = .ok (.bool ((f q).getD false)) w := by
  obtain ⟨D, h1, h2⟩ := h
  obtain ⟨v, ps, hrun, hv⟩ := h1.lookup (int_keyed Tryd.underlying3) Tryd.underlying60 (zero4 w) (zd := .held (.bool false)) (zp := []) rfl (Go.Maps.keyOf_int_mk Tryd.underlying3 hq)
  rw [hrun]
  cases hf : f q with
  | none =>
    have hno : Maps.has D (.int .i64 q) = false := by rw [h2.has q, hf]; rfl
    rw [Maps.atKey_of_not_has hno] at hv
    have := DataW.held.inj (congrArg Prod.fst (Option.some.inj hv))
    subst this; rfl
  | some b =>
    rw [h2.at_ q b hf] at hv
    have := DataW.held.inj (congrArg Prod.fst (Option.some.inj hv))
    subst this; rfl
/-- Which were seen. -/
def snF (l : List Int) (q : Int) : Option Bool := if q ∈ l then some true else none
theorem snF_app (l : List Int) (t : Int) : snF (l ++ [t]) = putK (snF l) t (some true) := by
  funext q
  unfold snF putK
  by_cases e : q = t
  · subst e; rw [if_pos (by simp), if_pos rfl]
  · rw [if_neg e]
    by_cases h : q ∈ l
    · rw [if_pos (by simp [h])]; exact (if_pos h).symm
    · rw [if_neg (by simp [h, e])]; exact (if_neg h).symm

set_option maxRecDepth 100000 in
set_option maxHeartbeats 8000000 in
theorem on_walk (l : List Stp) (ord : List Int) (a : Option Addr) (cap : Nat) (v : Value) (w : World) (h : InT w a cap l) (hom : ord.length ≤ maxLen) (hwf : ∀ t ∈ ord, (Lit.int .i64 t).wf = true) (hv : HasI w v ord) :
    Calls Tryd.prog 7 #[.slice a l.length cap, v] w fun e w' => e = .returned (.bool true) ∧ Below w.heap.size w w' := by
  have HI := hideIt h
  have hm2 : l.length ≤ 9223372036854775807 := h.max
  have hm3 : ord.length ≤ 9223372036854775807 := hom
  have HV := hideIt hv
  obtain ⟨va, vc, rfl, hvc, hcell⟩ := hv
  have HCell : Hid (∀ j (h : j < ord.length), ∃ g off, va = some ⟨g, off, none⟩ ∧ w.cell? ⟨g, off + j, none⟩ = some (.int .i64 ord[j])) := hcell
  have HWf := hideIt hwf
  clear h hcell hwf hom
  by_cases h50 : l.length ≤ 50
  · by_cases h6 : ord.length ≤ 6
    · have h50' : (l.length : Int) ≤ 50 := by omega
      have h6' : (ord.length : Int) ≤ 6 := by omega
      have HM : Hid (∀ W, Below w.heap.size w W → Calls Tryd.prog 19 #[] W fun e w' => e = .returned (.bool true) ∧ Below W.heap.size W w') := fun W hW => mixes_any W (HI.out.typ.below hW)
      have hmm := @run_makeMap Tryd.prog
      have HM0 : Hid (MapV Tryd.prog mkB (w.alloc (.map #[] 0)) w.heap.size 0 (snF [])) := mapV_made w _ _
      have HB0 : Hid (Below w.heap.size w (w.alloc (.map #[] 0))) := belA (Below.refl _ _) _
      go_enter Tryd.func7, Tryd.ntmps7
      go_wp2
      clear hmm
      generalize w.alloc _ = W at HM0 HB0 ⊢
      go_loopw [6] (fun i wr => ∃ k : Nat, k ≤ ord.length ∧ i = .int .i64 k ∧ MapV Tryd.prog mkB wr w.heap.size k (snF (ord.take k)) ∧ (ord.take k).Nodup ∧ (∀ t ∈ ord.take k, 0 ≤ t ∧ t ≤ 7) ∧ Below w.heap.size w wr) (fun i _ => ord.length - (intOf i).toNat)
      case atStart => exact ⟨0, Nat.zero_le _, rfl, HM0.out, List.nodup_nil, fun t ht => (by cases ht), HB0.out⟩
      case round =>
        clear HM0 HB0
        obtain ⟨k, hk, rfl, hmp, hnd, hrg, hb⟩ := hrel
        have HMp := hideIt hmp
        have HNd := hideIt hnd
        have HRg := hideIt hrg
        have HB := hideIt hb
        clear hmp hnd hrg hb
        by_cases hkl : k < ord.length
        · obtain ⟨g, off, rfl, r0⟩ := HCell.out k hkl
          have r1 := (HB.out.cell (p := ⟨g, off + k, none⟩) (World.block_lt_of_cell? w _ r0)).trans r0
          have hwk := HWf.out _ (List.getElem_mem hkl)
          have HT : Hid (ord.take (k + 1) = ord.take k ++ [ord[k]]) := List.take_succ_eq_append_getElem hkl
          have hlk := HMp.out.look1 hwk
          clear r0
          generalize ord[k] = t at r1 hwk HT hlk
          have hkl' : (k : Int) < ord.length := by omega
          by_cases g0 : t < 0
          · go_wp2
            go_ret
            exact ⟨rfl, HB.out⟩
          · by_cases g8 : 8 ≤ t
            · have g0' : ¬ t < 0 := g0
              go_wp2
              go_ret
              exact ⟨rfl, HB.out⟩
            · have g0' : (0 : Int) ≤ t := by omega
              have g8' : t < (8 : Int) := by omega
              by_cases hin : t ∈ ord.take k
              · have e : snF (ord.take k) t = some true := if_pos hin
                rw [e] at hlk
                simp only [Option.getD_some] at hlk
                clear hin e
                go_wp2
                go_ret
                exact ⟨rfl, HB.out⟩
              · have e : snF (ord.take k) t = none := if_neg hin
                rw [e] at hlk
                simp only [Option.getD_none] at hlk
                have R1 : Hid ((ord.take (k + 1)).Nodup) := by
                  show (ord.take (k + 1)).Nodup
                  rw [HT.out]
                  exact List.nodup_append.2 ⟨HNd.out, by simp, fun x hx y hy e => by rw [List.mem_singleton.1 hy] at e; subst e; exact hin hx⟩
                have R2 : Hid (∀ x ∈ ord.take (k + 1), 0 ≤ x ∧ x ≤ 7) := fun x hx => by
                  rw [HT.out] at hx
                  rcases List.mem_append.1 hx with hx | hx
                  · exact HRg.out x hx
                  · rw [List.mem_singleton.1 hx]; omega
                clear hin e
                go_wp2_with (at_mapUpdate; refine wpList_store_v _ Tryd.underlying3 rfl _ _ _ _ rfl _ Tryd.underlying60 w.heap.size k (snF (ord.take k)) rfl HMp.out (by omega) t rfl hwk true rfl ?_; intro w3 hm3 hg3)
                have R3 : Hid (MapV Tryd.prog mkB w3 w.heap.size (k + 1) (snF (ord.take (k + 1)))) := by
                  show MapV Tryd.prog mkB w3 w.heap.size (k + 1) (snF (ord.take (k + 1)))
                  rw [HT.out, snF_app]; exact hm3
                have R4 : Hid (Below w.heap.size w w3) := HB.out.grown hg3 HB.out.size (fun j hj => by obtain rfl := Option.some.inj hj; exact Nat.le_refl _)
                clear hm3 hg3
                go_wp2
                go_roundw
                case rel => exact ⟨k + 1, by omega, by go_num, R3.out, R1.out, R2.out, R4.out⟩
                case measure => simp [intOf]; omega
        · obtain rfl : k = ord.length := by omega
          rw [List.take_length] at HNd HRg
          have HC := hideIt (behind_any l ord a cap _ wr (by omega) (by omega) (HI.out.at_.below HB.out) (HV.out.below HB.out))
          have HBk : Hid (BehOk (doneL l) ord) := ⟨doneL_low, HNd.out, HRg.out⟩
          have HPos : Hid (∀ s ∈ doneL l, 0 ≤ s.p) := doneL_pos
          have HPair := hideIt (beh_pair HBk.out)
          have HMem : Hid (∀ s ∈ behL (doneL l) ord, (0 ≤ s.p ∧ s.p ≤ 7) ∧ s.k < 4 ∧ (2 < s.k → s.m = 0)) := fun s hs => by
            obtain ⟨h1, h2⟩ := behL_mem.1 hs
            refine ⟨HRg.out _ h1, ?_⟩
            rcases h2 with h2 | ⟨h2, h3⟩
            · have := doneL_low s h2
              exact ⟨by omega, fun h => by omega⟩
            · exact ⟨by omega, fun _ => h3⟩
          have HSe : Hid (OkS (behL (doneL l) ord) → (seesL (behL (doneL l) ord)).isSome = true) := beh_sees HBk.out HPos.out
          have HOr := hideIt (beh_order HBk.out HPos.out)
          have HCf : Hid (OkS (behL (doneL l) ord) → noneB (badR (behL (doneL l) ord)) (behL (doneL l) ord).length = true ∧ noneB (badC (behL (doneL l) ord)) (behL (doneL l) ord).length = true ∧ noneB (badS (behL (doneL l) ord)) (behL (doneL l) ord).length = true) := beh_careful HBk.out
          have HCl : Hid ((cmL (behL (doneL l) ord)).length ≤ 6) := by
            have h1 := nodup_sub (l := cmL (behL (doneL l) ord)) (m := ord.map Int.toNat) (List.nodup_range.sublist List.filter_sublist) fun x hx => (cmL_beh HBk.out x).2 hx
            rw [List.length_map] at h1
            exact Nat.le_trans h1 h6
          have hbl : (behL (doneL l) ord).length ≤ 606 := by
            have h1 := behL_big (doneL l) ord
            have h2 : (doneL l).length ≤ 50 := Nat.le_trans (List.length_filter_le _ _) h50
            have h3 : ord.length * ((doneL l).length + 1) ≤ 6 * 51 := Nat.mul_le_mul h6 (by omega)
            omega
          generalize behL (doneL l) ord = S at HC HPair HMem HSe HOr HCf HCl hbl
          clear HBk HPos HMp HNd HRg
          go_wp2_with fail
          refine HC.out.mono ?_
          clear HC
          rintro e w2 ⟨a2, c2, rfl, hc2, hq2, hb2⟩
          have HB2 := hideIt (belJ HB.out hb2)
          have HQ2 := hideIt hq2
          clear hb2 hq2 HB
          by_cases h60 : S.length ≤ 60
          · have h60' : (S.length : Int) ≤ 60 := by omega
            have HC := hideIt (HM.out w2 HB2.out)
            go_wp2_with fail
            refine HC.out.mono ?_
            clear HC
            rintro e w3 ⟨rfl, hb3⟩
            have HB3 := hideIt (belJ HB2.out hb3)
            have HQ3 := hideIt (HQ2.out.below hb3)
            clear hb3 HB2 HQ2
            go_wp2
            go_loop [8] (fun i => ∃ k : Nat, k ≤ S.length ∧ i = .int .i64 k ∧ ∀ j (h : j < S.length), j < k → 1 ≤ S[j].k ∧ 0 ≤ S[j].m ∧ S[j].m ≤ 7) (fun i => S.length - (intOf i).toNat)
            case atStart => exact ⟨0, Nat.zero_le _, rfl, fun j _ hj => absurd hj (by omega)⟩
            case round =>
              obtain ⟨k, hk, rfl, hall⟩ := hrel
              have HAll := hideIt hall
              clear hall
              by_cases hkS : k < S.length
              · obtain ⟨b, bo, rfl, hlt, hst⟩ : ∃ b bo, a2 = some ⟨b, bo, none⟩ ∧ b < w3.heap.size ∧ StpsAt w3 b bo S := by
                  rcases HQ3.out with h | h
                  · subst h; simp at hkS
                  · exact h
                obtain ⟨c0, c1, c2'⟩ := hst k hkS
                have hkS' : (k : Int) < S.length := by omega
                have RA : Hid (1 ≤ S[k].k ∧ 0 ≤ S[k].m ∧ S[k].m ≤ 7 → ∀ j (h : j < S.length), j < k + 1 → 1 ≤ S[j].k ∧ 0 ≤ S[j].m ∧ S[j].m ≤ 7) := fun h j hj hjk => by
                  by_cases e : j = k
                  · subst e; exact h
                  · exact HAll.out j hj (by omega)
                generalize S[k] = x at c0 c1 c2' RA
                clear hst HAll
                by_cases g1 : x.k < 1
                · have g1' : (x.k == 1) = false := by simp; omega
                  go_wp2
                  go_ret
                  exact ⟨rfl, HB3.out⟩
                · have g1n : (1 : Int) ≤ x.k := by omega
                  by_cases g2 : x.m < 0
                  · by_cases e1 : x.k = 1
                    · have e1' : (x.k == 1) = true := by simp [e1]
                      rw [e1] at c1
                      go_wp2
                      go_ret
                      exact ⟨rfl, HB3.out⟩
                    · have e1' : (x.k == 1) = false := by simp [e1]
                      go_wp2
                      go_ret
                      exact ⟨rfl, HB3.out⟩
                  · have g2n : (0 : Int) ≤ x.m := by omega
                    by_cases g3 : 8 ≤ x.m
                    · by_cases e1 : x.k = 1
                      · have e1' : (x.k == 1) = true := by simp [e1]
                        rw [e1] at c1
                        go_wp2
                        go_ret
                        exact ⟨rfl, HB3.out⟩
                      · have e1' : (x.k == 1) = false := by simp [e1]
                        go_wp2
                        go_ret
                        exact ⟨rfl, HB3.out⟩
                    · have g3n : x.m < (8 : Int) := by omega
                      have R := hideIt (RA.out ⟨by omega, by omega, by omega⟩)
                      clear RA
                      by_cases e1 : x.k = 1
                      · have e1' : (x.k == 1) = true := by simp [e1]
                        rw [e1] at c1
                        go_wp2
                        go_round
                        case rel => exact ⟨k + 1, by omega, by go_num, R.out⟩
                        case measure => simp [intOf]; omega
                      · have e1' : (x.k == 1) = false := by simp [e1]
                        go_wp2
                        go_round
                        case rel => exact ⟨k + 1, by omega, by go_num, R.out⟩
                        case measure => simp [intOf]; omega
              · obtain rfl : k = S.length := by omega
                have hokS : OkS S := okS_pair (fun x hx => by
                  obtain ⟨i, hi, rfl⟩ := List.getElem_of_mem hx
                  obtain ⟨h1, h2, h3⟩ := HMem.out _ (List.getElem_mem hi)
                  obtain ⟨h4, h5, h7⟩ := HAll.out i hi hi
                  unfold fltR
                  rw [if_neg (by omega), if_neg fun hc => ?_]
                  rcases hc with hc | hc | ⟨hc, hd⟩
                  · omega
                  · omega
                  · exact hd (h3 hc)) HPair.out
                have HK := hideIt (ckS_of h60 hokS)
                have HSs := hideIt (HSe.out hokS)
                have HCs := hideIt (HCf.out hokS)
                have hS7 : S.length ≤ maxLen := by unfold maxLen; omega
                have HC := hideIt (clashes_any S a2 c2 w3 hS7 HQ3.out)
                unfold ChTold at HC
                clear hokS HSe HCf HAll HMem HPair
                go_wp2_with fail
                refine HC.out.mono ?_
                clear HC
                rintro e w4 ⟨x1, x2, er4, n4, pl4, rfl, hck4, hb4, hcs4⟩
                obtain ⟨rfl, rfl⟩ := hck4.one HK.out
                have hnil4 : er4 = .nilIface := by
                  rcases hcs4 with ⟨h, _⟩ | ⟨_, _, _, _, _, h⟩ | ⟨_, h, _⟩
                  · exact absurd rfl h
                  · exact h
                  · obtain ⟨L, hL⟩ := HOr.out; rw [hL] at h; cases h
                subst hnil4
                have HB4 := hideIt (belJ HB3.out hb4)
                have HQ4 := hideIt (HQ3.out.below hb4)
                have HC := hideIt (sees_any S a2 c2 w4 hS7 HQ4.out)
                unfold SeTold at HC
                clear hck4 hcs4 hb4 HQ3
                go_wp2_with fail
                refine HC.out.mono ?_
                clear HC
                rintro e w5 ⟨x5, er5, n5, pl5, rfl, hck5, hb5, hcs5⟩
                obtain ⟨rfl, rfl⟩ := hck5.one HK.out
                have hnil5 : er5 = .nilIface := by
                  rcases hcs5 with ⟨h, _⟩ | ⟨_, h, _⟩ | ⟨_, _, h, _⟩ | ⟨_, _, c, _, _, h⟩
                  · exact absurd rfl h
                  · have := HCl.out; omega
                  · have := HSs.out; rw [h] at this; cases this
                  · exact h
                subst hnil5
                have HB5 := hideIt (belJ HB4.out hb5)
                have HQ5 := hideIt (HQ4.out.below hb5)
                have HC := hideIt (careful_any S a2 c2 w5 hS7 HQ5.out)
                unfold CfTold at HC
                clear hck5 hcs5 hb5 HQ4
                go_wp2_with fail
                refine HC.out.mono ?_
                clear HC
                rintro e w6 ⟨rr, rc, rs, er6, n6, pl6, rfl, her6, hck6, _, hok6, hb6⟩
                obtain ⟨rfl, rfl⟩ := hck6.one HK.out
                have hnil6 : er6 = .nilIface := by
                  rcases her6 with ⟨_, _, h⟩ | ⟨h, _⟩ | ⟨h, _⟩
                  · exact h
                  · exact absurd rfl h
                  · exact absurd rfl h
                subst hnil6
                obtain ⟨e1, e2, e3⟩ := hok6 rfl
                rw [HCs.out.1] at e1
                rw [HCs.out.2.1] at e2
                rw [HCs.out.2.2] at e3
                subst e1 e2 e3
                have HB6 := hideIt (belJ HB5.out hb6)
                clear her6 hck6 hok6 hb6
                go_wp2
                go_ret
                exact ⟨rfl, belA HB6.out _⟩
          · have h60' : (60 : Int) < S.length := by omega
            have HC := hideIt (HM.out w2 HB2.out)
            go_wp2_with fail
            refine HC.out.mono ?_
            clear HC
            rintro e w3 ⟨rfl, hb3⟩
            have HB3 := hideIt (belJ HB2.out hb3)
            clear hb3
            go_wp2
            go_ret
            exact ⟨rfl, HB3.out⟩
    · have h50' : (l.length : Int) ≤ 50 := by omega
      have h6' : (6 : Int) < ord.length := by omega
      go_enter Tryd.func7, Tryd.ntmps7
      go_wp2
      go_ret
      exact ⟨rfl, Below.refl _ _⟩
  · have h50' : (50 : Int) < l.length := by omega
    go_enter Tryd.func7, Tryd.ntmps7
    go_wp2
    go_ret
    exact ⟨rfl, Below.refl _ _⟩
end Go.Proofs.YtibdchahallbjabDoor
