/-
  The program's Check of a story, walked.
-/
import Derived.Test.YtodanhjookgbeaaInW
namespace Go.Proofs.Ytodanhjookgbeaa
open Go.RowKit

theorem fltI_tx {s : ISt} (h8 : s.txs.length ≤ 8) (ho : s.ord.length = 8) {k : Nat} (hk : k < s.txs.length) (hn : ∀ j (h : j < s.txs.length), j < k → fltX s s.txs[j] = 0) (h : fltX s s.txs[k] ≠ 0) : fltI s = fltX s s.txs[k] := by
  unfold fltI
  rw [if_neg (by omega), if_neg (by omega)]
  have := fstF_first (l := s.txs.map (fltX s) ++ (List.range 8).map (fltK s)) (k := k) (by simp; omega)
    (fun j h1 h2 => by rw [List.getElem_append_left (by simp; omega)]; simpa using hn j (by omega) h2) (by rw [List.getElem_append_left (by simpa using hk)]; simpa using h)
  rw [this, List.getElem_append_left (by simpa using hk)]
  simp
theorem fltI_key {s : ISt} (h8 : s.txs.length ≤ 8) (ho : s.ord.length = 8) (hx : ∀ j (h : j < s.txs.length), fltX s s.txs[j] = 0) {k : Nat} (hk : k < 8) (hn : ∀ j, j < k → fltK s j = 0) (h : fltK s k ≠ 0) : fltI s = fltK s k := by
  unfold fltI
  rw [if_neg (by omega), if_neg (by omega), fstF_app, if_pos (fstF_none fun j hj => by simpa using hx j (by simpa using hj))]
  have := fstF_first (l := (List.range 8).map (fltK s)) (k := k) (by simpa using hk) (fun j h1 h2 => by simpa using hn j h2) (by simpa using h)
  rw [this]
  simp
theorem fltI_ok {s : ISt} (h8 : s.txs.length ≤ 8) (ho : s.ord.length = 8) (hx : ∀ j (h : j < s.txs.length), fltX s s.txs[j] = 0) (hk : ∀ j, j < 8 → fltK s j = 0) : fltI s = 0 := by
  unfold fltI
  rw [if_neg (by omega), if_neg (by omega), fstF_app, if_pos (fstF_none fun j hj => by simpa using hx j (by simpa using hj))]
  exact fstF_none fun j hj => by simpa using hk j (by simpa using hj)
theorem told_ne {n : Int} (h : n ≠ 0) : toldV n = .iface 75 (.int .i64 n) := by unfold toldV; rw [if_neg h]

/-- An array laid into a new block. -/
theorem ver_laid {w1 W2 : World} {f : Nat → Nat → Nat} {cs : Array Value} (hcs : cs = (verL f).toArray) (h : (w1.alloc (.cells #[.int .i64 0, .int .i64 0, .int .i64 0, .int .i64 0, .int .i64 0, .int .i64 0, .int .i64 0, .int .i64 0, .int .i64 0, .int .i64 0, .int .i64 0, .int .i64 0, .int .i64 0, .int .i64 0, .int .i64 0, .int .i64 0, .int .i64 0, .int .i64 0, .int .i64 0, .int .i64 0, .int .i64 0, .int .i64 0, .int .i64 0, .int .i64 0, .int .i64 0, .int .i64 0, .int .i64 0, .int .i64 0, .int .i64 0, .int .i64 0, .int .i64 0, .int .i64 0, .int .i64 0, .int .i64 0, .int .i64 0, .int .i64 0, .int .i64 0, .int .i64 0, .int .i64 0, .int .i64 0, .int .i64 0, .int .i64 0, .int .i64 0, .int .i64 0, .int .i64 0, .int .i64 0, .int .i64 0, .int .i64 0, .int .i64 0, .int .i64 0, .int .i64 0, .int .i64 0, .int .i64 0, .int .i64 0, .int .i64 0, .int .i64 0, .int .i64 0, .int .i64 0, .int .i64 0, .int .i64 0, .int .i64 0, .int .i64 0, .int .i64 0, .int .i64 0] 54)).setCells w1.heap.size 0 cs.toList = W2) : VerB W2 w1.heap.size f ∧ Below w1.heap.size w1 W2 := by
  have e : cs.toList = verL f := by rw [hcs]
  rw [e] at h
  clear hcs e
  rw [← h, zeros77]
  exact ⟨(verB_new w1 _ 54).store _, (belA (Below.refl _ _) _).grown (grown_setCells _ _ 0 _) (by simp) (fun k hk => by cases hk; exact Nat.le_refl _)⟩

set_option maxRecDepth 100000 in
set_option maxHeartbeats 4000000 in
theorem pCheck_any (s : ISt) (a b : Option Addr) (ca cb : Nat) (w : World) (h : StyQ w a ca b cb s) :
    Calls Try.prog 23 #[.agg #[.slice a s.txs.length ca, .slice b s.ord.length cb]] w fun e w' => e = .returned (toldV (fltI s)) ∧ Below w.heap.size w w' := by
  have HS := hideIt h
  have ht := h.tmax
  have ho := h.omax
  unfold maxLen at ht ho
  have HB : Hid (Below w.heap.size w (w.alloc (.cells #[.slice a s.txs.length ca, .slice b s.ord.length cb] 25))) := belA (Below.refl _ _) _
  obtain ⟨c0, c1⟩ := box2 w (.slice a s.txs.length ca) (.slice b s.ord.length cb) 25
  clear h
  go_enter Try.func23, Try.ntmps23
  by_cases h8 : 8 < s.txs.length
  · have HE : Hid (fltI s = 4) := by unfold fltI; rw [if_pos h8]; rfl
    have h8' : (8 : Int) < s.txs.length := by omega
    go_wp2
    go_ret
    exact ⟨by rw [HE.out]; rfl, HB.out⟩
  · have h8' : ¬ (8 : Int) < s.txs.length := by omega
    by_cases hor : s.ord.length = 8
    · have hb8 : ((s.ord.length : Int) != 8) = false := by rw [hor]; rfl
      have HTx : Hid (∀ k (hk : k < s.txs.length), (∀ j (h : j < s.txs.length), j < k → fltX s s.txs[j] = 0) → fltX s s.txs[k] ≠ 0 → fltI s = fltX s s.txs[k]) := fun k hk => fltI_tx (by omega) hor hk
      have HKy : Hid ((∀ j (h : j < s.txs.length), fltX s s.txs[j] = 0) → ∀ k, k < 8 → (∀ j, j < k → fltK s j = 0) → fltK s k ≠ 0 → fltI s = fltK s k) := fun hx k hk => fltI_key (by omega) hor hx hk
      have HOk : Hid ((∀ j (h : j < s.txs.length), fltX s s.txs[j] = 0) → (∀ j, j < 8 → fltK s j = 0) → fltI s = 0) := fltI_ok (by omega) hor
      have HOr := hideIt hor
      clear hor
      generalize fltI s = R at *
      have HVs := hideIt (versionsOf_any s a b ca cb _ (HS.out.below HB.out) (by omega))
      have HSz : Hid ((Try.prog.info? 54).map (·.size) = some (verL (verF s)).toArray.size) := by rw [verS]; exact size77
      have HOne : Hid ((verL (verF s)).toArray.all (·.oneCell') = true) := all_oneCell_toArray (verL_one _)
      go_wp2_with fail
      refine HVs.out.mono ?_
      rintro e w1 ⟨rfl, hb1⟩
      have HB1 := hideIt (belJ HB.out hb1)
      have c0 := (hb1.cell (p := ⟨w.heap.size, 0, none⟩) (by show w.heap.size < _; simp)).trans c0
      have c1 := (hb1.cell (p := ⟨w.heap.size, 1, none⟩) (by show w.heap.size < _; simp)).trans c1
      clear HVs hb1 HB
      unfold verA
      obtain ⟨cs, HCs⟩ : ∃ cs, Hid (cs = (verL (verF s)).toArray) := ⟨_, rfl⟩
      rw [← HCs.out] at HSz HOne ⊢
      have HS64 : Hid (cs.size = 64) := by rw [HCs.out]; exact verS _
      go_upto_region 6 with (refine wpList_store_mid rfl 54 (.tmp 3) (.tmp 20) rfl w1.heap.size 0 cs rfl rfl (by rw [zeros77, HS64.out]; exact (verB_new _ _ _).there) HSz.out HOne.out ?_)
      generalize hW : World.setCells _ _ _ _ = W2
      obtain ⟨hv, hb2⟩ := ver_laid HCs.out hW
      have HV := hideIt hv
      have HB2 := hideIt (belJ HB1.out hb2)
      have d0 := (hb2.cell (p := ⟨w.heap.size, 0, none⟩) (World.block_lt_of_cell? w1 _ c0)).trans c0
      have d1 := (hb2.cell (p := ⟨w.heap.size, 1, none⟩) (World.block_lt_of_cell? w1 _ c1)).trans c1
      clear hW hv hb2 HOne HSz HB1 HS64 c0 c1
      rw [HCs.out]
      clear HCs
      have HSz : Hid ((Try.prog.info? 54).map (·.size) = some (verL (verF s)).length) := by rw [verL_len]; exact size77
      have HLt : Hid (w.heap.size < W2.heap.size) := World.block_lt_of_cell? W2 _ d0
      go_wp2
      go_loopw [24] (fun i wr => ∃ k : Nat, k ≤ s.txs.length ∧ i = .int .i64 k ∧ (∀ j (h : j < s.txs.length), j < k → fltX s s.txs[j] = 0) ∧ Below W2.heap.size W2 wr) (fun i _ => s.txs.length - (intOf i).toNat)
      case atStart => exact ⟨0, by omega, rfl, fun j _ hj => absurd hj (by omega), Below.refl _ _⟩
      case round =>
        obtain ⟨k, hk, rfl, hz, hb⟩ := hrel
        have HZ := hideIt hz
        have HBw := hideIt hb
        clear hz hb
        have HBwr := hideIt (belJ HB2.out HBw.out)
        have e0 := (HBw.out.cell (p := ⟨w.heap.size, 0, none⟩) HLt.out).trans d0
        have e1 := (HBw.out.cell (p := ⟨w.heap.size, 1, none⟩) HLt.out).trans d1
        have HVr := hideIt (HV.out.below HBw.out HV.out.lt)
        by_cases hkn : k < s.txs.length
        · have hkn' : (k : Int) < s.txs.length := by omega
          have HSr := hideIt (HS.out.below HBwr.out)
          obtain ⟨g, off, rfl, hg, oa, oc, o1, o2, o3, o4, o5⟩ := HSr.out.tx hkn
          have HF : Hid (fltX s s.txs[k] ≠ 0 → R = fltX s s.txs[k]) := HTx.out k hkn HZ.out
          have HZk : Hid (fltX s s.txs[k] = 0 → ∀ j (h : j < s.txs.length), j < k + 1 → fltX s s.txs[j] = 0) := fun h0 j hj hjk => by
            by_cases e : j = k
            · subst e; exact h0
            · exact HZ.out j hj (by omega)
          have HC := hideIt (checkOps_any s (some ⟨g, off, none⟩) b oa ca cb oc s.txs[k].ops (wr.alloc (.cells #[.slice oa s.txs[k].ops.length oc, .bool s.txs[k].com] 41)) (by omega) o3 (o4.below (belA (Below.refl _ _) _)))
          rw [show (if 60 < s.txs[k].ops.length then 4 else fstF (s.txs[k].ops.map (fltP s))) = fltX s s.txs[k] from rfl] at HC
          have e0' := cellA (o := .cells #[.slice oa s.txs[k].ops.length oc, .bool s.txs[k].com] 41) e0
          have e1' := cellA (o := .cells #[.slice oa s.txs[k].ops.length oc, .bool s.txs[k].com] 41) e1
          have HVr' := hideIt (HVr.out.alloc (.cells #[.slice oa s.txs[k].ops.length oc, .bool s.txs[k].com] 41))
          have HBa := hideIt (belA HBw.out (.cells #[.slice oa s.txs[k].ops.length oc, .bool s.txs[k].com] 41))
          generalize fltX s s.txs[k] = f at *
          generalize s.txs[k] = T at *
          clear HTx HKy HOk HZ o4
          unfold verA at HC
          go_upto_region 10 with (first | (refine wpList_load_mid rfl 54 (.tmp 3) rfl w1.heap.size 0 rfl (verL (verF s)) _ HVr'.out.range Try.underlying54 rfl HSz.out ?_) | (go_at_call 35; refine HC.out.mono ?_; rintro e w3 ⟨rfl, hb3⟩; have HB3 := hideIt (belJ HBa.out hb3); clear hb3))
          by_cases hf : f = 0
          · subst hf
            rw [show toldV 0 = .nilIface from rfl]
            go_wp2
            go_roundw
            case rel => exact ⟨k + 1, by omega, by go_num, HZk.out rfl, HB3.out⟩
            case measure => simp [intOf]; omega
          · have HE := hideIt (HF.out hf)
            have HBE := hideIt (belJ HB2.out HB3.out)
            rw [told_ne hf]
            go_wp2
            go_ret
            exact ⟨by rw [HE.out, told_ne hf]; rfl, HBE.out⟩
        · have HX : Hid (∀ j (h : j < s.txs.length), fltX s s.txs[j] = 0) := fun j hj => HZ.out j hj (by omega)
          have HKy := hideIt (HKy.out HX.out)
          have HOk := hideIt (HOk.out HX.out)
          have HOl : Hid (∀ k : Nat, k < 8 → k < s.ord.length) := fun k hk => by have := HOr.out; omega
          clear HTx HZ HX
          go_wp2
          go_loopw [40] (fun i wz => ∃ k : Nat, k ≤ 8 ∧ i = .int .i64 k ∧ (∀ j, j < k → fltK s j = 0) ∧ Below wr.heap.size wr wz) (fun i _ => 8 - (intOf i).toNat)
          case atStart => exact ⟨0, by omega, rfl, fun j hj => absurd hj (by omega), Below.refl _ _⟩
          case round =>
            obtain ⟨q, hq, rfl, hz, hb⟩ := hrel
            have HZ := hideIt hz
            have HBz := hideIt hb
            clear hz hb
            have HLr : Hid (w.heap.size < W2.heap.size ∧ W2.heap.size ≤ _) := ⟨HLt.out, HBw.out.size⟩
            have f0 := (HBz.out.cell (p := ⟨w.heap.size, 0, none⟩) (Nat.lt_of_lt_of_le HLr.out.1 HLr.out.2)).trans e0
            have f1 := (HBz.out.cell (p := ⟨w.heap.size, 1, none⟩) (Nat.lt_of_lt_of_le HLr.out.1 HLr.out.2)).trans e1
            have HVz := hideIt (HVr.out.below HBz.out HVr.out.lt)
            have HBzr := hideIt (belJ HBwr.out HBz.out)
            by_cases hq8 : q < 8
            · have hq8' : (q : Int) < s.ord.length := by have := HOr.out; omega
              have HC := hideIt (checkList_any s a b ca cb q _ (HS.out.below HBzr.out) (by omega) hq8 (HOl.out q hq8))
              have HF := hideIt (HKy.out q hq8 HZ.out)
              have HZk : Hid (fltK s q = 0 → ∀ j, j < q + 1 → fltK s j = 0) := fun h0 j hjk => by
                by_cases e : j = q
                · subst e; exact h0
                · exact HZ.out j (by omega)
              generalize fltK s q = f at *
              unfold verA at HC
              clear HKy HOk HZ HLr
              go_upto_region 17 with (first | (refine wpList_load_mid rfl 54 (.tmp 3) rfl w1.heap.size 0 rfl (verL (verF s)) _ HVz.out.range Try.underlying54 rfl HSz.out ?_) | (go_at_call 36; refine HC.out.mono ?_; rintro e w3 ⟨rfl, hb3⟩; have HB3 := hideIt (belJ HBz.out hb3); clear hb3))
              by_cases hf : f = 0
              · subst hf
                rw [show toldV 0 = .nilIface from rfl]
                go_wp2
                go_roundw
                case rel => exact ⟨q + 1, by omega, by go_num, HZk.out (by trivial), HB3.out⟩
                case measure => simp [intOf]; omega
              · have HE := hideIt (HF.out hf)
                have HBE := hideIt (belJ HBwr.out HB3.out)
                rw [told_ne hf]
                go_wp2
                go_ret
                exact ⟨by rw [HE.out, told_ne hf]; rfl, HBE.out⟩
            · have HE := hideIt (HOk.out fun j hj => HZ.out j (by omega))
              have hq8' : ¬ (q : Int) < s.ord.length := by have := HOr.out; omega
              clear HKy HOk HZ HLr
              go_wp2
              go_ret
              exact ⟨by rw [HE.out]; rfl, HBzr.out⟩
    · have hb8 : ((s.ord.length : Int) != 8) = true := by simp; omega
      have HE : Hid (fltI s = 3) := by unfold fltI; rw [if_neg h8, if_pos hor]; rfl
      go_wp2
      go_ret
      exact ⟨by rw [HE.out]; rfl, HB.out⟩
end Go.Proofs.Ytodanhjookgbeaa
