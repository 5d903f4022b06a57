/-
  The statement IsolateReplay's body, walked.
-/
import Derived.Test.YtaopigjhdkdklaaDoorKlWZ
import Derived.Test.YtaopigjhdkdklaaDoorKvPZ
namespace Go.Proofs.YtaopigjhdkdklaaDoor
open Go.RowKit

/-- Who wrote each key last, in memory. -/
structure LasAt (w : World) (g : Nat) (f : Nat → Int) : Prop where
  blk : ∃ cur, w.heap[g]? = some (.cells cur 3 (0, 0))
  num : ∀ k, k < 8 → w.cell? ⟨g, k, none⟩ = some (.int .i64 (f k))
theorem LasAt.lt {w : World} {g : Nat} {f : Nat → Int} (h : LasAt w g f) : g < w.heap.size := by
  obtain ⟨cur, hc⟩ := h.blk
  exact lt_of_heap hc
theorem LasAt.fz {w : World} {g : Nat} {f : Nat → Int} (h : LasAt w g f) (i : Nat) : w.frozen? ⟨g, i, none⟩ = false := by
  obtain ⟨cur, hc⟩ := h.blk
  exact frozen_of_row w g i cur 3 hc
theorem LasAt.block {w w' : World} {g : Nat} {f : Nat → Int} (h : LasAt w g f) (hb : w'.heap[g]? = w.heap[g]?) : LasAt w' g f := by
  obtain ⟨cur, hc⟩ := h.blk
  exact ⟨⟨cur, hb.trans hc⟩, fun k hk => (World.cell?_of_block (a := ⟨g, k, none⟩) hb).trans (h.num k hk)⟩
theorem LasAt.below {B : Nat} {w w' : World} {g : Nat} {f : Nat → Int} (h : LasAt w g f) (hb : Below B w w') (hg : g < B) : LasAt w' g f := h.block (hb.block g hg)
theorem LasAt.same {w : World} {g : Nat} {f f' : Nat → Int} (h : LasAt w g f) (e : ∀ k, k < 8 → f k = f' k) : LasAt w g f' := ⟨h.blk, fun k hk => by rw [← e k hk]; exact h.num k hk⟩
theorem LasAt.put {w : World} {g : Nat} {f : Nat → Int} (h : LasAt w g f) {m : Nat} (hm : m < 8) (x : Int) : LasAt (w.setCell ⟨g, m, none⟩ (.int .i64 x)) g (fun k => if k = m then x else f k) := by
  obtain ⟨cur, hc⟩ := h.blk
  obtain ⟨cur', hc', _⟩ := heap_setCell hc m (.int .i64 x)
  refine ⟨⟨cur', hc'⟩, fun k hk => ?_⟩
  by_cases e : k = m
  · subst e
    rw [if_pos rfl]
    exact World.cell?_setCell_same _ _ _ (h.num k hk)
  · rw [if_neg e, World.cell?_setCell_other _ _ _ _ (offNe (Ne.symm e))]
    exact h.num k hk
/-- Behind the first ops of one. -/
def lasM (s : ISt) (M : List Int) (t : Int) (m : Nat) (k : Nat) : Int := if 0 < wroT ⟨(txI s t).ops.take m, false⟩ (k : Int) then t else lasW s M (k : Int)
theorem lasM_zero (s : ISt) (M : List Int) (t : Int) (k : Nat) : lasM s M t 0 k = lasW s M (k : Int) := by
  unfold lasM wroT
  simp
theorem lasM_all (s : ISt) (M : List Int) (t : Int) (k : Nat) : lasM s M t (txI s t).ops.length k = lasW s (M ++ [t]) (k : Int) := by
  rw [lasW_app]
  unfold lasM wroI
  rw [List.take_length]
  rfl
theorem lasM_more (s : ISt) (M : List Int) (t : Int) {m : Nat} (hm : m < (txI s t).ops.length) (k : Nat) : lasM s M t (m + 1) k = if ((txI s t).ops[m].wr && (txI s t).ops[m].key == (k : Int)) = true then t else lasM s M t m k := by
  unfold lasM wroT
  dsimp only
  rw [List.take_add_one, List.getElem?_eq_getElem hm, List.countP_append]
  simp only [Option.toList_some, List.countP_cons, List.countP_nil, Nat.zero_add]
  by_cases h : ((txI s t).ops[m].wr && (txI s t).ops[m].key == (k : Int)) = true
  · rw [if_pos h, if_pos h, if_pos (by omega)]
  · rw [if_neg h, if_neg h, Nat.add_zero]
theorem lvl_le (s : ISt) (h : ¬ lvlI s < 3) : lvlI s = 3 := by
  unfold lvlI at h ⊢
  split at h
  · omega
  split at h
  · omega
  split at h
  · omega
  · rename_i h1 h2 h3
    rw [if_neg h1, if_neg h2, if_neg h3]

set_option maxRecDepth 100000 in
set_option maxHeartbeats 4000000 in
theorem replay_walk (s : ISt) (a b : Option Addr) (ca cb : Nat) (w : World) (h : StyQ w a ca b cb s) :
    Calls Tryd.prog 23 #[.agg #[.slice a s.txs.length ca, .slice b s.ord.length cb]] w fun e w' => e = .returned (.bool true) ∧ Below w.heap.size w w' := by
  have HB : Hid (Below w.heap.size w (w.alloc (.cells #[.slice a s.txs.length ca, .slice b s.ord.length cb] 44))) := belA (Below.refl _ _) _
  obtain ⟨c0, c1⟩ := box2 w (.slice a s.txs.length ca) (.slice b s.ord.length cb) 44
  have HS := hideIt (h.below HB.out)
  clear h
  go_enter Tryd.func23, Tryd.ntmps23
  go_wp2_with fail
  generalize hW : w.alloc _ = W at HB c0 c1 HS ⊢
  clear hW
  have HBox : Hid (∀ Z, Below W.heap.size W Z → Z.cell? ⟨w.heap.size, 0, none⟩ = some (.slice a s.txs.length ca) ∧ Z.cell? ⟨w.heap.size, 1, none⟩ = some (.slice b s.ord.length cb)) := fun Z hZ => ⟨(hZ.cell (p := ⟨w.heap.size, 0, none⟩) (World.block_lt_of_cell? W _ c0)).trans c0, (hZ.cell (p := ⟨w.heap.size, 1, none⟩) (World.block_lt_of_cell? W _ c1)).trans c1⟩
  clear c0 c1
  refine (long_any s 60 a b ca cb W HS.out).mono ?_
  rintro e W1 ⟨r, rfl, hb1⟩
  have HBx := hideIt hb1
  clear hb1
  cases r
  rotate_left 1
  · have HFi := hideIt (belJ HB.out HBx.out)
    clear HBox HBx HB
    go_wp2
    go_ret
    exact ⟨rfl, HFi.out⟩
  obtain ⟨d0, d1⟩ := HBox.out _ HBx.out
  have HL := hideIt (level_any s a b ca cb W1 (HS.out.below HBx.out))
  unfold LevTold at HL
  by_cases hf : fltI s = 0
  rotate_left 1
  · rw [if_neg hf, show toldV (fltI s) = .iface 29 (.int .i64 (fltI s)) from by unfold toldV; rw [if_neg hf]] at HL
    clear hf
    go_wp2_with fail
    refine HL.out.mono ?_
    rintro e W2 ⟨rfl, hb2⟩
    replace HBx := hideIt (belJ HBx.out hb2)
    clear HL hb2 d0 d1
    have HIs := hideIt (isolates_any W2)
    go_wp2_with fail
    refine HIs.out.mono ?_
    rintro e W3 ⟨rfl, hb3⟩
    replace HBx := hideIt (belJ HBx.out hb3)
    clear HIs hb3
    have HBk : Hid (∀ Z, Below W3.heap.size W3 Z → Below w.heap.size w Z) := fun Z hZ => belJ (belJ HB.out HBx.out) hZ
    go_wp2_with fail
    refine (isolates_any W3).mono ?_
    rintro e W4 ⟨rfl, hb4⟩
    have HFi := hideIt (HBk.out _ hb4)
    clear hb4 HBk HBx HBox
    go_wp2
    go_ret
    exact ⟨rfl, HFi.out⟩
  rw [if_pos hf, hf, show toldV 0 = .nilIface from rfl] at HL
  go_wp2_with fail
  refine HL.out.mono ?_
  rintro e W2 ⟨rfl, hb2⟩
  replace HBx := hideIt (belJ HBx.out hb2)
  clear HL hb2 d0 d1
  have HIs := hideIt (isolates_any W2)
  go_wp2_with fail
  refine HIs.out.mono ?_
  rintro e W3 ⟨rfl, hb3⟩
  replace HBx := hideIt (belJ HBx.out hb3)
  clear HIs hb3
  have HBk : Hid (∀ Z, Below W3.heap.size W3 Z → Below w.heap.size w Z) := fun Z hZ => belJ (belJ HB.out HBx.out) hZ
  by_cases h3 : lvlI s < 3
  · generalize lvlI s = lv at h3 ⊢
    clear hf
    go_wp2_with fail
    refine (isolates_any W3).mono ?_
    rintro e W4 ⟨rfl, hb4⟩
    have HFi := hideIt (HBk.out _ hb4)
    clear hb4 HBk HBx HBox
    go_wp2
    go_ret
    exact ⟨rfl, HFi.out⟩
  have hl3 := lvl_le s h3
  rw [hl3]
  obtain ⟨hsg, hlen, hat⟩ := replay_at hf hl3
  have HAt := hideIt hat
  have HSe := hideIt (serial_any s a b ca cb W3 (HS.out.below HBx.out))
  unfold SerTold at HSe
  rw [hsg, show toldV 0 = .nilIface from rfl] at HSe
  have h8 := (iOk_of hf).few
  have HOk := hideIt (iOk_of hf)
  obtain ⟨d0, d1⟩ := HBox.out _ HBx.out
  clear hf h3 hl3 hsg hat
  go_wp2_with fail
  refine HSe.out.mono ?_
  rintro e W4 ⟨x, rfl, hx, hb4⟩
  replace HBx := hideIt (belJ HBx.out hb4)
  replace HBk : Hid (∀ Z, Below W4.heap.size W4 Z → Below w.heap.size w Z) := fun Z hZ => belJ (belJ HB.out HBx.out) hZ
  clear HSe hb4 d0 d1 HB
  have hmk : (Instr.makeSlice 52 (.int .i64 8) (.int .i64 8)).run Tryd.prog W4 = .ok (.slice (some ⟨W4.heap.size, 0, none⟩) 8 8) (W4.alloc (.cells (madeCells #[.int .i64 0] 8) 3)) := made_nums W4 8 (by omega)
  have HLa : Hid (LasAt (W4.alloc (.cells (madeCells #[.int .i64 0] 8) 3)) W4.heap.size (fun q => if q < 0 then -1 else 0)) := ⟨⟨_, heap_alloc_new W4 _⟩, fun k hk => by
    rw [if_neg (by omega)]
    exact cell_made W4 (.int .i64 0) 8 3 k hk⟩
  have HX := hideIt hx
  have HXl : Hid (∃ xa xc, x = .slice xa (serV s).length xc ∧ (serV s).length ≤ xc) := by
    obtain ⟨xa, xc, e, hc, _⟩ := hx
    exact ⟨xa, xc, e, hc⟩
  clear hx
  obtain ⟨xa, xc, rfl, hxc⟩ := HXl.out
  clear HXl
  go_wp2
  have HB5 : Hid (Below W4.heap.size W4 (W4.alloc (.cells (madeCells #[.int .i64 0] 8) 3))) := belA (Below.refl _ _) _
  generalize W4.alloc _ = W5 at HLa HB5 hmk ⊢
  clear hmk
  go_loopw [7] (fun i wr => ∃ (k : Nat), k ≤ 8 ∧ i = .int .i64 k ∧ LasAt wr W4.heap.size (fun q => if q < k then -1 else 0) ∧ Below W4.heap.size W4 wr) (fun i _ => 8 - (intOf i).toNat)
  case atStart => exact ⟨0, Nat.zero_le _, rfl, HLa.out, HB5.out⟩
  case round =>
    obtain ⟨i, hi, rfl, hla, hbr⟩ := hrel
    replace HLa := hideIt hla
    replace HB5 := hideIt hbr
    by_cases hin : i < 8
    · have q0 := hla.num i hin
      have q1 := hla.fz i
      clear hla hbr
      have HLb := hideIt ((HLa.out.put hin (-1)).same (f' := fun q => if q < i + 1 then -1 else 0) fun k hk => by
        by_cases e : k = i
        · rw [if_pos e, if_pos (by omega)]
        · rw [if_neg e]
          by_cases e2 : k < i
          · rw [if_pos e2, if_pos (by omega)]
          · rw [if_neg e2, if_neg (by omega)])
      have HBb := hideIt (HB5.out.setCell (p := ⟨W4.heap.size, i, none⟩) (Nat.le_refl _) (.int .i64 (-1)))
      go_wp2
      go_roundw
      case rel => exact ⟨i + 1, by omega, by go_num, HLb.out, HBb.out⟩
      case measure => simp [intOf]; omega
    · have HL2 : Hid (LasAt wr W4.heap.size (fun q => lasW s ((serV s).take 0) (q : Int))) := HLa.out.same fun k hk => by
        rw [if_pos (by omega)]
        rfl
      clear hla hbr
      clear HLa
      go_wp2
      clear hi hin
      go_loopw [8] (fun i wz => ∃ (k : Nat), k ≤ (serV s).length ∧ i = .int .i64 k ∧ LasAt wz W4.heap.size (fun q => lasW s ((serV s).take k) (q : Int)) ∧ Below W4.heap.size W4 wz) (fun i _ => (serV s).length - (intOf i).toNat)
      case atStart => exact ⟨0, Nat.zero_le _, rfl, HL2.out, HB5.out⟩
      case round =>
        obtain ⟨i, hi, rfl, hla, hbr⟩ := hrel
        have HLa := hideIt hla
        replace HB5 := hideIt hbr
        clear hla hbr HL2
        by_cases hin : i < (serV s).length
        rotate_left 1
        · have HFi := hideIt (HBk.out _ HB5.out)
          clear HLa HB5 HBk HBox HAt HX HOk HS HBx
          go_wp2
          go_ret
          exact ⟨rfl, HFi.out⟩
        obtain ⟨⟨t0, t1⟩, hc, hops⟩ := HAt.out i hin
        obtain ⟨b1, p1, e1, _, hr1⟩ := HX.out.below HB5.out
        simp at e1
        obtain ⟨rfl, rfl⟩ := e1
        obtain ⟨g, off, rfl, x0⟩ := hr1 i hin
        have HTk : Hid ((serV s).take (i + 1) = (serV s).take i ++ [(serV s)[i]]) := by rw [List.take_add_one, List.getElem?_eq_getElem hin]; rfl
        clear hr1
        generalize (serV s)[i] = tt at t0 t1 hc hops x0 HTk
        obtain ⟨tn, rfl⟩ := Int.eq_ofNat_of_zero_le t0
        have ht : tn < s.txs.length := by omega
        obtain ⟨g2, off2, rfl, hg2, a1, cap1, y0, y1, y2, y3, y4⟩ := (HS.out.below HBx.out).tx ht
        rw [← txI_at ht] at y0 y1 y2 y3 y4
        rw [show (txI s (tn : Int)).com = true from hc] at y4
        have HTx : Hid (∀ Z, Below W4.heap.size W4 Z → Z.cell? ⟨w.heap.size, 0, none⟩ = some (.slice (some ⟨g2, off2, none⟩) s.txs.length ca) ∧ Z.cell? ⟨g2, off2 + tn * 2, none⟩ = some (.slice a1 (txI s (tn : Int)).ops.length cap1) ∧ Z.cell? ⟨g2, off2 + tn * 2 + 1, none⟩ = some (.bool true) ∧ IOpsQ Z a1 (txI s (tn : Int)).ops) := fun Z hZ => ⟨(HBox.out _ (belJ HBx.out hZ)).1, (hZ.cell (p := ⟨g2, off2 + tn * 2, none⟩) hg2).trans y0, (hZ.cell (p := ⟨g2, off2 + tn * 2 + 1, none⟩) hg2).trans y4, y3.below hZ⟩
        have HOps := hideIt hops
        have h60 : (txI s (tn : Int)).ops.length ≤ 60 := (HOk.out.ops _ (tx_mem t0 t1)).1
        clear y0 y2 y3 y4 hops hc t0
        obtain ⟨z0, z1, z2, _⟩ := HTx.out _ HB5.out
        go_wp2
        clear x0 z0 z1 z2
        go_loopw [10] (fun v wy => ∃ (k : Nat), k ≤ (txI s (tn : Int)).ops.length ∧ v = .int .i64 k ∧ LasAt wy W4.heap.size (fun q => lasW s ((serV s).take i) (q : Int)) ∧ Below W4.heap.size W4 wy) (fun v _ => (txI s (tn : Int)).ops.length - (intOf v).toNat)
        case atStart => exact ⟨0, Nat.zero_le _, rfl, HLa.out, HB5.out⟩
        case round =>
          obtain ⟨j, hj, rfl, hla, hbr⟩ := hrel
          replace HLa := hideIt hla
          replace HB5 := hideIt hbr
          clear hla hbr
          obtain ⟨z0, z1, z2, zq⟩ := HTx.out _ HB5.out
          by_cases hjn : j < (txI s (tn : Int)).ops.length
          · obtain ⟨g3, off3, rfl, hg3, o0, o1, o2, o3⟩ := zq.at hjn
            obtain ⟨⟨k0, k8⟩, hrd⟩ := HOps.out _ (List.getElem_mem hjn)
            clear zq
            generalize (txI s (tn : Int)).ops[j] = o at o0 o1 o2 o3 k0 k8 hrd
            obtain ⟨wrt, key, frm, num⟩ := o
            dsimp only at *
            obtain ⟨ky, rfl⟩ := Int.eq_ofNat_of_zero_le k0
            have q0 := cellA (o := .cells #[.bool wrt, .int .i64 (ky : Int), .int .i64 frm, .int .i64 num] 84) (HLa.out.num ky (by omega))
            have HL3 : Hid (LasAt (wr.alloc (.cells #[.bool wrt, .int .i64 (ky : Int), .int .i64 frm, .int .i64 num] 84)) W4.heap.size (fun q => lasW s ((serV s).take i) (q : Int))) := HLa.out.below (belA (Below.refl _ _) _) HLa.out.lt
            have HB6 := hideIt (belA HB5.out (.cells #[.bool wrt, .int .i64 (ky : Int), .int .i64 frm, .int .i64 num] 84))
            clear HLa HB5 hg3
            cases wrt
            · obtain ⟨c1, hc1⟩ : ∃ c1, (frm != (tn : Int)) = c1 := ⟨_, rfl⟩
              cases c1
              · clear hrd
                go_wp2_with fail
                go_quiet (fail)
                go_wp2
                go_roundw
                case rel => exact ⟨j + 1, by omega, by go_num, HL3.out.below (below_drewN (Below.refl _ _) _) HL3.out.lt, below_drewN HB6.out _⟩
                case measure => simp [intOf]; omega
              · have hfr := hrd rfl (by simpa using hc1)
                rw [← hfr] at q0
                have hc2 : (frm != frm) = false := by simp
                clear hrd hfr
                go_wp2_with fail
                go_quiet (fail)
                go_wp2
                go_roundw
                case rel => exact ⟨j + 1, by omega, by go_num, HL3.out.below (below_drewN (Below.refl _ _) _) HL3.out.lt, below_drewN HB6.out _⟩
                case measure => simp [intOf]; omega
            · clear hrd
              go_wp2_with fail
              go_quiet (fail)
              go_wp2
              go_roundw
              case rel => exact ⟨j + 1, by omega, by go_num, HL3.out.below (below_drewN (Below.refl _ _) _) HL3.out.lt, below_drewN HB6.out _⟩
              case measure => simp [intOf]; omega
          · have HL4 : Hid (LasAt wr W4.heap.size (lasM s ((serV s).take i) (tn : Int) 0)) := HLa.out.same fun k _ => (lasM_zero _ _ _ _).symm
            clear HLa zq
            go_wp2
            clear z0 z1 z2
            go_loopw [12] (fun v wx => ∃ (k : Nat), k ≤ (txI s (tn : Int)).ops.length ∧ v = .int .i64 k ∧ LasAt wx W4.heap.size (lasM s ((serV s).take i) (tn : Int) k) ∧ Below W4.heap.size W4 wx) (fun v _ => (txI s (tn : Int)).ops.length - (intOf v).toNat)
            case atStart => exact ⟨0, Nat.zero_le _, rfl, HL4.out, HB5.out⟩
            case round =>
              obtain ⟨m, hm, rfl, hla, hbr⟩ := hrel
              have HLa := hideIt hla
              replace HB5 := hideIt hbr
              clear hla hbr HL4
              obtain ⟨z0, z1, z2, zq⟩ := HTx.out _ HB5.out
              by_cases hmn : m < (txI s (tn : Int)).ops.length
              · obtain ⟨g3, off3, rfl, hg3, o0, o1, o2, o3⟩ := zq.at hmn
                obtain ⟨⟨k0, k8⟩, _⟩ := HOps.out _ (List.getElem_mem hmn)
                have HMo : Hid (∀ k, lasM s ((serV s).take i) (tn : Int) (m + 1) k = if ((txI s (tn : Int)).ops[m].wr && (txI s (tn : Int)).ops[m].key == (k : Int)) = true then (tn : Int) else lasM s ((serV s).take i) (tn : Int) m k) := fun k => lasM_more _ _ _ hmn k
                clear zq
                generalize (txI s (tn : Int)).ops[m] = o at o0 o1 o2 o3 k0 k8 HMo
                obtain ⟨wrt, key, frm, num⟩ := o
                dsimp only at *
                obtain ⟨ky, rfl⟩ := Int.eq_ofNat_of_zero_le k0
                have hk8 : ky < 8 := by omega
                have HL3 : Hid (LasAt (wr.alloc (.cells #[.bool wrt, .int .i64 (ky : Int), .int .i64 frm, .int .i64 num] 84)) W4.heap.size (lasM s ((serV s).take i) (tn : Int) m)) := HLa.out.below (belA (Below.refl _ _) _) HLa.out.lt
                have HB6 := hideIt (belA HB5.out (.cells #[.bool wrt, .int .i64 (ky : Int), .int .i64 frm, .int .i64 num] 84))
                have hne : ¬ W4.heap.size = wr.heap.size := by have := HLa.out.lt; omega
                have hne' : ¬ wr.heap.size = W4.heap.size := by omega
                clear HLa HB5 hg3
                cases wrt
                · have HLn : Hid (LasAt (wr.alloc (.cells #[.bool false, .int .i64 (ky : Int), .int .i64 frm, .int .i64 num] 84)) W4.heap.size (lasM s ((serV s).take i) (tn : Int) (m + 1))) := HL3.out.same fun k _ => by
                    rw [HMo.out]
                    simp
                  go_wp2
                  go_roundw
                  case rel => exact ⟨m + 1, by omega, by go_num, HLn.out, HB6.out⟩
                  case measure => simp [intOf]; omega
                · have q0 := HL3.out.num ky hk8
                  have q1 := HL3.out.fz ky
                  have HLn : Hid (LasAt ((wr.alloc (.cells #[.bool true, .int .i64 (ky : Int), .int .i64 frm, .int .i64 num] 84)).setCell ⟨W4.heap.size, ky, none⟩ (.int .i64 (tn : Int))) W4.heap.size (lasM s ((serV s).take i) (tn : Int) (m + 1))) := (HL3.out.put hk8 (tn : Int)).same fun k _ => by
                    rw [HMo.out]
                    by_cases e : k = ky
                    · subst e
                      simp
                    · have e2 : ¬ (ky : Int) = (k : Int) := by omega
                      rw [if_neg e]
                      simp [e2]
                  have HB7 := hideIt (HB6.out.setCell (p := ⟨W4.heap.size, ky, none⟩) (Nat.le_refl _) (.int .i64 (tn : Int)))
                  go_wp2
                  go_roundw
                  case rel => exact ⟨m + 1, by omega, by go_num, HLn.out, HB7.out⟩
                  case measure => simp [intOf]; omega
              · obtain rfl : m = (txI s (tn : Int)).ops.length := by omega
                have HLn : Hid (LasAt wr W4.heap.size (fun q => lasW s ((serV s).take (i + 1)) (q : Int))) := HLa.out.same fun k _ => by rw [lasM_all, HTk.out]
                clear zq
                go_wp2
                go_roundw
                case rel => exact ⟨i + 1, by omega, by go_num, HLn.out, HB5.out⟩
                case measure => simp [intOf]; omega
end Go.Proofs.YtaopigjhdkdklaaDoor
