/-
  The document's StoryFinds, walked.
-/
import Derived.Test.YtodanhjookgbeaaDoorIlWZ
namespace Go.Proofs.YtodanhjookgbeaaDoor
open Go.RowKit

set_option maxRecDepth 100000 in
set_option maxHeartbeats 16000000 in
theorem dFinds_any (s : ISt) (ok : IOk s) (a b : Option Addr) (ca cb : Nat) (w : World) (h : StyQ w a ca b cb s) :
    Calls Tryd.prog 13 #[.agg #[.slice a s.txs.length ca, .slice b s.ord.length cb]] w fun e w' => ∃ B, e = .returned (.slice (some ⟨B, 0, none⟩) 6 6) ∧ BitsAt w' B 6 (fndB s) ∧ Below w.heap.size w w' := by
  have HS := hideIt h
  have h8 := ok.few
  have HB : Hid (Below w.heap.size w (w.alloc (.cells #[.slice a s.txs.length ca, .slice b s.ord.length cb] 28))) := belA (Below.refl _ _) _
  obtain ⟨c0, c1⟩ := box2 w (.slice a s.txs.length ca) (.slice b s.ord.length cb) 28
  have HOp : Hid (∀ i : Nat, i < s.txs.length → ∀ m (hm : m < (txI s (i : Int)).ops.length), fltP s (txI s (i : Int)).ops[m] = 0) := fun i hi m hm => (ok.ops (txI s (i : Int)) (by rw [txI_at hi]; exact List.getElem_mem hi)).2 _ (List.getElem_mem hm)
  have HWro : Hid (∀ f : Nat, f < s.txs.length → ∀ key, wroI s (f : Int) key ≤ 60) := fun f hf key => by
    have h1 := (ok.ops (txI s (f : Int)) (by rw [txI_at hf]; exact List.getElem_mem hf)).1
    unfold wroI wroT
    exact Nat.le_trans List.countP_le_length h1
  have HEg := hideIt (dEdges_any s ok a b ca cb _ (h.below HB.out))
  unfold EdgTold at HEg
  clear h ok
  go_enter Tryd.func13, Tryd.ntmps13
  go_wp2_with fail
  generalize hW : w.alloc _ = W at HB c0 c1 HEg ⊢
  have HWs : Hid (w.heap.size < W.heap.size) := World.block_lt_of_cell? W _ c0
  clear hW
  refine HEg.out.mono ?_
  rintro e w1 ⟨v1, v2, v3, rfl, hr1, hr2, hr3, hb1⟩
  clear HEg
  have hmk : (Instr.makeSlice 47 (.int .i64 6) (.int .i64 6)).run Tryd.prog w1 = .ok (.slice (some ⟨w1.heap.size, 0, none⟩) 6 6) (w1.alloc (.cells (madeCells #[.bool false] 6) 4)) := made_bits w1 6 (by omega)
  have hbA : Below w1.heap.size w1 (w1.alloc (.cells (madeCells #[.bool false] 6) 4)) := belA (Below.refl _ _) _
  have HF : Hid (FinD (w1.alloc (.cells (madeCells #[.bool false] 6) 4)) W w1.heap.size s.txs.length v1 v2 v3 (ovB s) (seB s) (anB s) (fndL s (rdN s 0))) :=
    ⟨(bits_made w1 6).same fun k _ => by simp [fndL, rdN], (hr1.apart (Nat.le_refl _)).below hbA, (hr2.apart (Nat.le_refl _)).below hbA, (hr3.apart (Nat.le_refl _)).below hbA, hb1.size, belJ hb1 hbA⟩
  have d0 := (HF.out.bel.cell (p := ⟨w.heap.size, 0, none⟩) HWs.out).trans c0
  have HW : Hid (∀ Z, Below W.heap.size W Z → ∀ f : Nat, (hf : f < s.txs.length) → ∀ (key : Int), ∃ g off oa oc, a = some ⟨g, off, none⟩ ∧ g < W.heap.size ∧ Z.cell? ⟨g, off + f * 2, none⟩ = some (.slice oa (txI s (f : Int)).ops.length oc) ∧ Z.cell? ⟨g, off + f * 2 + 1, none⟩ = some (.bool (comI s (f : Int))) ∧ (∀ Z', Below W.heap.size W Z' → Calls Tryd.prog 20 #[.agg #[.slice oa (txI s (f : Int)).ops.length oc, .bool (comI s (f : Int))], .int .i64 key] Z' fun e w' => e = .returned (.int .i64 (wroI s (f : Int) key : Nat)) ∧ Below Z'.heap.size Z' w') ∧ (∀ Z', Below W.heap.size W Z' → IOpsQ Z' oa (txI s (f : Int)).ops) ∧ (txI s (f : Int)).ops.length ≤ maxLen) := fun Z hZ f hf key => by
    obtain ⟨g, off, e, hg, oa, oc, o1, o2, o3, o4, o5⟩ := (HS.out.below HB.out).tx hf
    have e2 : comI s (f : Int) = s.txs[f].com := by unfold comI; rw [txI_at hf]
    have e3 : wroI s (f : Int) key = wroT ⟨s.txs[f].ops, s.txs[f].com⟩ key := by unfold wroI; rw [txI_at hf]
    rw [e2, e3, txI_at hf]
    exact ⟨g, off, oa, oc, e, hg, (hZ.cell (p := ⟨g, off + f * 2, none⟩) hg).trans o1, (hZ.cell (p := ⟨g, off + f * 2 + 1, none⟩) hg).trans o5, fun Z' hZ' => wrote_any _ _ key oa oc Z' o3 (o4.below hZ'), fun Z' hZ' => o4.below hZ', o3⟩
  go_upto_region 3 with fail
  clear hmk hr1 hr2 hr3 hb1 hbA
  generalize w1.alloc _ = W2 at HF d0 ⊢
  generalize w1.heap.size = Bf at *
  go_wp2
  go_loopw [25] (fun i wr => ∃ n : Nat, n ≤ s.txs.length ∧ i = .int .i64 n ∧ FinD wr W Bf s.txs.length v1 v2 v3 (ovB s) (seB s) (anB s) (fndL s (rdN s n))) (fun i _ => s.txs.length - (intOf i).toNat)
  case atStart => exact ⟨0, by omega, rfl, HF.out⟩
  case round =>
    clear HF d0
    obtain ⟨n, hn, rfl, hf⟩ := hrel
    have HF := hideIt hf
    clear hf
    by_cases hnl : n < s.txs.length
    · have hnl' : (n : Int) < s.txs.length := by omega
      obtain ⟨g, off, oa, oc, ea, hg, x1, x2, _, hoq, hol⟩ := HW.out wr HF.out.bel n hnl 0
      have HEa := hideIt ea
      have HOq := hideIt hoq
      have HOn := hideIt (HOp.out n hnl)
      have HQu := hideIt (fun (hc : comI s (n : Int) = false) m => rdP_quiet (s := s) (i := n) hc m)
      have HSk := hideIt (fun (m : Nat) hm h => rdP_skip (s := s) (i := n) (m := m) hm h)
      have HMo := hideIt (fun (hc : comI s (n : Int) = true) (m : Nat) hm h => rdP_more (s := s) (i := n) (m := m) hc hm h)
      have HZe := hideIt (rdP_zero s n)
      have HNx := hideIt (rdN_succ s n)
      rw [ea]
      clear ea hoq
      generalize (txI s (n : Int)).ops = ops at *
      generalize comI s (n : Int) = cm at *
      have hBt : Bf < wr.heap.size := HF.out.bits.lt
      replace HF := hideIt (HF.out.below (belA (Below.refl wr.heap.size wr) (.cells #[.slice oa ops.length oc, .bool cm] 62)))
      obtain ⟨y0, y1⟩ := box2 wr (.slice oa ops.length oc) (.bool cm) 62
      unfold maxLen at hol
      go_wp2
      generalize hX1 : wr.alloc _ = X1 at HF y0 y1 ⊢
      clear hX1 x1 x2 y0
      generalize wr.heap.size = Bt at *
      go_loopw [33] (fun i wv => ∃ m : Nat, m ≤ ops.length ∧ i = .int .i64 m ∧ FinD wv W Bf s.txs.length v1 v2 v3 (ovB s) (seB s) (anB s) (fndL s (rdP s n m)) ∧ wv.cell? ⟨Bt, 1, none⟩ = some (.bool cm)) (fun i _ => ops.length - (intOf i).toNat)
      case atStart => exact ⟨0, by omega, rfl, by rw [HZe.out]; exact HF.out, y1⟩
      case round =>
        clear HF y1 HZe
        obtain ⟨m, hm, rfl, hf, y1⟩ := hrel
        rename World => wv
        have HF := hideIt hf
        clear hf
        by_cases hml : m < ops.length
        · have hml' : (m : Int) < ops.length := by omega
          obtain ⟨g4, off4, rfl, hg4, p1, p2, p3, p4⟩ := (HOq.out wv HF.out.bel).at hml
          obtain ⟨f1, f2, f3, f4, f5, f6⟩ := fltP_zero (HOn.out m hml)
          have HSk := hideIt (HSk.out m hml)
          have HMo := hideIt (fun hc => HMo.out hc m hml)
          generalize ops[m] = o at *
          obtain ⟨owr, okey, ofrm, onum⟩ := o
          dsimp only at f1 f2 f3 f4 f5 f6
          have e0 := cellA (o := (.cells #[.bool owr, .int .i64 okey, .int .i64 ofrm, .int .i64 onum] 68)) ((HF.out.bel.cell (p := ⟨w.heap.size, 0, none⟩) HWs.out).trans c0)
          replace y1 := cellA (o := (.cells #[.bool owr, .int .i64 okey, .int .i64 ofrm, .int .i64 onum] 68)) y1
          have hBo : Bf < wv.heap.size := HF.out.bits.lt
          replace HF := hideIt (HF.out.below (belA (Below.refl wv.heap.size wv) (.cells #[.bool owr, .int .i64 okey, .int .i64 ofrm, .int .i64 onum] 68)))
          have q0 : (wv.alloc (.cells #[.bool owr, .int .i64 okey, .int .i64 ofrm, .int .i64 onum] 68)).cell? ⟨wv.heap.size, 0, none⟩ = some (.bool owr) := by simp
          have q1 : (wv.alloc (.cells #[.bool owr, .int .i64 okey, .int .i64 ofrm, .int .i64 onum] 68)).cell? ⟨wv.heap.size, 1, none⟩ = some (.int .i64 okey) := by simp
          have q2 : (wv.alloc (.cells #[.bool owr, .int .i64 okey, .int .i64 ofrm, .int .i64 onum] 68)).cell? ⟨wv.heap.size, 2, none⟩ = some (.int .i64 ofrm) := by simp
          have q3 : (wv.alloc (.cells #[.bool owr, .int .i64 okey, .int .i64 ofrm, .int .i64 onum] 68)).cell? ⟨wv.heap.size, 3, none⟩ = some (.int .i64 onum) := by simp
          go_upto_region 9 with fail
          generalize (wv.alloc _) = V at e0 y1 HF q0 q1 q2 q3 ⊢
          generalize wv.heap.size = Bo at *
          clear p1 p2 p3 p4 HOq
          cases cm
          · have HP := hideIt (HQu.out rfl)
            go_wp2
            go_roundw
            case rel => exact ⟨m + 1, by omega, by go_num, by rw [HP.out (m + 1), ← HP.out m]; exact HF.out, y1⟩
            case measure => simp [intOf]; omega
          · cases owr
            rotate_left 1
            · have HP := hideIt (HSk.out rfl)
              go_wp2
              go_roundw
              case rel => exact ⟨m + 1, by omega, by go_num, by rw [HP.out]; exact HF.out, y1⟩
              case measure => simp [intOf]; omega
            have HP := hideIt (HMo.out rfl rfl)
            clear HSk HMo HQu
            have hrd := f6 rfl
            obtain ⟨ky, rfl⟩ := Int.eq_ofNat_of_zero_le f1.1
            have HPn : Hid (othB n ⟨false, ky, ofrm, onum⟩ = false → FinD V W Bf s.txs.length v1 v2 v3 (ovB s) (seB s) (anB s) (fndL s (rdP s n (m + 1)))) := fun ho => HF.out.same fun k _ => by
              rw [fnd_more HP.out, ho]
              simp only [Bool.false_and, Bool.or_false]
              unfold fndL
              by_cases h1 : k = 1
              · simp [h1]
              · by_cases h2 : k = 2 <;> simp [h1, h2]
            by_cases hf0 : ofrm = -1
            · subst hf0
              have HE3 := hideIt (HPn.out rfl)
              clear HPn HF HP
              go_wp2
              go_roundw
              case rel => exact ⟨m + 1, by omega, by go_num, HE3.out, y1⟩
              case measure => simp [intOf]; omega
            obtain ⟨fr, rfl⟩ := Int.eq_ofNat_of_zero_le (show 0 ≤ ofrm by omega)
            have hfr : fr < s.txs.length := by omega
            have hfr' : (fr : Int) < s.txs.length := by omega
            by_cases hfn : fr = n
            · have e2 : ((fr : Int) != (n : Int)) = false := by rw [hfn]; simp
              have HE3 := hideIt (HPn.out (by unfold othB; dsimp only; rw [e2, Bool.and_false]))
              clear HPn HF HP hfn hf0 hrd
              go_wp2
              go_roundw
              case rel => exact ⟨m + 1, by omega, by go_num, HE3.out, y1⟩
              case measure => simp [intOf]; omega
            have e2 : ((fr : Int) != (n : Int)) = true := by rw [bne_iff_ne]; omega
            have HOt : Hid (othB n ⟨false, ky, fr, onum⟩ = true) := by
              show (((fr : Int) != -1) && ((fr : Int) != (n : Int))) = true
              rw [e2, Bool.and_true, bne_iff_ne]; exact hf0
            obtain ⟨gx, ox, oa2, oc2, ea2, hgx, x1, x2, hwr, _, _⟩ := HW.out V HF.out.bel fr hfr (ky : Int)
            obtain ⟨rfl, rfl⟩ : g = gx ∧ off = ox := by
              have := HEa.out.symm.trans ea2
              simp at this
              exact this
            have HWr := hideIt hwr
            have hwb := HWro.out fr hfr (ky : Int)
            rw [HEa.out] at e0
            have hn60 : onum < 60 := by
              rcases hrd.2 with h | h
              · exact absurd h hf0
              · have := h.2.2.2; dsimp only at this; omega
            have HLb : Hid ((!lastB (verF s) ⟨false, ky, fr, onum⟩) = (onum + 1 != (wroI s (fr : Int) (ky : Int) : Int))) := by
              unfold lastB verF
              dsimp only
              rw [Int.toNat_natCast, Int.toNat_natCast]
              by_cases h3 : onum + 1 = (wroI s (fr : Int) (ky : Int) : Int)
              · rw [show (onum + 1 != (wroI s (fr : Int) (ky : Int) : Int)) = false by rw [h3]; simp, show (onum == (wroI s (fr : Int) (ky : Int) : Int) - 1) = true by rw [beq_iff_eq]; omega]; rfl
              · rw [show (onum + 1 != (wroI s (fr : Int) (ky : Int) : Int)) = true by rw [bne_iff_ne]; exact h3, show (onum == (wroI s (fr : Int) (ky : Int) : Int) - 1) = false by rw [beq_eq_false_iff_ne]; omega]; rfl
            have HFm : Hid (∀ k, fndL s (rdP s n (m + 1)) k = if k = 1 then (fndL s (rdP s n m) 1 || !comI s (fr : Int)) else if k = 2 then (fndL s (rdP s n m) 2 || (onum + 1 != (wroI s (fr : Int) (ky : Int) : Int))) else false) := fun k => by
              rw [fnd_more HP.out, HOt.out, HLb.out, Bool.true_and, Bool.true_and]
            have HF0 : Hid (∀ k, k ≠ 1 → k ≠ 2 → fndL s (rdP s n m) k = false) := fun k h1 h2 => by unfold fndL; rw [if_neg h1, if_neg h2]
            have HSz2 : Hid (w.heap.size < V.heap.size ∧ Bo < V.heap.size ∧ g < V.heap.size ∧ Bt < V.heap.size) := ⟨World.block_lt_of_cell? V _ e0, World.block_lt_of_cell? V _ q0, World.block_lt_of_cell? V _ x1, World.block_lt_of_cell? V _ y1⟩
            have hlo := HF.out.lo
            have HNe : Hid (w.heap.size ≠ Bf ∧ g ≠ Bf) := ⟨by have := HWs.out; omega, by omega⟩
            have b1 := HF.out.bits.bit 1 (by omega)
            have z1 := HF.out.bits.fz 1
            generalize (txI s (fr : Int)).ops.length = nl at *
            generalize wroI s (fr : Int) (ky : Int) = x at *
            generalize comI s (fr : Int) = cf at *
            generalize fndL s (rdP s n m) = F at *
            clear HP HPn HOt HLb hwr ea2 hrd hf0 hfn
            have hwp : IntKind.i64.wrap (onum + 1) = onum + 1 := by rw [IntKind.wrap_i64]; omega
            -- out[1]
            have HP1 := hideIt (HF.out.put (m := 1) (by omega) (F 1 || !cf))
            have HC : Hid (∀ u, (V.setCell ⟨Bf, 1, none⟩ u).cell? ⟨w.heap.size, 0, none⟩ = some (.slice (some ⟨g, off, none⟩) s.txs.length ca) ∧ (V.setCell ⟨Bf, 1, none⟩ u).cell? ⟨Bo, 1, none⟩ = some (.int .i64 (ky : Int)) ∧ (V.setCell ⟨Bf, 1, none⟩ u).cell? ⟨Bo, 2, none⟩ = some (.int .i64 (fr : Int)) ∧ (V.setCell ⟨Bf, 1, none⟩ u).cell? ⟨Bo, 3, none⟩ = some (.int .i64 onum) ∧ (V.setCell ⟨Bf, 1, none⟩ u).cell? ⟨g, off + fr * 2, none⟩ = some (.slice oa2 nl oc2) ∧ (V.setCell ⟨Bf, 1, none⟩ u).cell? ⟨g, off + fr * 2 + 1, none⟩ = some (.bool cf) ∧ (V.setCell ⟨Bf, 1, none⟩ u).cell? ⟨Bt, 1, none⟩ = some (.bool true)) := fun u =>
              ⟨(World.cell?_setCell_other _ _ _ _ (blkNe HNe.out.1.symm)).trans e0, (World.cell?_setCell_other _ _ _ _ (blkNe (by omega))).trans q1, (World.cell?_setCell_other _ _ _ _ (blkNe (by omega))).trans q2, (World.cell?_setCell_other _ _ _ _ (blkNe (by omega))).trans q3, (World.cell?_setCell_other _ _ _ _ (blkNe HNe.out.2.symm)).trans x1, (World.cell?_setCell_other _ _ _ _ (blkNe HNe.out.2.symm)).trans x2, (World.cell?_setCell_other _ _ _ _ (blkNe (by omega))).trans y1⟩
            go_upto_region 10 with fail
            have HCut : Hid (∀ u : Bool, (F 1 || !cf) = u → Hid (FinD (V.setCell ⟨Bf, 1, none⟩ (.bool u)) W Bf s.txs.length v1 v2 v3 (ovB s) (seB s) (anB s) (fun k => if k = 1 then (F 1 || !cf) else F k))) := fun u hu => by rw [← hu]; exact HP1
            cases hF1 : F 1
            · rw [hF1] at b1
              cases cf
              · --a
                have HFX := hideIt (HCut.out true (by rw [hF1]; rfl)).out
                obtain ⟨k0, k1, k2, k3, k4, k5, k6⟩ := HC.out (.bool true)
                go_upto_region 11 with fail
                generalize hX : V.setCell _ _ = X at HFX k0 k1 k2 k3 k4 k5 k6 ⊢
                clear hX HCut HC b1 z1 e0 q0 q1 q2 q3 x1 x2 y1 HP1 HF
                have t2 := HFX.out.bits.bit 2 (by omega)
                have z2 := HFX.out.bits.fz 2
                simp only [show ((2 : Nat) = 1) = False from by simp, if_false] at t2
                have HBX : Hid (Below W.heap.size W X.drew) := HFX.out.bel.drew
                have HPt0 : Hid (∀ Y, Below X.heap.size X Y → ∀ v, (F 2 || (onum + 1 != (x : Int))) = v → (fun w' => w'.cell? ⟨w.heap.size, 0, none⟩ = some (.slice (some ⟨g, off, none⟩) s.txs.length ca) ∧ w'.cell? ⟨Bo, 1, none⟩ = some (.int .i64 (ky : Int)) ∧ w'.cell? ⟨Bo, 2, none⟩ = some (.int .i64 (fr : Int)) ∧ w'.cell? ⟨Bo, 3, none⟩ = some (.int .i64 onum) ∧ w'.cell? ⟨g, off + fr * 2, none⟩ = some (.slice oa2 nl oc2) ∧ w'.cell? ⟨g, off + fr * 2 + 1, none⟩ = some (.bool false)) (Y.setCell ⟨Bf, 2, none⟩ (.bool v)) ∧ FinD (Y.setCell ⟨Bf, 2, none⟩ (.bool v)) W Bf s.txs.length v1 v2 v3 (ovB s) (seB s) (anB s) (fndL s (rdP s n (m + 1))) ∧ (Y.setCell ⟨Bf, 2, none⟩ (.bool v)).cell? ⟨Bt, 1, none⟩ = some (.bool true)) := fun Y hY v hv => by
                  have hS := fun {q j : Nat} {u : Value} (hc : X.cell? ⟨q, j, none⟩ = some u) (hne : q ≠ Bf) => (World.cell?_setCell_other Y ⟨Bf, 2, none⟩ ⟨q, j, none⟩ (.bool v) (blkNe (Ne.symm hne))).trans ((hY.cell (p := ⟨q, j, none⟩) (World.block_lt_of_cell? X _ hc)).trans hc)
                  refine ⟨⟨hS k0 HNe.out.1, hS k1 (by omega), hS k2 (by omega), hS k3 (by omega), hS k4 HNe.out.2, hS k5 HNe.out.2⟩, ((HFX.out.below hY).put (m := 2) (by omega) v).same fun k _ => ?_, hS k6 (by omega)⟩
                  rw [HFm.out]
                  by_cases e2 : k = 2
                  · rw [if_pos e2, if_neg (by omega), if_pos e2, hv]
                  · rw [if_neg e2]
                    by_cases e1 : k = 1
                    · rw [if_pos e1, if_pos e1]
                    · rw [if_neg e1, if_neg e1, if_neg e2, HF0.out k e1 e2]
                cases hF2 : F 2
                · rw [hF2] at t2 HPt0
                  have HPt : Hid (∀ Y, Below X.drew.heap.size X.drew Y → ((fun w' => w'.cell? ⟨w.heap.size, 0, none⟩ = some (.slice (some ⟨g, off, none⟩) s.txs.length ca) ∧ w'.cell? ⟨Bo, 1, none⟩ = some (.int .i64 (ky : Int)) ∧ w'.cell? ⟨Bo, 2, none⟩ = some (.int .i64 (fr : Int)) ∧ w'.cell? ⟨Bo, 3, none⟩ = some (.int .i64 onum) ∧ w'.cell? ⟨g, off + fr * 2, none⟩ = some (.slice oa2 nl oc2) ∧ w'.cell? ⟨g, off + fr * 2 + 1, none⟩ = some (.bool false)) Y ∧ Y.cell? ⟨Bf, 2, none⟩ = some (.bool false)) ∧ Y.frozen? ⟨Bf, 2, none⟩ = false ∧ (fun w' => w'.cell? ⟨w.heap.size, 0, none⟩ = some (.slice (some ⟨g, off, none⟩) s.txs.length ca) ∧ w'.cell? ⟨Bo, 1, none⟩ = some (.int .i64 (ky : Int)) ∧ w'.cell? ⟨Bo, 2, none⟩ = some (.int .i64 (fr : Int)) ∧ w'.cell? ⟨Bo, 3, none⟩ = some (.int .i64 onum) ∧ w'.cell? ⟨g, off + fr * 2, none⟩ = some (.slice oa2 nl oc2) ∧ w'.cell? ⟨g, off + fr * 2 + 1, none⟩ = some (.bool false)) (Y.setCell ⟨Bf, 2, none⟩ (.bool (onum + 1 != (x : Int)))) ∧ FinD (Y.setCell ⟨Bf, 2, none⟩ (.bool (onum + 1 != (x : Int)))) W Bf s.txs.length v1 v2 v3 (ovB s) (seB s) (anB s) (fndL s (rdP s n (m + 1))) ∧ (Y.setCell ⟨Bf, 2, none⟩ (.bool (onum + 1 != (x : Int)))).cell? ⟨Bt, 1, none⟩ = some (.bool true)) := fun Y hY => by
                    have hY' : Below X.heap.size X Y := belJ (below_drew1 X) hY
                    have hS := fun {q j : Nat} {u : Value} (hc : X.cell? ⟨q, j, none⟩ = some u) => (hY'.cell (p := ⟨q, j, none⟩) (World.block_lt_of_cell? X _ hc)).trans hc
                    exact ⟨⟨⟨hS k0, hS k1, hS k2, hS k3, hS k4, hS k5⟩, hS t2⟩, (HFX.out.bits.below hY' HFX.out.bits.lt).fz 2, HPt0.out Y hY' _ rfl⟩
                  clear HPt0 HFX HFm HF0
                  go_upto_region 11 with fail
                  refine wp_region_L (B := [20]) (S := (fun w' => w'.cell? ⟨w.heap.size, 0, none⟩ = some (.slice (some ⟨g, off, none⟩) s.txs.length ca) ∧ w'.cell? ⟨Bo, 1, none⟩ = some (.int .i64 (ky : Int)) ∧ w'.cell? ⟨Bo, 2, none⟩ = some (.int .i64 (fr : Int)) ∧ w'.cell? ⟨Bo, 3, none⟩ = some (.int .i64 onum) ∧ w'.cell? ⟨g, off + fr * 2, none⟩ = some (.slice oa2 nl oc2) ∧ w'.cell? ⟨g, off + fr * 2 + 1, none⟩ = some (.bool false))) (T := (fun w' => w'.cell? ⟨Bf, 2, none⟩ = some (.bool false))) (by kernel_rfl) ⟨⟨k0, k1, k2, k3, k4, k5⟩, t2⟩ (fun hHeld => ?_)
                  refine wpAnyL_takeS (i := 0) (v := ?_) rfl (by kernel_rfl) (by kernel_rfl) (by kernel_rfl) (by kernel_rfl) (fun _ _ _ h => h) (Or.inl ⟨by rfl, ?_⟩) (by assumption) ?_
                  rotate_left 1
                  · intro wz ⟨z0, z1, z2, z3, z4, z5⟩
                    go_simp
                    all_goals with_reducible rfl
                  simp only [Act.put, List.setIfInBounds_toArray, List.set_cons_zero, List.set_cons_succ, List.getElem_toArray, List.getElem_cons_zero]
                  refine wpAnyL_takeS (i := 1) (v := ?_) rfl (by kernel_rfl) (by kernel_rfl) (by kernel_rfl) (by kernel_rfl) (fun _ _ _ h => h) (Or.inl ⟨by rfl, ?_⟩) (by assumption) ?_
                  rotate_left 1
                  · intro wz ⟨z0, z1, z2, z3, z4, z5⟩
                    go_simp
                    all_goals with_reducible rfl
                  simp only [Act.put, List.setIfInBounds_toArray, List.set_cons_zero, List.set_cons_succ, List.getElem_toArray, List.getElem_cons_zero, List.getElem_cons_succ]
                  refine wpAnyL_takeS (i := 2) (v := ?_) rfl (by kernel_rfl) (by kernel_rfl) (by kernel_rfl) (by kernel_rfl) (fun _ _ _ h => h) (Or.inl ⟨by rfl, ?_⟩) (by assumption) ?_
                  rotate_left 1
                  · intro wz ⟨z0, z1, z2, z3, z4, z5⟩
                    go_simp
                    all_goals with_reducible rfl
                  simp only [Act.put, List.setIfInBounds_toArray, List.set_cons_zero, List.set_cons_succ, List.getElem_toArray, List.getElem_cons_zero, List.getElem_cons_succ]
                  refine wpAnyL_take [4, 18, 20] (i := 3) (v := ?_) rfl (by kernel_rfl) (by kernel_rfl) (by kernel_rfl) (by kernel_rfl) (fun _ _ _ h => h) (Or.inl ⟨by rfl, ?_⟩) (by assumption) ?_
                  rotate_left 1
                  · intro wz ⟨⟨z0, z1, z2, z3, z4, z5⟩, t0⟩
                    go_simp
                    all_goals with_reducible rfl
                  simp only [Act.put, List.setIfInBounds_toArray, List.set_cons_zero, List.set_cons_succ, List.getElem_toArray, List.getElem_cons_zero, List.getElem_cons_succ]
                  refine wpAnyL_takeS (i := 4) (v := ?_) rfl (by kernel_rfl) (by kernel_rfl) (by kernel_rfl) (by kernel_rfl) (fun _ _ _ h => h) (Or.inl ⟨by rfl, ?_⟩) (by assumption) ?_
                  rotate_left 1
                  · intro wz ⟨z0, z1, z2, z3, z4, z5⟩
                    go_simp
                    all_goals with_reducible rfl
                  simp only [Act.put, List.setIfInBounds_toArray, List.set_cons_zero, List.set_cons_succ, List.getElem_toArray, List.getElem_cons_zero, List.getElem_cons_succ]
                  refine wpAnyL_takeS (i := 5) (v := ?_) rfl (by kernel_rfl) (by kernel_rfl) (by kernel_rfl) (by kernel_rfl) (fun _ _ _ h => h) (Or.inl ⟨by rfl, ?_⟩) (by assumption) ?_
                  rotate_left 1
                  · intro wz ⟨z0, z1, z2, z3, z4, z5⟩
                    go_simp
                    all_goals with_reducible rfl
                  simp only [Act.put, List.setIfInBounds_toArray, List.set_cons_zero, List.set_cons_succ, List.getElem_toArray, List.getElem_cons_zero, List.getElem_cons_succ]
                  refine wpAnyL_takeS (i := 6) (v := ?_) rfl (by kernel_rfl) (by kernel_rfl) (by kernel_rfl) (by kernel_rfl) (fun _ _ _ h => h) (Or.inl ⟨by rfl, ?_⟩) (by assumption) ?_
                  rotate_left 1
                  · intro wz ⟨z0, z1, z2, z3, z4, z5⟩
                    go_simp
                    all_goals with_reducible rfl
                  simp only [Act.put, List.setIfInBounds_toArray, List.set_cons_zero, List.set_cons_succ, List.getElem_toArray, List.getElem_cons_zero, List.getElem_cons_succ]
                  refine wpAnyL_takeS (i := 7) (v := ?_) rfl (by kernel_rfl) (by kernel_rfl) (by kernel_rfl) (by kernel_rfl) (fun _ _ _ h => h) (Or.inl ⟨by rfl, ?_⟩) (by assumption) ?_
                  rotate_left 1
                  · intro wz ⟨z0, z1, z2, z3, z4, z5⟩
                    go_simp
                    all_goals with_reducible rfl
                  simp only [Act.put, List.setIfInBounds_toArray, List.set_cons_zero, List.set_cons_succ, List.getElem_toArray, List.getElem_cons_zero, List.getElem_cons_succ]
                  refine wpAnyL_takeS (i := 8) (v := ?_) rfl (by kernel_rfl) (by kernel_rfl) (by kernel_rfl) (by kernel_rfl) (fun _ _ _ h => h) (Or.inl ⟨by rfl, ?_⟩) (by assumption) ?_
                  rotate_left 1
                  · intro wz ⟨z0, z1, z2, z3, z4, z5⟩
                    go_simp
                    all_goals with_reducible rfl
                  simp only [Act.put, List.setIfInBounds_toArray, List.set_cons_zero, List.set_cons_succ, List.getElem_toArray, List.getElem_cons_zero, List.getElem_cons_succ]
                  refine wpAnyL_takeS (i := 9) (v := ?_) rfl (by kernel_rfl) (by kernel_rfl) (by kernel_rfl) (by kernel_rfl) (fun _ _ _ h => h) (Or.inl ⟨by rfl, ?_⟩) (by assumption) ?_
                  rotate_left 1
                  · intro wz ⟨z0, z1, z2, z3, z4, z5⟩
                    go_simp
                    all_goals with_reducible rfl
                  simp only [Act.put, List.setIfInBounds_toArray, List.set_cons_zero, List.set_cons_succ, List.getElem_toArray, List.getElem_cons_zero, List.getElem_cons_succ]
                  refine wpAnyL_takeS (i := 10) (v := ?_) rfl (by kernel_rfl) (by kernel_rfl) (by kernel_rfl) (by kernel_rfl) (fun _ _ _ h => h) (Or.inl ⟨by rfl, ?_⟩) (by assumption) ?_
                  rotate_left 1
                  · intro wz ⟨z0, z1, z2, z3, z4, z5⟩
                    go_simp
                    all_goals with_reducible rfl
                  simp only [Act.put, List.setIfInBounds_toArray, List.set_cons_zero, List.set_cons_succ, List.getElem_toArray, List.getElem_cons_zero, List.getElem_cons_succ]
                  refine wpAnyL_takeS (i := 11) (v := ?_) rfl (by kernel_rfl) (by kernel_rfl) (by kernel_rfl) (by kernel_rfl) (fun _ _ _ h => h) (Or.inl ⟨by rfl, ?_⟩) (by assumption) ?_
                  rotate_left 1
                  · intro wz ⟨z0, z1, z2, z3, z4, z5⟩
                    go_simp
                    all_goals with_reducible rfl
                  simp only [Act.put, List.setIfInBounds_toArray, List.set_cons_zero, List.set_cons_succ, List.getElem_toArray, List.getElem_cons_zero, List.getElem_cons_succ]
                  refine wpAnyL_takeS (i := 12) (v := ?_) rfl (by kernel_rfl) (by kernel_rfl) (by kernel_rfl) (by kernel_rfl) (fun _ _ _ h => h) (Or.inl ⟨by rfl, ?_⟩) (by assumption) ?_
                  rotate_left 1
                  · intro wz ⟨z0, z1, z2, z3, z4, z5⟩
                    go_simp
                    all_goals with_reducible rfl
                  simp only [Act.put, List.setIfInBounds_toArray, List.set_cons_zero, List.set_cons_succ, List.getElem_toArray, List.getElem_cons_zero, List.getElem_cons_succ]
                  refine wpAnyL_takeS (i := 13) (v := ?_) rfl (by kernel_rfl) (by kernel_rfl) (by kernel_rfl) (by kernel_rfl) (fun _ _ _ h => h) (Or.inl ⟨by rfl, ?_⟩) (by assumption) ?_
                  rotate_left 1
                  · intro wz ⟨z0, z1, z2, z3, z4, z5⟩
                    go_simp
                    all_goals with_reducible rfl
                  simp only [Act.put, List.setIfInBounds_toArray, List.set_cons_zero, List.set_cons_succ, List.getElem_toArray, List.getElem_cons_zero, List.getElem_cons_succ]
                  refine wpAnyL_takeS (i := 14) (v := ?_) rfl (by kernel_rfl) (by kernel_rfl) (by kernel_rfl) (by kernel_rfl) (fun _ _ _ h => h) (Or.inl ⟨by rfl, ?_⟩) (by assumption) ?_
                  rotate_left 1
                  · intro wz ⟨z0, z1, z2, z3, z4, z5⟩
                    go_simp
                    all_goals with_reducible rfl
                  simp only [Act.put, List.setIfInBounds_toArray, List.set_cons_zero, List.set_cons_succ, List.getElem_toArray, List.getElem_cons_zero, List.getElem_cons_succ]
                  refine wpAnyL_takeS (i := 15) (v := ?_) rfl (by kernel_rfl) (by kernel_rfl) (by kernel_rfl) (by kernel_rfl) (fun _ _ _ h => h) (Or.inl ⟨by rfl, ?_⟩) (by assumption) ?_
                  rotate_left 1
                  · intro wz ⟨z0, z1, z2, z3, z4, z5⟩
                    go_simp
                    all_goals with_reducible rfl
                  simp only [Act.put, List.setIfInBounds_toArray, List.set_cons_zero, List.set_cons_succ, List.getElem_toArray, List.getElem_cons_zero, List.getElem_cons_succ]
                  refine wpAnyL_ready (rs := [16]) (by kernel_rfl) (by simp) (AllReadyL.cons rfl (fun K hK => ?_) AllReadyL.nil)
                  go_simp
                  refine (HWr.out _ (HBX.out)).mono ?_
                  rintro e X3 ⟨rfl, hb3⟩
                  obtain ⟨hs3, hp3⟩ := HPt.out X3 hb3
                  refine hK.out _ _ ?_ (fun hHeld => ?_)
                  · exact hs3
                  clear hK K
                  refine wpAnyL_takeS (i := 17) (v := ?_) rfl (by kernel_rfl) (by kernel_rfl) (by kernel_rfl) (by kernel_rfl) (fun _ _ _ h => h) (Or.inl ⟨by rfl, ?_⟩) (by assumption) ?_
                  rotate_left 1
                  · intro wz ⟨z0, z1, z2, z3, z4, z5⟩
                    go_simp
                    all_goals with_reducible rfl
                  simp only [Act.put, List.setIfInBounds_toArray, List.set_cons_zero, List.set_cons_succ, List.getElem_toArray, List.getElem_cons_zero, List.getElem_cons_succ]
                  refine wpAnyL_takeS (i := 18) (v := ?_) rfl (by kernel_rfl) (by kernel_rfl) (by kernel_rfl) (by kernel_rfl) (fun _ _ _ h => h) (Or.inl ⟨by rfl, ?_⟩) (by assumption) ?_
                  rotate_left 1
                  · intro wz ⟨z0, z1, z2, z3, z4, z5⟩
                    go_simp
                    all_goals with_reducible rfl
                  simp only [Act.put, List.setIfInBounds_toArray, List.set_cons_zero, List.set_cons_succ, List.getElem_toArray, List.getElem_cons_zero, List.getElem_cons_succ]
                  refine wpAnyL_takeS (i := 19) (v := ?_) rfl (by kernel_rfl) (by kernel_rfl) (by kernel_rfl) (by kernel_rfl) (fun _ _ _ h => h) (Or.inl ⟨by rfl, ?_⟩) (by assumption) ?_
                  rotate_left 1
                  · intro wz ⟨z0, z1, z2, z3, z4, z5⟩
                    go_simp
                    all_goals with_reducible rfl
                  simp only [Act.put, List.setIfInBounds_toArray, List.set_cons_zero, List.set_cons_succ, List.getElem_toArray, List.getElem_cons_zero, List.getElem_cons_succ]
                  refine wpAnyL_ready (rs := [20]) (by kernel_rfl) (by simp) (AllReadyL.last rfl (by kernel_rfl) (fun K hK => ?_) AllReadyL.nil)
                  have hs4 := hs3.2
                  have hs5 := hp3.1
                  go_simp
                  refine hK.out _ _ ?_ (fun hHeld => ?_)
                  · exact hp3.2.1
                  clear hK K
                  refine wpAnyL_done (by kernel_rfl) ?_ _
                  go_wp2
                  go_roundw
                  case rel => exact ⟨m + 1, by omega, by go_num, hp3.2.2.1, hp3.2.2.2⟩
                  case measure => simp [intOf]; omega
                · rw [hF2] at t2 HPt0
                  have HPt : Hid ((fun w' => w'.cell? ⟨w.heap.size, 0, none⟩ = some (.slice (some ⟨g, off, none⟩) s.txs.length ca) ∧ w'.cell? ⟨Bo, 1, none⟩ = some (.int .i64 (ky : Int)) ∧ w'.cell? ⟨Bo, 2, none⟩ = some (.int .i64 (fr : Int)) ∧ w'.cell? ⟨Bo, 3, none⟩ = some (.int .i64 onum) ∧ w'.cell? ⟨g, off + fr * 2, none⟩ = some (.slice oa2 nl oc2) ∧ w'.cell? ⟨g, off + fr * 2 + 1, none⟩ = some (.bool false)) (X.drew.setCell ⟨Bf, 2, none⟩ (.bool true)) ∧ FinD (X.drew.setCell ⟨Bf, 2, none⟩ (.bool true)) W Bf s.txs.length v1 v2 v3 (ovB s) (seB s) (anB s) (fndL s (rdP s n (m + 1))) ∧ (X.drew.setCell ⟨Bf, 2, none⟩ (.bool true)).cell? ⟨Bt, 1, none⟩ = some (.bool true)) := HPt0.out X.drew (below_drew1 X) true rfl
                  clear HPt0 HFX HFm HF0 HBX HWr
                  go_upto_region 11 with fail
                  refine wp_region_L (B := [20]) (S := (fun w' => w'.cell? ⟨w.heap.size, 0, none⟩ = some (.slice (some ⟨g, off, none⟩) s.txs.length ca) ∧ w'.cell? ⟨Bo, 1, none⟩ = some (.int .i64 (ky : Int)) ∧ w'.cell? ⟨Bo, 2, none⟩ = some (.int .i64 (fr : Int)) ∧ w'.cell? ⟨Bo, 3, none⟩ = some (.int .i64 onum) ∧ w'.cell? ⟨g, off + fr * 2, none⟩ = some (.slice oa2 nl oc2) ∧ w'.cell? ⟨g, off + fr * 2 + 1, none⟩ = some (.bool false))) (T := (fun w' => w'.cell? ⟨Bf, 2, none⟩ = some (.bool true))) (by kernel_rfl) ⟨⟨k0, k1, k2, k3, k4, k5⟩, t2⟩ (fun hHeld => ?_)
                  refine wpAnyL_takeS (i := 0) (v := ?_) rfl (by kernel_rfl) (by kernel_rfl) (by kernel_rfl) (by kernel_rfl) (fun _ _ _ h => h) (Or.inl ⟨by rfl, ?_⟩) (by assumption) ?_
                  rotate_left 1
                  · intro wz ⟨z0, z1, z2, z3, z4, z5⟩
                    go_simp
                    all_goals with_reducible rfl
                  simp only [Act.put, List.setIfInBounds_toArray, List.set_cons_zero, List.set_cons_succ, List.getElem_toArray, List.getElem_cons_zero]
                  refine wpAnyL_takeS (i := 1) (v := ?_) rfl (by kernel_rfl) (by kernel_rfl) (by kernel_rfl) (by kernel_rfl) (fun _ _ _ h => h) (Or.inl ⟨by rfl, ?_⟩) (by assumption) ?_
                  rotate_left 1
                  · intro wz ⟨z0, z1, z2, z3, z4, z5⟩
                    go_simp
                    all_goals with_reducible rfl
                  simp only [Act.put, List.setIfInBounds_toArray, List.set_cons_zero, List.set_cons_succ, List.getElem_toArray, List.getElem_cons_zero, List.getElem_cons_succ]
                  refine wpAnyL_takeS (i := 2) (v := ?_) rfl (by kernel_rfl) (by kernel_rfl) (by kernel_rfl) (by kernel_rfl) (fun _ _ _ h => h) (Or.inl ⟨by rfl, ?_⟩) (by assumption) ?_
                  rotate_left 1
                  · intro wz ⟨z0, z1, z2, z3, z4, z5⟩
                    go_simp
                    all_goals with_reducible rfl
                  simp only [Act.put, List.setIfInBounds_toArray, List.set_cons_zero, List.set_cons_succ, List.getElem_toArray, List.getElem_cons_zero, List.getElem_cons_succ]
                  refine wpAnyL_take [4, 18, 20] (i := 3) (v := ?_) rfl (by kernel_rfl) (by kernel_rfl) (by kernel_rfl) (by kernel_rfl) (fun _ _ _ h => h) (Or.inl ⟨by rfl, ?_⟩) (by assumption) ?_
                  rotate_left 1
                  · intro wz ⟨⟨z0, z1, z2, z3, z4, z5⟩, t0⟩
                    go_simp
                    all_goals with_reducible rfl
                  simp only [Act.put, List.setIfInBounds_toArray, List.set_cons_zero, List.set_cons_succ, List.getElem_toArray, List.getElem_cons_zero, List.getElem_cons_succ]
                  refine wpAnyL_takeS (i := 4) (v := ?_) rfl (by kernel_rfl) (by kernel_rfl) (by kernel_rfl) (by kernel_rfl) (fun _ _ _ h => h) (Or.inl ⟨by rfl, ?_⟩) (by assumption) ?_
                  rotate_left 1
                  · intro wz ⟨z0, z1, z2, z3, z4, z5⟩
                    go_simp
                    all_goals with_reducible rfl
                  simp only [Act.put, List.setIfInBounds_toArray, List.set_cons_zero, List.set_cons_succ, List.getElem_toArray, List.getElem_cons_zero, List.getElem_cons_succ]
                  refine wpAnyL_takeS (i := 5) (v := undef) rfl (by kernel_rfl) (by kernel_rfl) (by kernel_rfl) (by kernel_rfl) (fun _ _ _ h => h) (Or.inr ⟨by rfl, rfl⟩) (by assumption) ?_
                  simp only [Act.put, List.setIfInBounds_toArray, List.set_cons_zero, List.set_cons_succ, List.getElem_toArray, List.getElem_cons_zero, List.getElem_cons_succ]
                  refine wpAnyL_takeS (i := 6) (v := undef) rfl (by kernel_rfl) (by kernel_rfl) (by kernel_rfl) (by kernel_rfl) (fun _ _ _ h => h) (Or.inr ⟨by rfl, rfl⟩) (by assumption) ?_
                  simp only [Act.put, List.setIfInBounds_toArray, List.set_cons_zero, List.set_cons_succ, List.getElem_toArray, List.getElem_cons_zero, List.getElem_cons_succ]
                  refine wpAnyL_takeS (i := 7) (v := undef) rfl (by kernel_rfl) (by kernel_rfl) (by kernel_rfl) (by kernel_rfl) (fun _ _ _ h => h) (Or.inr ⟨by rfl, rfl⟩) (by assumption) ?_
                  simp only [Act.put, List.setIfInBounds_toArray, List.set_cons_zero, List.set_cons_succ, List.getElem_toArray, List.getElem_cons_zero, List.getElem_cons_succ]
                  refine wpAnyL_takeS (i := 8) (v := undef) rfl (by kernel_rfl) (by kernel_rfl) (by kernel_rfl) (by kernel_rfl) (fun _ _ _ h => h) (Or.inr ⟨by rfl, rfl⟩) (by assumption) ?_
                  simp only [Act.put, List.setIfInBounds_toArray, List.set_cons_zero, List.set_cons_succ, List.getElem_toArray, List.getElem_cons_zero, List.getElem_cons_succ]
                  refine wpAnyL_takeS (i := 9) (v := undef) rfl (by kernel_rfl) (by kernel_rfl) (by kernel_rfl) (by kernel_rfl) (fun _ _ _ h => h) (Or.inr ⟨by rfl, rfl⟩) (by assumption) ?_
                  simp only [Act.put, List.setIfInBounds_toArray, List.set_cons_zero, List.set_cons_succ, List.getElem_toArray, List.getElem_cons_zero, List.getElem_cons_succ]
                  refine wpAnyL_takeS (i := 10) (v := undef) rfl (by kernel_rfl) (by kernel_rfl) (by kernel_rfl) (by kernel_rfl) (fun _ _ _ h => h) (Or.inr ⟨by rfl, rfl⟩) (by assumption) ?_
                  simp only [Act.put, List.setIfInBounds_toArray, List.set_cons_zero, List.set_cons_succ, List.getElem_toArray, List.getElem_cons_zero, List.getElem_cons_succ]
                  refine wpAnyL_takeS (i := 11) (v := undef) rfl (by kernel_rfl) (by kernel_rfl) (by kernel_rfl) (by kernel_rfl) (fun _ _ _ h => h) (Or.inr ⟨by rfl, rfl⟩) (by assumption) ?_
                  simp only [Act.put, List.setIfInBounds_toArray, List.set_cons_zero, List.set_cons_succ, List.getElem_toArray, List.getElem_cons_zero, List.getElem_cons_succ]
                  refine wpAnyL_takeS (i := 12) (v := undef) rfl (by kernel_rfl) (by kernel_rfl) (by kernel_rfl) (by kernel_rfl) (fun _ _ _ h => h) (Or.inr ⟨by rfl, rfl⟩) (by assumption) ?_
                  simp only [Act.put, List.setIfInBounds_toArray, List.set_cons_zero, List.set_cons_succ, List.getElem_toArray, List.getElem_cons_zero, List.getElem_cons_succ]
                  refine wpAnyL_takeS (i := 13) (v := undef) rfl (by kernel_rfl) (by kernel_rfl) (by kernel_rfl) (by kernel_rfl) (fun _ _ _ h => h) (Or.inr ⟨by rfl, rfl⟩) (by assumption) ?_
                  simp only [Act.put, List.setIfInBounds_toArray, List.set_cons_zero, List.set_cons_succ, List.getElem_toArray, List.getElem_cons_zero, List.getElem_cons_succ]
                  refine wpAnyL_takeS (i := 14) (v := undef) rfl (by kernel_rfl) (by kernel_rfl) (by kernel_rfl) (by kernel_rfl) (fun _ _ _ h => h) (Or.inr ⟨by rfl, rfl⟩) (by assumption) ?_
                  simp only [Act.put, List.setIfInBounds_toArray, List.set_cons_zero, List.set_cons_succ, List.getElem_toArray, List.getElem_cons_zero, List.getElem_cons_succ]
                  refine wpAnyL_takeS (i := 15) (v := undef) rfl (by kernel_rfl) (by kernel_rfl) (by kernel_rfl) (by kernel_rfl) (fun _ _ _ h => h) (Or.inr ⟨by rfl, rfl⟩) (by assumption) ?_
                  simp only [Act.put, List.setIfInBounds_toArray, List.set_cons_zero, List.set_cons_succ, List.getElem_toArray, List.getElem_cons_zero, List.getElem_cons_succ]
                  refine wpAnyL_takeS (i := 16) (v := undef) rfl (by kernel_rfl) (by kernel_rfl) (by kernel_rfl) (by kernel_rfl) (fun _ _ _ h => h) (Or.inr ⟨by rfl, rfl⟩) (by assumption) ?_
                  simp only [Act.put, List.setIfInBounds_toArray, List.set_cons_zero, List.set_cons_succ, List.getElem_toArray, List.getElem_cons_zero, List.getElem_cons_succ]
                  refine wpAnyL_takeS (i := 17) (v := undef) rfl (by kernel_rfl) (by kernel_rfl) (by kernel_rfl) (by kernel_rfl) (fun _ _ _ h => h) (Or.inr ⟨by rfl, rfl⟩) (by assumption) ?_
                  simp only [Act.put, List.setIfInBounds_toArray, List.set_cons_zero, List.set_cons_succ, List.getElem_toArray, List.getElem_cons_zero, List.getElem_cons_succ]
                  refine wpAnyL_takeS (i := 18) (v := ?_) rfl (by kernel_rfl) (by kernel_rfl) (by kernel_rfl) (by kernel_rfl) (fun _ _ _ h => h) (Or.inl ⟨by rfl, ?_⟩) (by assumption) ?_
                  rotate_left 1
                  · intro wz ⟨z0, z1, z2, z3, z4, z5⟩
                    go_simp
                    all_goals with_reducible rfl
                  simp only [Act.put, List.setIfInBounds_toArray, List.set_cons_zero, List.set_cons_succ, List.getElem_toArray, List.getElem_cons_zero, List.getElem_cons_succ]
                  refine wpAnyL_takeS (i := 19) (v := ?_) rfl (by kernel_rfl) (by kernel_rfl) (by kernel_rfl) (by kernel_rfl) (fun _ _ _ h => h) (Or.inl ⟨by rfl, ?_⟩) (by assumption) ?_
                  rotate_left 1
                  · intro wz ⟨z0, z1, z2, z3, z4, z5⟩
                    go_simp
                    all_goals with_reducible rfl
                  simp only [Act.put, List.setIfInBounds_toArray, List.set_cons_zero, List.set_cons_succ, List.getElem_toArray, List.getElem_cons_zero, List.getElem_cons_succ]
                  refine wpAnyL_ready (rs := [20]) (by kernel_rfl) (by simp) (AllReadyL.last rfl (by kernel_rfl) (fun K hK => ?_) AllReadyL.nil)
                  go_simp
                  refine hK.out _ _ ?_ (fun hHeld => ?_)
                  · exact HPt.out.1
                  clear hK K
                  refine wpAnyL_done (by kernel_rfl) ?_ _
                  go_wp2
                  go_roundw
                  case rel => exact ⟨m + 1, by omega, by go_num, HPt.out.2.1, HPt.out.2.2⟩
                  case measure => simp [intOf]; omega
              · --b
                have HFX := hideIt (HCut.out false (by rw [hF1]; rfl)).out
                obtain ⟨k0, k1, k2, k3, k4, k5, k6⟩ := HC.out (.bool false)
                go_upto_region 11 with fail
                generalize hX : V.setCell _ _ = X at HFX k0 k1 k2 k3 k4 k5 k6 ⊢
                clear hX HCut HC b1 z1 e0 q0 q1 q2 q3 x1 x2 y1 HP1 HF
                have t2 := HFX.out.bits.bit 2 (by omega)
                have z2 := HFX.out.bits.fz 2
                simp only [show ((2 : Nat) = 1) = False from by simp, if_false] at t2
                have HBX : Hid (Below W.heap.size W X.drew) := HFX.out.bel.drew
                have HPt0 : Hid (∀ Y, Below X.heap.size X Y → ∀ v, (F 2 || (onum + 1 != (x : Int))) = v → (fun w' => w'.cell? ⟨w.heap.size, 0, none⟩ = some (.slice (some ⟨g, off, none⟩) s.txs.length ca) ∧ w'.cell? ⟨Bo, 1, none⟩ = some (.int .i64 (ky : Int)) ∧ w'.cell? ⟨Bo, 2, none⟩ = some (.int .i64 (fr : Int)) ∧ w'.cell? ⟨Bo, 3, none⟩ = some (.int .i64 onum) ∧ w'.cell? ⟨g, off + fr * 2, none⟩ = some (.slice oa2 nl oc2) ∧ w'.cell? ⟨g, off + fr * 2 + 1, none⟩ = some (.bool true)) (Y.setCell ⟨Bf, 2, none⟩ (.bool v)) ∧ FinD (Y.setCell ⟨Bf, 2, none⟩ (.bool v)) W Bf s.txs.length v1 v2 v3 (ovB s) (seB s) (anB s) (fndL s (rdP s n (m + 1))) ∧ (Y.setCell ⟨Bf, 2, none⟩ (.bool v)).cell? ⟨Bt, 1, none⟩ = some (.bool true)) := fun Y hY v hv => by
                  have hS := fun {q j : Nat} {u : Value} (hc : X.cell? ⟨q, j, none⟩ = some u) (hne : q ≠ Bf) => (World.cell?_setCell_other Y ⟨Bf, 2, none⟩ ⟨q, j, none⟩ (.bool v) (blkNe (Ne.symm hne))).trans ((hY.cell (p := ⟨q, j, none⟩) (World.block_lt_of_cell? X _ hc)).trans hc)
                  refine ⟨⟨hS k0 HNe.out.1, hS k1 (by omega), hS k2 (by omega), hS k3 (by omega), hS k4 HNe.out.2, hS k5 HNe.out.2⟩, ((HFX.out.below hY).put (m := 2) (by omega) v).same fun k _ => ?_, hS k6 (by omega)⟩
                  rw [HFm.out]
                  by_cases e2 : k = 2
                  · rw [if_pos e2, if_neg (by omega), if_pos e2, hv]
                  · rw [if_neg e2]
                    by_cases e1 : k = 1
                    · rw [if_pos e1, if_pos e1]
                    · rw [if_neg e1, if_neg e1, if_neg e2, HF0.out k e1 e2]
                cases hF2 : F 2
                · rw [hF2] at t2 HPt0
                  have HPt : Hid (∀ Y, Below X.drew.heap.size X.drew Y → ((fun w' => w'.cell? ⟨w.heap.size, 0, none⟩ = some (.slice (some ⟨g, off, none⟩) s.txs.length ca) ∧ w'.cell? ⟨Bo, 1, none⟩ = some (.int .i64 (ky : Int)) ∧ w'.cell? ⟨Bo, 2, none⟩ = some (.int .i64 (fr : Int)) ∧ w'.cell? ⟨Bo, 3, none⟩ = some (.int .i64 onum) ∧ w'.cell? ⟨g, off + fr * 2, none⟩ = some (.slice oa2 nl oc2) ∧ w'.cell? ⟨g, off + fr * 2 + 1, none⟩ = some (.bool true)) Y ∧ Y.cell? ⟨Bf, 2, none⟩ = some (.bool false)) ∧ Y.frozen? ⟨Bf, 2, none⟩ = false ∧ (fun w' => w'.cell? ⟨w.heap.size, 0, none⟩ = some (.slice (some ⟨g, off, none⟩) s.txs.length ca) ∧ w'.cell? ⟨Bo, 1, none⟩ = some (.int .i64 (ky : Int)) ∧ w'.cell? ⟨Bo, 2, none⟩ = some (.int .i64 (fr : Int)) ∧ w'.cell? ⟨Bo, 3, none⟩ = some (.int .i64 onum) ∧ w'.cell? ⟨g, off + fr * 2, none⟩ = some (.slice oa2 nl oc2) ∧ w'.cell? ⟨g, off + fr * 2 + 1, none⟩ = some (.bool true)) (Y.setCell ⟨Bf, 2, none⟩ (.bool (onum + 1 != (x : Int)))) ∧ FinD (Y.setCell ⟨Bf, 2, none⟩ (.bool (onum + 1 != (x : Int)))) W Bf s.txs.length v1 v2 v3 (ovB s) (seB s) (anB s) (fndL s (rdP s n (m + 1))) ∧ (Y.setCell ⟨Bf, 2, none⟩ (.bool (onum + 1 != (x : Int)))).cell? ⟨Bt, 1, none⟩ = some (.bool true)) := fun Y hY => by
                    have hY' : Below X.heap.size X Y := belJ (below_drew1 X) hY
                    have hS := fun {q j : Nat} {u : Value} (hc : X.cell? ⟨q, j, none⟩ = some u) => (hY'.cell (p := ⟨q, j, none⟩) (World.block_lt_of_cell? X _ hc)).trans hc
                    exact ⟨⟨⟨hS k0, hS k1, hS k2, hS k3, hS k4, hS k5⟩, hS t2⟩, (HFX.out.bits.below hY' HFX.out.bits.lt).fz 2, HPt0.out Y hY' _ rfl⟩
                  clear HPt0 HFX HFm HF0
                  go_upto_region 11 with fail
                  refine wp_region_L (B := [20]) (S := (fun w' => w'.cell? ⟨w.heap.size, 0, none⟩ = some (.slice (some ⟨g, off, none⟩) s.txs.length ca) ∧ w'.cell? ⟨Bo, 1, none⟩ = some (.int .i64 (ky : Int)) ∧ w'.cell? ⟨Bo, 2, none⟩ = some (.int .i64 (fr : Int)) ∧ w'.cell? ⟨Bo, 3, none⟩ = some (.int .i64 onum) ∧ w'.cell? ⟨g, off + fr * 2, none⟩ = some (.slice oa2 nl oc2) ∧ w'.cell? ⟨g, off + fr * 2 + 1, none⟩ = some (.bool true))) (T := (fun w' => w'.cell? ⟨Bf, 2, none⟩ = some (.bool false))) (by kernel_rfl) ⟨⟨k0, k1, k2, k3, k4, k5⟩, t2⟩ (fun hHeld => ?_)
                  refine wpAnyL_takeS (i := 0) (v := ?_) rfl (by kernel_rfl) (by kernel_rfl) (by kernel_rfl) (by kernel_rfl) (fun _ _ _ h => h) (Or.inl ⟨by rfl, ?_⟩) (by assumption) ?_
                  rotate_left 1
                  · intro wz ⟨z0, z1, z2, z3, z4, z5⟩
                    go_simp
                    all_goals with_reducible rfl
                  simp only [Act.put, List.setIfInBounds_toArray, List.set_cons_zero, List.set_cons_succ, List.getElem_toArray, List.getElem_cons_zero]
                  refine wpAnyL_takeS (i := 1) (v := ?_) rfl (by kernel_rfl) (by kernel_rfl) (by kernel_rfl) (by kernel_rfl) (fun _ _ _ h => h) (Or.inl ⟨by rfl, ?_⟩) (by assumption) ?_
                  rotate_left 1
                  · intro wz ⟨z0, z1, z2, z3, z4, z5⟩
                    go_simp
                    all_goals with_reducible rfl
                  simp only [Act.put, List.setIfInBounds_toArray, List.set_cons_zero, List.set_cons_succ, List.getElem_toArray, List.getElem_cons_zero, List.getElem_cons_succ]
                  refine wpAnyL_takeS (i := 2) (v := ?_) rfl (by kernel_rfl) (by kernel_rfl) (by kernel_rfl) (by kernel_rfl) (fun _ _ _ h => h) (Or.inl ⟨by rfl, ?_⟩) (by assumption) ?_
                  rotate_left 1
                  · intro wz ⟨z0, z1, z2, z3, z4, z5⟩
                    go_simp
                    all_goals with_reducible rfl
                  simp only [Act.put, List.setIfInBounds_toArray, List.set_cons_zero, List.set_cons_succ, List.getElem_toArray, List.getElem_cons_zero, List.getElem_cons_succ]
                  refine wpAnyL_take [4, 18, 20] (i := 3) (v := ?_) rfl (by kernel_rfl) (by kernel_rfl) (by kernel_rfl) (by kernel_rfl) (fun _ _ _ h => h) (Or.inl ⟨by rfl, ?_⟩) (by assumption) ?_
                  rotate_left 1
                  · intro wz ⟨⟨z0, z1, z2, z3, z4, z5⟩, t0⟩
                    go_simp
                    all_goals with_reducible rfl
                  simp only [Act.put, List.setIfInBounds_toArray, List.set_cons_zero, List.set_cons_succ, List.getElem_toArray, List.getElem_cons_zero, List.getElem_cons_succ]
                  refine wpAnyL_takeS (i := 4) (v := ?_) rfl (by kernel_rfl) (by kernel_rfl) (by kernel_rfl) (by kernel_rfl) (fun _ _ _ h => h) (Or.inl ⟨by rfl, ?_⟩) (by assumption) ?_
                  rotate_left 1
                  · intro wz ⟨z0, z1, z2, z3, z4, z5⟩
                    go_simp
                    all_goals with_reducible rfl
                  simp only [Act.put, List.setIfInBounds_toArray, List.set_cons_zero, List.set_cons_succ, List.getElem_toArray, List.getElem_cons_zero, List.getElem_cons_succ]
                  refine wpAnyL_takeS (i := 5) (v := ?_) rfl (by kernel_rfl) (by kernel_rfl) (by kernel_rfl) (by kernel_rfl) (fun _ _ _ h => h) (Or.inl ⟨by rfl, ?_⟩) (by assumption) ?_
                  rotate_left 1
                  · intro wz ⟨z0, z1, z2, z3, z4, z5⟩
                    go_simp
                    all_goals with_reducible rfl
                  simp only [Act.put, List.setIfInBounds_toArray, List.set_cons_zero, List.set_cons_succ, List.getElem_toArray, List.getElem_cons_zero, List.getElem_cons_succ]
                  refine wpAnyL_takeS (i := 6) (v := ?_) rfl (by kernel_rfl) (by kernel_rfl) (by kernel_rfl) (by kernel_rfl) (fun _ _ _ h => h) (Or.inl ⟨by rfl, ?_⟩) (by assumption) ?_
                  rotate_left 1
                  · intro wz ⟨z0, z1, z2, z3, z4, z5⟩
                    go_simp
                    all_goals with_reducible rfl
                  simp only [Act.put, List.setIfInBounds_toArray, List.set_cons_zero, List.set_cons_succ, List.getElem_toArray, List.getElem_cons_zero, List.getElem_cons_succ]
                  refine wpAnyL_takeS (i := 7) (v := ?_) rfl (by kernel_rfl) (by kernel_rfl) (by kernel_rfl) (by kernel_rfl) (fun _ _ _ h => h) (Or.inl ⟨by rfl, ?_⟩) (by assumption) ?_
                  rotate_left 1
                  · intro wz ⟨z0, z1, z2, z3, z4, z5⟩
                    go_simp
                    all_goals with_reducible rfl
                  simp only [Act.put, List.setIfInBounds_toArray, List.set_cons_zero, List.set_cons_succ, List.getElem_toArray, List.getElem_cons_zero, List.getElem_cons_succ]
                  refine wpAnyL_takeS (i := 8) (v := ?_) rfl (by kernel_rfl) (by kernel_rfl) (by kernel_rfl) (by kernel_rfl) (fun _ _ _ h => h) (Or.inl ⟨by rfl, ?_⟩) (by assumption) ?_
                  rotate_left 1
                  · intro wz ⟨z0, z1, z2, z3, z4, z5⟩
                    go_simp
                    all_goals with_reducible rfl
                  simp only [Act.put, List.setIfInBounds_toArray, List.set_cons_zero, List.set_cons_succ, List.getElem_toArray, List.getElem_cons_zero, List.getElem_cons_succ]
                  refine wpAnyL_takeS (i := 9) (v := ?_) rfl (by kernel_rfl) (by kernel_rfl) (by kernel_rfl) (by kernel_rfl) (fun _ _ _ h => h) (Or.inl ⟨by rfl, ?_⟩) (by assumption) ?_
                  rotate_left 1
                  · intro wz ⟨z0, z1, z2, z3, z4, z5⟩
                    go_simp
                    all_goals with_reducible rfl
                  simp only [Act.put, List.setIfInBounds_toArray, List.set_cons_zero, List.set_cons_succ, List.getElem_toArray, List.getElem_cons_zero, List.getElem_cons_succ]
                  refine wpAnyL_takeS (i := 10) (v := ?_) rfl (by kernel_rfl) (by kernel_rfl) (by kernel_rfl) (by kernel_rfl) (fun _ _ _ h => h) (Or.inl ⟨by rfl, ?_⟩) (by assumption) ?_
                  rotate_left 1
                  · intro wz ⟨z0, z1, z2, z3, z4, z5⟩
                    go_simp
                    all_goals with_reducible rfl
                  simp only [Act.put, List.setIfInBounds_toArray, List.set_cons_zero, List.set_cons_succ, List.getElem_toArray, List.getElem_cons_zero, List.getElem_cons_succ]
                  refine wpAnyL_takeS (i := 11) (v := ?_) rfl (by kernel_rfl) (by kernel_rfl) (by kernel_rfl) (by kernel_rfl) (fun _ _ _ h => h) (Or.inl ⟨by rfl, ?_⟩) (by assumption) ?_
                  rotate_left 1
                  · intro wz ⟨z0, z1, z2, z3, z4, z5⟩
                    go_simp
                    all_goals with_reducible rfl
                  simp only [Act.put, List.setIfInBounds_toArray, List.set_cons_zero, List.set_cons_succ, List.getElem_toArray, List.getElem_cons_zero, List.getElem_cons_succ]
                  refine wpAnyL_takeS (i := 12) (v := ?_) rfl (by kernel_rfl) (by kernel_rfl) (by kernel_rfl) (by kernel_rfl) (fun _ _ _ h => h) (Or.inl ⟨by rfl, ?_⟩) (by assumption) ?_
                  rotate_left 1
                  · intro wz ⟨z0, z1, z2, z3, z4, z5⟩
                    go_simp
                    all_goals with_reducible rfl
                  simp only [Act.put, List.setIfInBounds_toArray, List.set_cons_zero, List.set_cons_succ, List.getElem_toArray, List.getElem_cons_zero, List.getElem_cons_succ]
                  refine wpAnyL_takeS (i := 13) (v := ?_) rfl (by kernel_rfl) (by kernel_rfl) (by kernel_rfl) (by kernel_rfl) (fun _ _ _ h => h) (Or.inl ⟨by rfl, ?_⟩) (by assumption) ?_
                  rotate_left 1
                  · intro wz ⟨z0, z1, z2, z3, z4, z5⟩
                    go_simp
                    all_goals with_reducible rfl
                  simp only [Act.put, List.setIfInBounds_toArray, List.set_cons_zero, List.set_cons_succ, List.getElem_toArray, List.getElem_cons_zero, List.getElem_cons_succ]
                  refine wpAnyL_takeS (i := 14) (v := ?_) rfl (by kernel_rfl) (by kernel_rfl) (by kernel_rfl) (by kernel_rfl) (fun _ _ _ h => h) (Or.inl ⟨by rfl, ?_⟩) (by assumption) ?_
                  rotate_left 1
                  · intro wz ⟨z0, z1, z2, z3, z4, z5⟩
                    go_simp
                    all_goals with_reducible rfl
                  simp only [Act.put, List.setIfInBounds_toArray, List.set_cons_zero, List.set_cons_succ, List.getElem_toArray, List.getElem_cons_zero, List.getElem_cons_succ]
                  refine wpAnyL_takeS (i := 15) (v := ?_) rfl (by kernel_rfl) (by kernel_rfl) (by kernel_rfl) (by kernel_rfl) (fun _ _ _ h => h) (Or.inl ⟨by rfl, ?_⟩) (by assumption) ?_
                  rotate_left 1
                  · intro wz ⟨z0, z1, z2, z3, z4, z5⟩
                    go_simp
                    all_goals with_reducible rfl
                  simp only [Act.put, List.setIfInBounds_toArray, List.set_cons_zero, List.set_cons_succ, List.getElem_toArray, List.getElem_cons_zero, List.getElem_cons_succ]
                  refine wpAnyL_ready (rs := [16]) (by kernel_rfl) (by simp) (AllReadyL.cons rfl (fun K hK => ?_) AllReadyL.nil)
                  go_simp
                  refine (HWr.out _ (HBX.out)).mono ?_
                  rintro e X3 ⟨rfl, hb3⟩
                  obtain ⟨hs3, hp3⟩ := HPt.out X3 hb3
                  refine hK.out _ _ ?_ (fun hHeld => ?_)
                  · exact hs3
                  clear hK K
                  refine wpAnyL_takeS (i := 17) (v := ?_) rfl (by kernel_rfl) (by kernel_rfl) (by kernel_rfl) (by kernel_rfl) (fun _ _ _ h => h) (Or.inl ⟨by rfl, ?_⟩) (by assumption) ?_
                  rotate_left 1
                  · intro wz ⟨z0, z1, z2, z3, z4, z5⟩
                    go_simp
                    all_goals with_reducible rfl
                  simp only [Act.put, List.setIfInBounds_toArray, List.set_cons_zero, List.set_cons_succ, List.getElem_toArray, List.getElem_cons_zero, List.getElem_cons_succ]
                  refine wpAnyL_takeS (i := 18) (v := ?_) rfl (by kernel_rfl) (by kernel_rfl) (by kernel_rfl) (by kernel_rfl) (fun _ _ _ h => h) (Or.inl ⟨by rfl, ?_⟩) (by assumption) ?_
                  rotate_left 1
                  · intro wz ⟨z0, z1, z2, z3, z4, z5⟩
                    go_simp
                    all_goals with_reducible rfl
                  simp only [Act.put, List.setIfInBounds_toArray, List.set_cons_zero, List.set_cons_succ, List.getElem_toArray, List.getElem_cons_zero, List.getElem_cons_succ]
                  refine wpAnyL_takeS (i := 19) (v := ?_) rfl (by kernel_rfl) (by kernel_rfl) (by kernel_rfl) (by kernel_rfl) (fun _ _ _ h => h) (Or.inl ⟨by rfl, ?_⟩) (by assumption) ?_
                  rotate_left 1
                  · intro wz ⟨z0, z1, z2, z3, z4, z5⟩
                    go_simp
                    all_goals with_reducible rfl
                  simp only [Act.put, List.setIfInBounds_toArray, List.set_cons_zero, List.set_cons_succ, List.getElem_toArray, List.getElem_cons_zero, List.getElem_cons_succ]
                  refine wpAnyL_ready (rs := [20]) (by kernel_rfl) (by simp) (AllReadyL.last rfl (by kernel_rfl) (fun K hK => ?_) AllReadyL.nil)
                  have hs4 := hs3.2
                  have hs5 := hp3.1
                  go_simp
                  refine hK.out _ _ ?_ (fun hHeld => ?_)
                  · exact hp3.2.1
                  clear hK K
                  refine wpAnyL_done (by kernel_rfl) ?_ _
                  go_wp2
                  go_roundw
                  case rel => exact ⟨m + 1, by omega, by go_num, hp3.2.2.1, hp3.2.2.2⟩
                  case measure => simp [intOf]; omega
                · rw [hF2] at t2 HPt0
                  have HPt : Hid ((fun w' => w'.cell? ⟨w.heap.size, 0, none⟩ = some (.slice (some ⟨g, off, none⟩) s.txs.length ca) ∧ w'.cell? ⟨Bo, 1, none⟩ = some (.int .i64 (ky : Int)) ∧ w'.cell? ⟨Bo, 2, none⟩ = some (.int .i64 (fr : Int)) ∧ w'.cell? ⟨Bo, 3, none⟩ = some (.int .i64 onum) ∧ w'.cell? ⟨g, off + fr * 2, none⟩ = some (.slice oa2 nl oc2) ∧ w'.cell? ⟨g, off + fr * 2 + 1, none⟩ = some (.bool true)) (X.drew.setCell ⟨Bf, 2, none⟩ (.bool true)) ∧ FinD (X.drew.setCell ⟨Bf, 2, none⟩ (.bool true)) W Bf s.txs.length v1 v2 v3 (ovB s) (seB s) (anB s) (fndL s (rdP s n (m + 1))) ∧ (X.drew.setCell ⟨Bf, 2, none⟩ (.bool true)).cell? ⟨Bt, 1, none⟩ = some (.bool true)) := HPt0.out X.drew (below_drew1 X) true rfl
                  clear HPt0 HFX HFm HF0 HBX HWr
                  go_upto_region 11 with fail
                  refine wp_region_L (B := [20]) (S := (fun w' => w'.cell? ⟨w.heap.size, 0, none⟩ = some (.slice (some ⟨g, off, none⟩) s.txs.length ca) ∧ w'.cell? ⟨Bo, 1, none⟩ = some (.int .i64 (ky : Int)) ∧ w'.cell? ⟨Bo, 2, none⟩ = some (.int .i64 (fr : Int)) ∧ w'.cell? ⟨Bo, 3, none⟩ = some (.int .i64 onum) ∧ w'.cell? ⟨g, off + fr * 2, none⟩ = some (.slice oa2 nl oc2) ∧ w'.cell? ⟨g, off + fr * 2 + 1, none⟩ = some (.bool true))) (T := (fun w' => w'.cell? ⟨Bf, 2, none⟩ = some (.bool true))) (by kernel_rfl) ⟨⟨k0, k1, k2, k3, k4, k5⟩, t2⟩ (fun hHeld => ?_)
                  refine wpAnyL_takeS (i := 0) (v := ?_) rfl (by kernel_rfl) (by kernel_rfl) (by kernel_rfl) (by kernel_rfl) (fun _ _ _ h => h) (Or.inl ⟨by rfl, ?_⟩) (by assumption) ?_
                  rotate_left 1
                  · intro wz ⟨z0, z1, z2, z3, z4, z5⟩
                    go_simp
                    all_goals with_reducible rfl
                  simp only [Act.put, List.setIfInBounds_toArray, List.set_cons_zero, List.set_cons_succ, List.getElem_toArray, List.getElem_cons_zero]
                  refine wpAnyL_takeS (i := 1) (v := ?_) rfl (by kernel_rfl) (by kernel_rfl) (by kernel_rfl) (by kernel_rfl) (fun _ _ _ h => h) (Or.inl ⟨by rfl, ?_⟩) (by assumption) ?_
                  rotate_left 1
                  · intro wz ⟨z0, z1, z2, z3, z4, z5⟩
                    go_simp
                    all_goals with_reducible rfl
                  simp only [Act.put, List.setIfInBounds_toArray, List.set_cons_zero, List.set_cons_succ, List.getElem_toArray, List.getElem_cons_zero, List.getElem_cons_succ]
                  refine wpAnyL_takeS (i := 2) (v := ?_) rfl (by kernel_rfl) (by kernel_rfl) (by kernel_rfl) (by kernel_rfl) (fun _ _ _ h => h) (Or.inl ⟨by rfl, ?_⟩) (by assumption) ?_
                  rotate_left 1
                  · intro wz ⟨z0, z1, z2, z3, z4, z5⟩
                    go_simp
                    all_goals with_reducible rfl
                  simp only [Act.put, List.setIfInBounds_toArray, List.set_cons_zero, List.set_cons_succ, List.getElem_toArray, List.getElem_cons_zero, List.getElem_cons_succ]
                  refine wpAnyL_take [4, 18, 20] (i := 3) (v := ?_) rfl (by kernel_rfl) (by kernel_rfl) (by kernel_rfl) (by kernel_rfl) (fun _ _ _ h => h) (Or.inl ⟨by rfl, ?_⟩) (by assumption) ?_
                  rotate_left 1
                  · intro wz ⟨⟨z0, z1, z2, z3, z4, z5⟩, t0⟩
                    go_simp
                    all_goals with_reducible rfl
                  simp only [Act.put, List.setIfInBounds_toArray, List.set_cons_zero, List.set_cons_succ, List.getElem_toArray, List.getElem_cons_zero, List.getElem_cons_succ]
                  refine wpAnyL_takeS (i := 4) (v := ?_) rfl (by kernel_rfl) (by kernel_rfl) (by kernel_rfl) (by kernel_rfl) (fun _ _ _ h => h) (Or.inl ⟨by rfl, ?_⟩) (by assumption) ?_
                  rotate_left 1
                  · intro wz ⟨z0, z1, z2, z3, z4, z5⟩
                    go_simp
                    all_goals with_reducible rfl
                  simp only [Act.put, List.setIfInBounds_toArray, List.set_cons_zero, List.set_cons_succ, List.getElem_toArray, List.getElem_cons_zero, List.getElem_cons_succ]
                  refine wpAnyL_takeS (i := 5) (v := undef) rfl (by kernel_rfl) (by kernel_rfl) (by kernel_rfl) (by kernel_rfl) (fun _ _ _ h => h) (Or.inr ⟨by rfl, rfl⟩) (by assumption) ?_
                  simp only [Act.put, List.setIfInBounds_toArray, List.set_cons_zero, List.set_cons_succ, List.getElem_toArray, List.getElem_cons_zero, List.getElem_cons_succ]
                  refine wpAnyL_takeS (i := 6) (v := undef) rfl (by kernel_rfl) (by kernel_rfl) (by kernel_rfl) (by kernel_rfl) (fun _ _ _ h => h) (Or.inr ⟨by rfl, rfl⟩) (by assumption) ?_
                  simp only [Act.put, List.setIfInBounds_toArray, List.set_cons_zero, List.set_cons_succ, List.getElem_toArray, List.getElem_cons_zero, List.getElem_cons_succ]
                  refine wpAnyL_takeS (i := 7) (v := undef) rfl (by kernel_rfl) (by kernel_rfl) (by kernel_rfl) (by kernel_rfl) (fun _ _ _ h => h) (Or.inr ⟨by rfl, rfl⟩) (by assumption) ?_
                  simp only [Act.put, List.setIfInBounds_toArray, List.set_cons_zero, List.set_cons_succ, List.getElem_toArray, List.getElem_cons_zero, List.getElem_cons_succ]
                  refine wpAnyL_takeS (i := 8) (v := undef) rfl (by kernel_rfl) (by kernel_rfl) (by kernel_rfl) (by kernel_rfl) (fun _ _ _ h => h) (Or.inr ⟨by rfl, rfl⟩) (by assumption) ?_
                  simp only [Act.put, List.setIfInBounds_toArray, List.set_cons_zero, List.set_cons_succ, List.getElem_toArray, List.getElem_cons_zero, List.getElem_cons_succ]
                  refine wpAnyL_takeS (i := 9) (v := undef) rfl (by kernel_rfl) (by kernel_rfl) (by kernel_rfl) (by kernel_rfl) (fun _ _ _ h => h) (Or.inr ⟨by rfl, rfl⟩) (by assumption) ?_
                  simp only [Act.put, List.setIfInBounds_toArray, List.set_cons_zero, List.set_cons_succ, List.getElem_toArray, List.getElem_cons_zero, List.getElem_cons_succ]
                  refine wpAnyL_takeS (i := 10) (v := undef) rfl (by kernel_rfl) (by kernel_rfl) (by kernel_rfl) (by kernel_rfl) (fun _ _ _ h => h) (Or.inr ⟨by rfl, rfl⟩) (by assumption) ?_
                  simp only [Act.put, List.setIfInBounds_toArray, List.set_cons_zero, List.set_cons_succ, List.getElem_toArray, List.getElem_cons_zero, List.getElem_cons_succ]
                  refine wpAnyL_takeS (i := 11) (v := undef) rfl (by kernel_rfl) (by kernel_rfl) (by kernel_rfl) (by kernel_rfl) (fun _ _ _ h => h) (Or.inr ⟨by rfl, rfl⟩) (by assumption) ?_
                  simp only [Act.put, List.setIfInBounds_toArray, List.set_cons_zero, List.set_cons_succ, List.getElem_toArray, List.getElem_cons_zero, List.getElem_cons_succ]
                  refine wpAnyL_takeS (i := 12) (v := undef) rfl (by kernel_rfl) (by kernel_rfl) (by kernel_rfl) (by kernel_rfl) (fun _ _ _ h => h) (Or.inr ⟨by rfl, rfl⟩) (by assumption) ?_
                  simp only [Act.put, List.setIfInBounds_toArray, List.set_cons_zero, List.set_cons_succ, List.getElem_toArray, List.getElem_cons_zero, List.getElem_cons_succ]
                  refine wpAnyL_takeS (i := 13) (v := undef) rfl (by kernel_rfl) (by kernel_rfl) (by kernel_rfl) (by kernel_rfl) (fun _ _ _ h => h) (Or.inr ⟨by rfl, rfl⟩) (by assumption) ?_
                  simp only [Act.put, List.setIfInBounds_toArray, List.set_cons_zero, List.set_cons_succ, List.getElem_toArray, List.getElem_cons_zero, List.getElem_cons_succ]
                  refine wpAnyL_takeS (i := 14) (v := undef) rfl (by kernel_rfl) (by kernel_rfl) (by kernel_rfl) (by kernel_rfl) (fun _ _ _ h => h) (Or.inr ⟨by rfl, rfl⟩) (by assumption) ?_
                  simp only [Act.put, List.setIfInBounds_toArray, List.set_cons_zero, List.set_cons_succ, List.getElem_toArray, List.getElem_cons_zero, List.getElem_cons_succ]
                  refine wpAnyL_takeS (i := 15) (v := undef) rfl (by kernel_rfl) (by kernel_rfl) (by kernel_rfl) (by kernel_rfl) (fun _ _ _ h => h) (Or.inr ⟨by rfl, rfl⟩) (by assumption) ?_
                  simp only [Act.put, List.setIfInBounds_toArray, List.set_cons_zero, List.set_cons_succ, List.getElem_toArray, List.getElem_cons_zero, List.getElem_cons_succ]
                  refine wpAnyL_takeS (i := 16) (v := undef) rfl (by kernel_rfl) (by kernel_rfl) (by kernel_rfl) (by kernel_rfl) (fun _ _ _ h => h) (Or.inr ⟨by rfl, rfl⟩) (by assumption) ?_
                  simp only [Act.put, List.setIfInBounds_toArray, List.set_cons_zero, List.set_cons_succ, List.getElem_toArray, List.getElem_cons_zero, List.getElem_cons_succ]
                  refine wpAnyL_takeS (i := 17) (v := undef) rfl (by kernel_rfl) (by kernel_rfl) (by kernel_rfl) (by kernel_rfl) (fun _ _ _ h => h) (Or.inr ⟨by rfl, rfl⟩) (by assumption) ?_
                  simp only [Act.put, List.setIfInBounds_toArray, List.set_cons_zero, List.set_cons_succ, List.getElem_toArray, List.getElem_cons_zero, List.getElem_cons_succ]
                  refine wpAnyL_takeS (i := 18) (v := ?_) rfl (by kernel_rfl) (by kernel_rfl) (by kernel_rfl) (by kernel_rfl) (fun _ _ _ h => h) (Or.inl ⟨by rfl, ?_⟩) (by assumption) ?_
                  rotate_left 1
                  · intro wz ⟨z0, z1, z2, z3, z4, z5⟩
                    go_simp
                    all_goals with_reducible rfl
                  simp only [Act.put, List.setIfInBounds_toArray, List.set_cons_zero, List.set_cons_succ, List.getElem_toArray, List.getElem_cons_zero, List.getElem_cons_succ]
                  refine wpAnyL_takeS (i := 19) (v := ?_) rfl (by kernel_rfl) (by kernel_rfl) (by kernel_rfl) (by kernel_rfl) (fun _ _ _ h => h) (Or.inl ⟨by rfl, ?_⟩) (by assumption) ?_
                  rotate_left 1
                  · intro wz ⟨z0, z1, z2, z3, z4, z5⟩
                    go_simp
                    all_goals with_reducible rfl
                  simp only [Act.put, List.setIfInBounds_toArray, List.set_cons_zero, List.set_cons_succ, List.getElem_toArray, List.getElem_cons_zero, List.getElem_cons_succ]
                  refine wpAnyL_ready (rs := [20]) (by kernel_rfl) (by simp) (AllReadyL.last rfl (by kernel_rfl) (fun K hK => ?_) AllReadyL.nil)
                  go_simp
                  refine hK.out _ _ ?_ (fun hHeld => ?_)
                  · exact HPt.out.1
                  clear hK K
                  refine wpAnyL_done (by kernel_rfl) ?_ _
                  go_wp2
                  go_roundw
                  case rel => exact ⟨m + 1, by omega, by go_num, HPt.out.2.1, HPt.out.2.2⟩
                  case measure => simp [intOf]; omega
            · rw [hF1] at b1
              --c
              have HFX := hideIt (HCut.out true (by rw [hF1]; rfl)).out
              obtain ⟨k0, k1, k2, k3, k4, k5, k6⟩ := HC.out (.bool true)
              go_upto_region 11 with fail
              generalize hX : V.setCell _ _ = X at HFX k0 k1 k2 k3 k4 k5 k6 ⊢
              clear hX HCut HC b1 z1 e0 q0 q1 q2 q3 x1 x2 y1 HP1 HF
              have t2 := HFX.out.bits.bit 2 (by omega)
              have z2 := HFX.out.bits.fz 2
              simp only [show ((2 : Nat) = 1) = False from by simp, if_false] at t2
              have HBX : Hid (Below W.heap.size W X.drew) := HFX.out.bel.drew
              have HPt0 : Hid (∀ Y, Below X.heap.size X Y → ∀ v, (F 2 || (onum + 1 != (x : Int))) = v → (fun w' => w'.cell? ⟨w.heap.size, 0, none⟩ = some (.slice (some ⟨g, off, none⟩) s.txs.length ca) ∧ w'.cell? ⟨Bo, 1, none⟩ = some (.int .i64 (ky : Int)) ∧ w'.cell? ⟨Bo, 2, none⟩ = some (.int .i64 (fr : Int)) ∧ w'.cell? ⟨Bo, 3, none⟩ = some (.int .i64 onum) ∧ w'.cell? ⟨g, off + fr * 2, none⟩ = some (.slice oa2 nl oc2) ∧ w'.cell? ⟨g, off + fr * 2 + 1, none⟩ = some (.bool cf)) (Y.setCell ⟨Bf, 2, none⟩ (.bool v)) ∧ FinD (Y.setCell ⟨Bf, 2, none⟩ (.bool v)) W Bf s.txs.length v1 v2 v3 (ovB s) (seB s) (anB s) (fndL s (rdP s n (m + 1))) ∧ (Y.setCell ⟨Bf, 2, none⟩ (.bool v)).cell? ⟨Bt, 1, none⟩ = some (.bool true)) := fun Y hY v hv => by
                have hS := fun {q j : Nat} {u : Value} (hc : X.cell? ⟨q, j, none⟩ = some u) (hne : q ≠ Bf) => (World.cell?_setCell_other Y ⟨Bf, 2, none⟩ ⟨q, j, none⟩ (.bool v) (blkNe (Ne.symm hne))).trans ((hY.cell (p := ⟨q, j, none⟩) (World.block_lt_of_cell? X _ hc)).trans hc)
                refine ⟨⟨hS k0 HNe.out.1, hS k1 (by omega), hS k2 (by omega), hS k3 (by omega), hS k4 HNe.out.2, hS k5 HNe.out.2⟩, ((HFX.out.below hY).put (m := 2) (by omega) v).same fun k _ => ?_, hS k6 (by omega)⟩
                rw [HFm.out]
                by_cases e2 : k = 2
                · rw [if_pos e2, if_neg (by omega), if_pos e2, hv]
                · rw [if_neg e2]
                  by_cases e1 : k = 1
                  · rw [if_pos e1, if_pos e1]
                  · rw [if_neg e1, if_neg e1, if_neg e2, HF0.out k e1 e2]
              cases hF2 : F 2
              · rw [hF2] at t2 HPt0
                have HPt : Hid (∀ Y, Below X.drew.heap.size X.drew Y → ((fun w' => w'.cell? ⟨w.heap.size, 0, none⟩ = some (.slice (some ⟨g, off, none⟩) s.txs.length ca) ∧ w'.cell? ⟨Bo, 1, none⟩ = some (.int .i64 (ky : Int)) ∧ w'.cell? ⟨Bo, 2, none⟩ = some (.int .i64 (fr : Int)) ∧ w'.cell? ⟨Bo, 3, none⟩ = some (.int .i64 onum) ∧ w'.cell? ⟨g, off + fr * 2, none⟩ = some (.slice oa2 nl oc2) ∧ w'.cell? ⟨g, off + fr * 2 + 1, none⟩ = some (.bool cf)) Y ∧ Y.cell? ⟨Bf, 2, none⟩ = some (.bool false)) ∧ Y.frozen? ⟨Bf, 2, none⟩ = false ∧ (fun w' => w'.cell? ⟨w.heap.size, 0, none⟩ = some (.slice (some ⟨g, off, none⟩) s.txs.length ca) ∧ w'.cell? ⟨Bo, 1, none⟩ = some (.int .i64 (ky : Int)) ∧ w'.cell? ⟨Bo, 2, none⟩ = some (.int .i64 (fr : Int)) ∧ w'.cell? ⟨Bo, 3, none⟩ = some (.int .i64 onum) ∧ w'.cell? ⟨g, off + fr * 2, none⟩ = some (.slice oa2 nl oc2) ∧ w'.cell? ⟨g, off + fr * 2 + 1, none⟩ = some (.bool cf)) (Y.setCell ⟨Bf, 2, none⟩ (.bool (onum + 1 != (x : Int)))) ∧ FinD (Y.setCell ⟨Bf, 2, none⟩ (.bool (onum + 1 != (x : Int)))) W Bf s.txs.length v1 v2 v3 (ovB s) (seB s) (anB s) (fndL s (rdP s n (m + 1))) ∧ (Y.setCell ⟨Bf, 2, none⟩ (.bool (onum + 1 != (x : Int)))).cell? ⟨Bt, 1, none⟩ = some (.bool true)) := fun Y hY => by
                  have hY' : Below X.heap.size X Y := belJ (below_drew1 X) hY
                  have hS := fun {q j : Nat} {u : Value} (hc : X.cell? ⟨q, j, none⟩ = some u) => (hY'.cell (p := ⟨q, j, none⟩) (World.block_lt_of_cell? X _ hc)).trans hc
                  exact ⟨⟨⟨hS k0, hS k1, hS k2, hS k3, hS k4, hS k5⟩, hS t2⟩, (HFX.out.bits.below hY' HFX.out.bits.lt).fz 2, HPt0.out Y hY' _ rfl⟩
                clear HPt0 HFX HFm HF0
                go_upto_region 11 with fail
                refine wp_region_L (B := [20]) (S := (fun w' => w'.cell? ⟨w.heap.size, 0, none⟩ = some (.slice (some ⟨g, off, none⟩) s.txs.length ca) ∧ w'.cell? ⟨Bo, 1, none⟩ = some (.int .i64 (ky : Int)) ∧ w'.cell? ⟨Bo, 2, none⟩ = some (.int .i64 (fr : Int)) ∧ w'.cell? ⟨Bo, 3, none⟩ = some (.int .i64 onum) ∧ w'.cell? ⟨g, off + fr * 2, none⟩ = some (.slice oa2 nl oc2) ∧ w'.cell? ⟨g, off + fr * 2 + 1, none⟩ = some (.bool cf))) (T := (fun w' => w'.cell? ⟨Bf, 2, none⟩ = some (.bool false))) (by kernel_rfl) ⟨⟨k0, k1, k2, k3, k4, k5⟩, t2⟩ (fun hHeld => ?_)
                refine wpAnyL_takeS (i := 0) (v := ?_) rfl (by kernel_rfl) (by kernel_rfl) (by kernel_rfl) (by kernel_rfl) (fun _ _ _ h => h) (Or.inl ⟨by rfl, ?_⟩) (by assumption) ?_
                rotate_left 1
                · intro wz ⟨z0, z1, z2, z3, z4, z5⟩
                  go_simp
                  all_goals with_reducible rfl
                simp only [Act.put, List.setIfInBounds_toArray, List.set_cons_zero, List.set_cons_succ, List.getElem_toArray, List.getElem_cons_zero]
                refine wpAnyL_takeS (i := 1) (v := ?_) rfl (by kernel_rfl) (by kernel_rfl) (by kernel_rfl) (by kernel_rfl) (fun _ _ _ h => h) (Or.inl ⟨by rfl, ?_⟩) (by assumption) ?_
                rotate_left 1
                · intro wz ⟨z0, z1, z2, z3, z4, z5⟩
                  go_simp
                  all_goals with_reducible rfl
                simp only [Act.put, List.setIfInBounds_toArray, List.set_cons_zero, List.set_cons_succ, List.getElem_toArray, List.getElem_cons_zero, List.getElem_cons_succ]
                refine wpAnyL_takeS (i := 2) (v := ?_) rfl (by kernel_rfl) (by kernel_rfl) (by kernel_rfl) (by kernel_rfl) (fun _ _ _ h => h) (Or.inl ⟨by rfl, ?_⟩) (by assumption) ?_
                rotate_left 1
                · intro wz ⟨z0, z1, z2, z3, z4, z5⟩
                  go_simp
                  all_goals with_reducible rfl
                simp only [Act.put, List.setIfInBounds_toArray, List.set_cons_zero, List.set_cons_succ, List.getElem_toArray, List.getElem_cons_zero, List.getElem_cons_succ]
                refine wpAnyL_take [4, 18, 20] (i := 3) (v := ?_) rfl (by kernel_rfl) (by kernel_rfl) (by kernel_rfl) (by kernel_rfl) (fun _ _ _ h => h) (Or.inl ⟨by rfl, ?_⟩) (by assumption) ?_
                rotate_left 1
                · intro wz ⟨⟨z0, z1, z2, z3, z4, z5⟩, t0⟩
                  go_simp
                  all_goals with_reducible rfl
                simp only [Act.put, List.setIfInBounds_toArray, List.set_cons_zero, List.set_cons_succ, List.getElem_toArray, List.getElem_cons_zero, List.getElem_cons_succ]
                refine wpAnyL_takeS (i := 4) (v := ?_) rfl (by kernel_rfl) (by kernel_rfl) (by kernel_rfl) (by kernel_rfl) (fun _ _ _ h => h) (Or.inl ⟨by rfl, ?_⟩) (by assumption) ?_
                rotate_left 1
                · intro wz ⟨z0, z1, z2, z3, z4, z5⟩
                  go_simp
                  all_goals with_reducible rfl
                simp only [Act.put, List.setIfInBounds_toArray, List.set_cons_zero, List.set_cons_succ, List.getElem_toArray, List.getElem_cons_zero, List.getElem_cons_succ]
                refine wpAnyL_takeS (i := 5) (v := ?_) rfl (by kernel_rfl) (by kernel_rfl) (by kernel_rfl) (by kernel_rfl) (fun _ _ _ h => h) (Or.inl ⟨by rfl, ?_⟩) (by assumption) ?_
                rotate_left 1
                · intro wz ⟨z0, z1, z2, z3, z4, z5⟩
                  go_simp
                  all_goals with_reducible rfl
                simp only [Act.put, List.setIfInBounds_toArray, List.set_cons_zero, List.set_cons_succ, List.getElem_toArray, List.getElem_cons_zero, List.getElem_cons_succ]
                refine wpAnyL_takeS (i := 6) (v := ?_) rfl (by kernel_rfl) (by kernel_rfl) (by kernel_rfl) (by kernel_rfl) (fun _ _ _ h => h) (Or.inl ⟨by rfl, ?_⟩) (by assumption) ?_
                rotate_left 1
                · intro wz ⟨z0, z1, z2, z3, z4, z5⟩
                  go_simp
                  all_goals with_reducible rfl
                simp only [Act.put, List.setIfInBounds_toArray, List.set_cons_zero, List.set_cons_succ, List.getElem_toArray, List.getElem_cons_zero, List.getElem_cons_succ]
                refine wpAnyL_takeS (i := 7) (v := ?_) rfl (by kernel_rfl) (by kernel_rfl) (by kernel_rfl) (by kernel_rfl) (fun _ _ _ h => h) (Or.inl ⟨by rfl, ?_⟩) (by assumption) ?_
                rotate_left 1
                · intro wz ⟨z0, z1, z2, z3, z4, z5⟩
                  go_simp
                  all_goals with_reducible rfl
                simp only [Act.put, List.setIfInBounds_toArray, List.set_cons_zero, List.set_cons_succ, List.getElem_toArray, List.getElem_cons_zero, List.getElem_cons_succ]
                refine wpAnyL_takeS (i := 8) (v := ?_) rfl (by kernel_rfl) (by kernel_rfl) (by kernel_rfl) (by kernel_rfl) (fun _ _ _ h => h) (Or.inl ⟨by rfl, ?_⟩) (by assumption) ?_
                rotate_left 1
                · intro wz ⟨z0, z1, z2, z3, z4, z5⟩
                  go_simp
                  all_goals with_reducible rfl
                simp only [Act.put, List.setIfInBounds_toArray, List.set_cons_zero, List.set_cons_succ, List.getElem_toArray, List.getElem_cons_zero, List.getElem_cons_succ]
                refine wpAnyL_takeS (i := 9) (v := ?_) rfl (by kernel_rfl) (by kernel_rfl) (by kernel_rfl) (by kernel_rfl) (fun _ _ _ h => h) (Or.inl ⟨by rfl, ?_⟩) (by assumption) ?_
                rotate_left 1
                · intro wz ⟨z0, z1, z2, z3, z4, z5⟩
                  go_simp
                  all_goals with_reducible rfl
                simp only [Act.put, List.setIfInBounds_toArray, List.set_cons_zero, List.set_cons_succ, List.getElem_toArray, List.getElem_cons_zero, List.getElem_cons_succ]
                refine wpAnyL_takeS (i := 10) (v := ?_) rfl (by kernel_rfl) (by kernel_rfl) (by kernel_rfl) (by kernel_rfl) (fun _ _ _ h => h) (Or.inl ⟨by rfl, ?_⟩) (by assumption) ?_
                rotate_left 1
                · intro wz ⟨z0, z1, z2, z3, z4, z5⟩
                  go_simp
                  all_goals with_reducible rfl
                simp only [Act.put, List.setIfInBounds_toArray, List.set_cons_zero, List.set_cons_succ, List.getElem_toArray, List.getElem_cons_zero, List.getElem_cons_succ]
                refine wpAnyL_takeS (i := 11) (v := ?_) rfl (by kernel_rfl) (by kernel_rfl) (by kernel_rfl) (by kernel_rfl) (fun _ _ _ h => h) (Or.inl ⟨by rfl, ?_⟩) (by assumption) ?_
                rotate_left 1
                · intro wz ⟨z0, z1, z2, z3, z4, z5⟩
                  go_simp
                  all_goals with_reducible rfl
                simp only [Act.put, List.setIfInBounds_toArray, List.set_cons_zero, List.set_cons_succ, List.getElem_toArray, List.getElem_cons_zero, List.getElem_cons_succ]
                refine wpAnyL_takeS (i := 12) (v := ?_) rfl (by kernel_rfl) (by kernel_rfl) (by kernel_rfl) (by kernel_rfl) (fun _ _ _ h => h) (Or.inl ⟨by rfl, ?_⟩) (by assumption) ?_
                rotate_left 1
                · intro wz ⟨z0, z1, z2, z3, z4, z5⟩
                  go_simp
                  all_goals with_reducible rfl
                simp only [Act.put, List.setIfInBounds_toArray, List.set_cons_zero, List.set_cons_succ, List.getElem_toArray, List.getElem_cons_zero, List.getElem_cons_succ]
                refine wpAnyL_takeS (i := 13) (v := ?_) rfl (by kernel_rfl) (by kernel_rfl) (by kernel_rfl) (by kernel_rfl) (fun _ _ _ h => h) (Or.inl ⟨by rfl, ?_⟩) (by assumption) ?_
                rotate_left 1
                · intro wz ⟨z0, z1, z2, z3, z4, z5⟩
                  go_simp
                  all_goals with_reducible rfl
                simp only [Act.put, List.setIfInBounds_toArray, List.set_cons_zero, List.set_cons_succ, List.getElem_toArray, List.getElem_cons_zero, List.getElem_cons_succ]
                refine wpAnyL_takeS (i := 14) (v := ?_) rfl (by kernel_rfl) (by kernel_rfl) (by kernel_rfl) (by kernel_rfl) (fun _ _ _ h => h) (Or.inl ⟨by rfl, ?_⟩) (by assumption) ?_
                rotate_left 1
                · intro wz ⟨z0, z1, z2, z3, z4, z5⟩
                  go_simp
                  all_goals with_reducible rfl
                simp only [Act.put, List.setIfInBounds_toArray, List.set_cons_zero, List.set_cons_succ, List.getElem_toArray, List.getElem_cons_zero, List.getElem_cons_succ]
                refine wpAnyL_takeS (i := 15) (v := ?_) rfl (by kernel_rfl) (by kernel_rfl) (by kernel_rfl) (by kernel_rfl) (fun _ _ _ h => h) (Or.inl ⟨by rfl, ?_⟩) (by assumption) ?_
                rotate_left 1
                · intro wz ⟨z0, z1, z2, z3, z4, z5⟩
                  go_simp
                  all_goals with_reducible rfl
                simp only [Act.put, List.setIfInBounds_toArray, List.set_cons_zero, List.set_cons_succ, List.getElem_toArray, List.getElem_cons_zero, List.getElem_cons_succ]
                refine wpAnyL_ready (rs := [16]) (by kernel_rfl) (by simp) (AllReadyL.cons rfl (fun K hK => ?_) AllReadyL.nil)
                go_simp
                refine (HWr.out _ (HBX.out)).mono ?_
                rintro e X3 ⟨rfl, hb3⟩
                obtain ⟨hs3, hp3⟩ := HPt.out X3 hb3
                refine hK.out _ _ ?_ (fun hHeld => ?_)
                · exact hs3
                clear hK K
                refine wpAnyL_takeS (i := 17) (v := ?_) rfl (by kernel_rfl) (by kernel_rfl) (by kernel_rfl) (by kernel_rfl) (fun _ _ _ h => h) (Or.inl ⟨by rfl, ?_⟩) (by assumption) ?_
                rotate_left 1
                · intro wz ⟨z0, z1, z2, z3, z4, z5⟩
                  go_simp
                  all_goals with_reducible rfl
                simp only [Act.put, List.setIfInBounds_toArray, List.set_cons_zero, List.set_cons_succ, List.getElem_toArray, List.getElem_cons_zero, List.getElem_cons_succ]
                refine wpAnyL_takeS (i := 18) (v := ?_) rfl (by kernel_rfl) (by kernel_rfl) (by kernel_rfl) (by kernel_rfl) (fun _ _ _ h => h) (Or.inl ⟨by rfl, ?_⟩) (by assumption) ?_
                rotate_left 1
                · intro wz ⟨z0, z1, z2, z3, z4, z5⟩
                  go_simp
                  all_goals with_reducible rfl
                simp only [Act.put, List.setIfInBounds_toArray, List.set_cons_zero, List.set_cons_succ, List.getElem_toArray, List.getElem_cons_zero, List.getElem_cons_succ]
                refine wpAnyL_takeS (i := 19) (v := ?_) rfl (by kernel_rfl) (by kernel_rfl) (by kernel_rfl) (by kernel_rfl) (fun _ _ _ h => h) (Or.inl ⟨by rfl, ?_⟩) (by assumption) ?_
                rotate_left 1
                · intro wz ⟨z0, z1, z2, z3, z4, z5⟩
                  go_simp
                  all_goals with_reducible rfl
                simp only [Act.put, List.setIfInBounds_toArray, List.set_cons_zero, List.set_cons_succ, List.getElem_toArray, List.getElem_cons_zero, List.getElem_cons_succ]
                refine wpAnyL_ready (rs := [20]) (by kernel_rfl) (by simp) (AllReadyL.last rfl (by kernel_rfl) (fun K hK => ?_) AllReadyL.nil)
                have hs4 := hs3.2
                have hs5 := hp3.1
                go_simp
                refine hK.out _ _ ?_ (fun hHeld => ?_)
                · exact hp3.2.1
                clear hK K
                refine wpAnyL_done (by kernel_rfl) ?_ _
                go_wp2
                go_roundw
                case rel => exact ⟨m + 1, by omega, by go_num, hp3.2.2.1, hp3.2.2.2⟩
                case measure => simp [intOf]; omega
              · rw [hF2] at t2 HPt0
                have HPt : Hid ((fun w' => w'.cell? ⟨w.heap.size, 0, none⟩ = some (.slice (some ⟨g, off, none⟩) s.txs.length ca) ∧ w'.cell? ⟨Bo, 1, none⟩ = some (.int .i64 (ky : Int)) ∧ w'.cell? ⟨Bo, 2, none⟩ = some (.int .i64 (fr : Int)) ∧ w'.cell? ⟨Bo, 3, none⟩ = some (.int .i64 onum) ∧ w'.cell? ⟨g, off + fr * 2, none⟩ = some (.slice oa2 nl oc2) ∧ w'.cell? ⟨g, off + fr * 2 + 1, none⟩ = some (.bool cf)) (X.drew.setCell ⟨Bf, 2, none⟩ (.bool true)) ∧ FinD (X.drew.setCell ⟨Bf, 2, none⟩ (.bool true)) W Bf s.txs.length v1 v2 v3 (ovB s) (seB s) (anB s) (fndL s (rdP s n (m + 1))) ∧ (X.drew.setCell ⟨Bf, 2, none⟩ (.bool true)).cell? ⟨Bt, 1, none⟩ = some (.bool true)) := HPt0.out X.drew (below_drew1 X) true rfl
                clear HPt0 HFX HFm HF0 HBX HWr
                go_upto_region 11 with fail
                refine wp_region_L (B := [20]) (S := (fun w' => w'.cell? ⟨w.heap.size, 0, none⟩ = some (.slice (some ⟨g, off, none⟩) s.txs.length ca) ∧ w'.cell? ⟨Bo, 1, none⟩ = some (.int .i64 (ky : Int)) ∧ w'.cell? ⟨Bo, 2, none⟩ = some (.int .i64 (fr : Int)) ∧ w'.cell? ⟨Bo, 3, none⟩ = some (.int .i64 onum) ∧ w'.cell? ⟨g, off + fr * 2, none⟩ = some (.slice oa2 nl oc2) ∧ w'.cell? ⟨g, off + fr * 2 + 1, none⟩ = some (.bool cf))) (T := (fun w' => w'.cell? ⟨Bf, 2, none⟩ = some (.bool true))) (by kernel_rfl) ⟨⟨k0, k1, k2, k3, k4, k5⟩, t2⟩ (fun hHeld => ?_)
                refine wpAnyL_takeS (i := 0) (v := ?_) rfl (by kernel_rfl) (by kernel_rfl) (by kernel_rfl) (by kernel_rfl) (fun _ _ _ h => h) (Or.inl ⟨by rfl, ?_⟩) (by assumption) ?_
                rotate_left 1
                · intro wz ⟨z0, z1, z2, z3, z4, z5⟩
                  go_simp
                  all_goals with_reducible rfl
                simp only [Act.put, List.setIfInBounds_toArray, List.set_cons_zero, List.set_cons_succ, List.getElem_toArray, List.getElem_cons_zero]
                refine wpAnyL_takeS (i := 1) (v := ?_) rfl (by kernel_rfl) (by kernel_rfl) (by kernel_rfl) (by kernel_rfl) (fun _ _ _ h => h) (Or.inl ⟨by rfl, ?_⟩) (by assumption) ?_
                rotate_left 1
                · intro wz ⟨z0, z1, z2, z3, z4, z5⟩
                  go_simp
                  all_goals with_reducible rfl
                simp only [Act.put, List.setIfInBounds_toArray, List.set_cons_zero, List.set_cons_succ, List.getElem_toArray, List.getElem_cons_zero, List.getElem_cons_succ]
                refine wpAnyL_takeS (i := 2) (v := ?_) rfl (by kernel_rfl) (by kernel_rfl) (by kernel_rfl) (by kernel_rfl) (fun _ _ _ h => h) (Or.inl ⟨by rfl, ?_⟩) (by assumption) ?_
                rotate_left 1
                · intro wz ⟨z0, z1, z2, z3, z4, z5⟩
                  go_simp
                  all_goals with_reducible rfl
                simp only [Act.put, List.setIfInBounds_toArray, List.set_cons_zero, List.set_cons_succ, List.getElem_toArray, List.getElem_cons_zero, List.getElem_cons_succ]
                refine wpAnyL_take [4, 18, 20] (i := 3) (v := ?_) rfl (by kernel_rfl) (by kernel_rfl) (by kernel_rfl) (by kernel_rfl) (fun _ _ _ h => h) (Or.inl ⟨by rfl, ?_⟩) (by assumption) ?_
                rotate_left 1
                · intro wz ⟨⟨z0, z1, z2, z3, z4, z5⟩, t0⟩
                  go_simp
                  all_goals with_reducible rfl
                simp only [Act.put, List.setIfInBounds_toArray, List.set_cons_zero, List.set_cons_succ, List.getElem_toArray, List.getElem_cons_zero, List.getElem_cons_succ]
                refine wpAnyL_takeS (i := 4) (v := ?_) rfl (by kernel_rfl) (by kernel_rfl) (by kernel_rfl) (by kernel_rfl) (fun _ _ _ h => h) (Or.inl ⟨by rfl, ?_⟩) (by assumption) ?_
                rotate_left 1
                · intro wz ⟨z0, z1, z2, z3, z4, z5⟩
                  go_simp
                  all_goals with_reducible rfl
                simp only [Act.put, List.setIfInBounds_toArray, List.set_cons_zero, List.set_cons_succ, List.getElem_toArray, List.getElem_cons_zero, List.getElem_cons_succ]
                refine wpAnyL_takeS (i := 5) (v := undef) rfl (by kernel_rfl) (by kernel_rfl) (by kernel_rfl) (by kernel_rfl) (fun _ _ _ h => h) (Or.inr ⟨by rfl, rfl⟩) (by assumption) ?_
                simp only [Act.put, List.setIfInBounds_toArray, List.set_cons_zero, List.set_cons_succ, List.getElem_toArray, List.getElem_cons_zero, List.getElem_cons_succ]
                refine wpAnyL_takeS (i := 6) (v := undef) rfl (by kernel_rfl) (by kernel_rfl) (by kernel_rfl) (by kernel_rfl) (fun _ _ _ h => h) (Or.inr ⟨by rfl, rfl⟩) (by assumption) ?_
                simp only [Act.put, List.setIfInBounds_toArray, List.set_cons_zero, List.set_cons_succ, List.getElem_toArray, List.getElem_cons_zero, List.getElem_cons_succ]
                refine wpAnyL_takeS (i := 7) (v := undef) rfl (by kernel_rfl) (by kernel_rfl) (by kernel_rfl) (by kernel_rfl) (fun _ _ _ h => h) (Or.inr ⟨by rfl, rfl⟩) (by assumption) ?_
                simp only [Act.put, List.setIfInBounds_toArray, List.set_cons_zero, List.set_cons_succ, List.getElem_toArray, List.getElem_cons_zero, List.getElem_cons_succ]
                refine wpAnyL_takeS (i := 8) (v := undef) rfl (by kernel_rfl) (by kernel_rfl) (by kernel_rfl) (by kernel_rfl) (fun _ _ _ h => h) (Or.inr ⟨by rfl, rfl⟩) (by assumption) ?_
                simp only [Act.put, List.setIfInBounds_toArray, List.set_cons_zero, List.set_cons_succ, List.getElem_toArray, List.getElem_cons_zero, List.getElem_cons_succ]
                refine wpAnyL_takeS (i := 9) (v := undef) rfl (by kernel_rfl) (by kernel_rfl) (by kernel_rfl) (by kernel_rfl) (fun _ _ _ h => h) (Or.inr ⟨by rfl, rfl⟩) (by assumption) ?_
                simp only [Act.put, List.setIfInBounds_toArray, List.set_cons_zero, List.set_cons_succ, List.getElem_toArray, List.getElem_cons_zero, List.getElem_cons_succ]
                refine wpAnyL_takeS (i := 10) (v := undef) rfl (by kernel_rfl) (by kernel_rfl) (by kernel_rfl) (by kernel_rfl) (fun _ _ _ h => h) (Or.inr ⟨by rfl, rfl⟩) (by assumption) ?_
                simp only [Act.put, List.setIfInBounds_toArray, List.set_cons_zero, List.set_cons_succ, List.getElem_toArray, List.getElem_cons_zero, List.getElem_cons_succ]
                refine wpAnyL_takeS (i := 11) (v := undef) rfl (by kernel_rfl) (by kernel_rfl) (by kernel_rfl) (by kernel_rfl) (fun _ _ _ h => h) (Or.inr ⟨by rfl, rfl⟩) (by assumption) ?_
                simp only [Act.put, List.setIfInBounds_toArray, List.set_cons_zero, List.set_cons_succ, List.getElem_toArray, List.getElem_cons_zero, List.getElem_cons_succ]
                refine wpAnyL_takeS (i := 12) (v := undef) rfl (by kernel_rfl) (by kernel_rfl) (by kernel_rfl) (by kernel_rfl) (fun _ _ _ h => h) (Or.inr ⟨by rfl, rfl⟩) (by assumption) ?_
                simp only [Act.put, List.setIfInBounds_toArray, List.set_cons_zero, List.set_cons_succ, List.getElem_toArray, List.getElem_cons_zero, List.getElem_cons_succ]
                refine wpAnyL_takeS (i := 13) (v := undef) rfl (by kernel_rfl) (by kernel_rfl) (by kernel_rfl) (by kernel_rfl) (fun _ _ _ h => h) (Or.inr ⟨by rfl, rfl⟩) (by assumption) ?_
                simp only [Act.put, List.setIfInBounds_toArray, List.set_cons_zero, List.set_cons_succ, List.getElem_toArray, List.getElem_cons_zero, List.getElem_cons_succ]
                refine wpAnyL_takeS (i := 14) (v := undef) rfl (by kernel_rfl) (by kernel_rfl) (by kernel_rfl) (by kernel_rfl) (fun _ _ _ h => h) (Or.inr ⟨by rfl, rfl⟩) (by assumption) ?_
                simp only [Act.put, List.setIfInBounds_toArray, List.set_cons_zero, List.set_cons_succ, List.getElem_toArray, List.getElem_cons_zero, List.getElem_cons_succ]
                refine wpAnyL_takeS (i := 15) (v := undef) rfl (by kernel_rfl) (by kernel_rfl) (by kernel_rfl) (by kernel_rfl) (fun _ _ _ h => h) (Or.inr ⟨by rfl, rfl⟩) (by assumption) ?_
                simp only [Act.put, List.setIfInBounds_toArray, List.set_cons_zero, List.set_cons_succ, List.getElem_toArray, List.getElem_cons_zero, List.getElem_cons_succ]
                refine wpAnyL_takeS (i := 16) (v := undef) rfl (by kernel_rfl) (by kernel_rfl) (by kernel_rfl) (by kernel_rfl) (fun _ _ _ h => h) (Or.inr ⟨by rfl, rfl⟩) (by assumption) ?_
                simp only [Act.put, List.setIfInBounds_toArray, List.set_cons_zero, List.set_cons_succ, List.getElem_toArray, List.getElem_cons_zero, List.getElem_cons_succ]
                refine wpAnyL_takeS (i := 17) (v := undef) rfl (by kernel_rfl) (by kernel_rfl) (by kernel_rfl) (by kernel_rfl) (fun _ _ _ h => h) (Or.inr ⟨by rfl, rfl⟩) (by assumption) ?_
                simp only [Act.put, List.setIfInBounds_toArray, List.set_cons_zero, List.set_cons_succ, List.getElem_toArray, List.getElem_cons_zero, List.getElem_cons_succ]
                refine wpAnyL_takeS (i := 18) (v := ?_) rfl (by kernel_rfl) (by kernel_rfl) (by kernel_rfl) (by kernel_rfl) (fun _ _ _ h => h) (Or.inl ⟨by rfl, ?_⟩) (by assumption) ?_
                rotate_left 1
                · intro wz ⟨z0, z1, z2, z3, z4, z5⟩
                  go_simp
                  all_goals with_reducible rfl
                simp only [Act.put, List.setIfInBounds_toArray, List.set_cons_zero, List.set_cons_succ, List.getElem_toArray, List.getElem_cons_zero, List.getElem_cons_succ]
                refine wpAnyL_takeS (i := 19) (v := ?_) rfl (by kernel_rfl) (by kernel_rfl) (by kernel_rfl) (by kernel_rfl) (fun _ _ _ h => h) (Or.inl ⟨by rfl, ?_⟩) (by assumption) ?_
                rotate_left 1
                · intro wz ⟨z0, z1, z2, z3, z4, z5⟩
                  go_simp
                  all_goals with_reducible rfl
                simp only [Act.put, List.setIfInBounds_toArray, List.set_cons_zero, List.set_cons_succ, List.getElem_toArray, List.getElem_cons_zero, List.getElem_cons_succ]
                refine wpAnyL_ready (rs := [20]) (by kernel_rfl) (by simp) (AllReadyL.last rfl (by kernel_rfl) (fun K hK => ?_) AllReadyL.nil)
                go_simp
                refine hK.out _ _ ?_ (fun hHeld => ?_)
                · exact HPt.out.1
                clear hK K
                refine wpAnyL_done (by kernel_rfl) ?_ _
                go_wp2
                go_roundw
                case rel => exact ⟨m + 1, by omega, by go_num, HPt.out.2.1, HPt.out.2.2⟩
                case measure => simp [intOf]; omega
        · obtain rfl : m = ops.length := by omega
          have HE3 := HF
          clear HF
          go_wp2
          go_roundw
          case rel => exact ⟨n + 1, by omega, by go_num, by rw [HNx.out]; exact HE3.out⟩
          case measure => simp [intOf]; omega
    · obtain rfl : n = s.txs.length := by omega
      have hck : s.txs.length ≤ 40 := by omega
      obtain ⟨a1, p1, rfl, _, _⟩ := HF.out.x1.readM
      obtain ⟨a2, p2, rfl, _, _⟩ := HF.out.x2.readM
      obtain ⟨a3, p3, rfl, hc3, _⟩ := HF.out.x3.readM
      clear HOp HWro HW hn hnl
      go_wp2_with fail
      refine (dRound_any s.txs.length hck (ovB s) _ wr HF.out.x1.readM).mono ?_
      rintro e Y1 ⟨rfl, hbn⟩
      replace HF := hideIt (HF.out.below hbn)
      clear hbn
      have hbA : Below Y1.heap.size Y1 (Y1.alloc (.cells #[.slice a1 s.txs.length p1, .slice a2 s.txs.length p2] 33)) := belA (Below.refl _ _) _
      have HEi := hideIt (either_any s.txs.length (by omega) 2 (by omega) (by omega) (fun j => if j = 0 then .slice a1 s.txs.length p1 else .slice a2 s.txs.length p2) (edgG s) Y1.heap.size (Y1.alloc (.cells #[.slice a1 s.txs.length p1, .slice a2 s.txs.length p2] 33)) (fun j hj => by
        rw [cell_of_row _ _ _ _ 33 _ (heap_alloc_new Y1 _)]
        match j, hj with
        | 0, _ => rfl
        | 1, _ => rfl) (fun j hj => by
        match j, hj with
        | 0, _ => exact (HF.out.x1.below hbA).readM
        | 1, _ => exact (HF.out.x2.below hbA).readM))
      rw [orN_two] at HEi
      replace HF := hideIt (HF.out.below hbA)
      clear hbA
      go_wp2_with fail
      refine HEi.out.mono ?_
      rintro e Y2 ⟨v4, rfl, hr4, hbn⟩
      replace HF := hideIt (HF.out.below hbn)
      clear hbn HEi
      go_wp2_with fail
      refine (dRound_any s.txs.length hck _ _ Y2 hr4).mono ?_
      rintro e Y3 ⟨rfl, hbn⟩
      replace HF := hideIt (HF.out.below hbn)
      clear hbn hr4
      generalize hr0 : rndB (ovB s) s.txs.length = r0 at *
      generalize hr3 : rndB (orR (ovB s) (seB s)) s.txs.length = r3 at *
      have HR0 := hideIt hr0
      have HR3 := hideIt hr3
      clear hr0 hr3
      have b0 := HF.out.bits.bit 0 (by omega)
      have z0 := HF.out.bits.fz 0
      have HF0 := hideIt (HF.out.put (m := 0) (by omega) r0)
      have b3 := HF0.out.bits.bit 3 (by omega)
      have z3 := HF0.out.bits.fz 3
      have HF4 := hideIt (HF0.out.put (m := 3) (by omega) r3)
      have hBf : Bf < Y3.heap.size := HF.out.bits.lt
      clear HF HF0
      go_upto_region 15 with fail
      generalize hY4 : (Y3.setCell _ _).setCell _ _ = Y4 at HF4 ⊢
      have HF := HF4
      clear hY4 b0 z0 b3 z3 HF4
      obtain ⟨F, HFe⟩ : ∃ F : Nat → Bool, Hid (F = fun k => if k = 3 then r3 else if k = 0 then r0 else fndL s (rdN s s.txs.length) k) := ⟨_, rfl⟩
      have HF45 : Hid (∀ k, k = 4 ∨ k = 5 → F k = false) := fun k hk => by
        rw [HFe.out]
        show (if k = 3 then r3 else if k = 0 then r0 else fndL s (rdN s s.txs.length) k) = false
        rw [if_neg (by omega), if_neg (by omega)]
        unfold fndL
        rw [if_neg (by omega), if_neg (by omega)]
      have HFin : Hid (∀ k, k < 6 → (if k = 5 then ldbB (anB s) (edB s) s.txs.length else if k = 4 then ldbB (anB s) (orR (ovB s) (seB s)) s.txs.length else F k) = fndB s k) := fun k hk => by
        rw [HFe.out]
        match k, hk with
        | 0, _ => rw [← HR0.out]; rfl
        | 1, _ => rfl
        | 2, _ => rfl
        | 3, _ => rw [← HR3.out]; rfl
        | 4, _ => rfl
        | 5, _ => rfl
      rw [← HFe.out] at HF
      clear HFe HR0 HR3
      have hbA : Below Y4.heap.size Y4 (Y4.alloc (.cells #[.slice a1 s.txs.length p1, .slice a2 s.txs.length p2] 33)) := belA (Below.refl _ _) _
      have HEi := hideIt (either_any s.txs.length (by omega) 2 (by omega) (by omega) (fun j => if j = 0 then .slice a1 s.txs.length p1 else .slice a2 s.txs.length p2) (edgG s) Y4.heap.size (Y4.alloc (.cells #[.slice a1 s.txs.length p1, .slice a2 s.txs.length p2] 33)) (fun j hj => by
        rw [cell_of_row _ _ _ _ 33 _ (heap_alloc_new Y4 _)]
        match j, hj with
        | 0, _ => rfl
        | 1, _ => rfl) (fun j hj => by
        match j, hj with
        | 0, _ => exact (HF.out.x1.below hbA).readM
        | 1, _ => exact (HF.out.x2.below hbA).readM))
      rw [orN_two] at HEi
      replace HF := hideIt (HF.out.below hbA)
      clear hbA
      go_wp2_with fail
      refine HEi.out.mono ?_
      rintro e Y5 ⟨v5, rfl, hr5, hbn⟩
      replace HF := hideIt (HF.out.below hbn)
      clear hbn HEi
      go_wp2_with fail
      refine (dClosedX_any s.txs.length hck _ _ Y5 hr5).mono ?_
      rintro e Y6 ⟨v6, rfl, hx6, hbn⟩
      have HX6 := hideIt (hx6 Bf HF.out.bits.lt)
      replace HF := hideIt (HF.out.below hbn)
      clear hbn hx6 hr5
      have hbA : Below Y6.heap.size Y6 (Y6.alloc (.cells #[.slice a1 s.txs.length p1, .slice a2 s.txs.length p2, .slice a3 s.txs.length p3] 33)) := belA (Below.refl _ _) _
      have HEi := hideIt (either_any s.txs.length (by omega) 3 (by omega) (by omega) (fun j => if j = 0 then .slice a1 s.txs.length p1 else if j = 1 then .slice a2 s.txs.length p2 else .slice a3 s.txs.length p3) (edgG s) Y6.heap.size (Y6.alloc (.cells #[.slice a1 s.txs.length p1, .slice a2 s.txs.length p2, .slice a3 s.txs.length p3] 33)) (fun j hj => by
        rw [cell_of_row _ _ _ _ 33 _ (heap_alloc_new Y6 _)]
        match j, hj with
        | 0, _ => rfl
        | 1, _ => rfl
        | 2, _ => rfl) (fun j hj => by
        match j, hj with
        | 0, _ => exact (HF.out.x1.below hbA).readM
        | 1, _ => exact (HF.out.x2.below hbA).readM
        | 2, _ => exact (HF.out.x3.below hbA).readM))
      rw [orN_three] at HEi
      replace HF := hideIt (HF.out.below hbA)
      replace HX6 := hideIt (HX6.out.below hbA)
      clear hbA
      go_wp2_with fail
      refine HEi.out.mono ?_
      rintro e Y7 ⟨v7, rfl, hr7, hbn⟩
      replace HF := hideIt (HF.out.below hbn)
      replace HX6 := hideIt (HX6.out.below hbn)
      clear hbn HEi
      go_wp2_with fail
      refine (dClosedX_any s.txs.length hck _ _ Y7 hr7).mono ?_
      rintro e Y8 ⟨v8, rfl, hx8, hbn⟩
      have HX8 := hideIt (hx8 Bf HF.out.bits.lt)
      replace HF := hideIt (HF.out.below hbn)
      replace HX6 := hideIt (HX6.out.below hbn)
      clear hbn hx8 hr7
      obtain ⟨a6, p6, rfl, hc6, _⟩ := HX6.out.readM
      obtain ⟨a8, p8, rfl, hc8, _⟩ := HX8.out.readM
      have HA1 := hideIt (acB_all (anB s) (orR (ovB s) (seB s)) s.txs.length)
      have HA2 := hideIt (acB_all (anB s) (edB s) s.txs.length)
      generalize war (orR (ovB s) (seB s)) s.txs.length = M1 at *
      generalize war (edB s) s.txs.length = M2 at *
      have HFs := hideIt (HF.out.same (f' := fun k => if k = 5 then acB (anB s) M2 s.txs.length 0 0 else if k = 4 then acB (anB s) M1 s.txs.length 0 0 else F k) fun k _ => by
        rw [acB_start, acB_start]
        by_cases h5 : k = 5
        · rw [if_pos h5]; exact HF45.out k (.inr h5)
        · rw [if_neg h5]
          by_cases h4 : k = 4
          · rw [if_pos h4]; exact HF45.out k (.inl h4)
          · rw [if_neg h4])
      clear HF
      go_wp2
      go_loopw [116] (fun c wz => ∃ i : Nat, i ≤ s.txs.length ∧ c = .int .i64 i ∧ FinD wz W Bf s.txs.length (.slice a1 s.txs.length p1) (.slice a2 s.txs.length p2) (.slice a3 s.txs.length p3) (ovB s) (seB s) (anB s) (fun k => if k = 5 then acB (anB s) M2 s.txs.length i 0 else if k = 4 then acB (anB s) M1 s.txs.length i 0 else F k) ∧ ReadX wz (.slice a6 s.txs.length p6) s.txs.length M1 Bf ∧ ReadX wz (.slice a8 s.txs.length p8) s.txs.length M2 Bf) (fun c _ => s.txs.length - (intOf c).toNat)
      case atStart => exact ⟨0, by omega, rfl, HFs.out, HX6.out, HX8.out⟩
      case round =>
        clear HFs HX6 HX8
        obtain ⟨i, hi, rfl, hf, hx6, hx8⟩ := hrel
        have HF := hideIt hf
        have HX6 := hideIt hx6
        have HX8 := hideIt hx8
        clear hf hx6 hx8
        by_cases hil : i < s.txs.length
        · have hil' : (i : Int) < s.txs.length := by omega
          go_wp2
          go_loopw [121] (fun c wz => ∃ q : Nat, q ≤ s.txs.length ∧ c = .int .i64 q ∧ FinD wz W Bf s.txs.length (.slice a1 s.txs.length p1) (.slice a2 s.txs.length p2) (.slice a3 s.txs.length p3) (ovB s) (seB s) (anB s) (fun k => if k = 5 then acB (anB s) M2 s.txs.length i q else if k = 4 then acB (anB s) M1 s.txs.length i q else F k) ∧ ReadX wz (.slice a6 s.txs.length p6) s.txs.length M1 Bf ∧ ReadX wz (.slice a8 s.txs.length p8) s.txs.length M2 Bf) (fun c _ => s.txs.length - (intOf c).toNat)
          case atStart => exact ⟨0, by omega, rfl, HF.out, HX6.out, HX8.out⟩
          case round =>
            clear HF HX6 HX8
            obtain ⟨q, hq, rfl, hf, hx6, hx8⟩ := hrel
            rename World => Z
            have HF := hideIt hf
            have HX6 := hideIt hx6
            have HX8 := hideIt hx8
            clear hf hx6 hx8
            by_cases hql : q < s.txs.length
            · have hql' : (q : Int) < s.txs.length := by omega
              obtain ⟨g3, o3, r3', rfl, n3, n3', x3, y3⟩ := readX_rows HF.out.x3 i hil
              replace y3 := y3 q hql
              obtain ⟨g6, o6, r6, rfl, n6, n6', x6, y6⟩ := readX_rows HX6.out q hql
              replace y6 := y6 i hil
              obtain ⟨g8, o8, r8, rfl, n8, n8', x8, y8⟩ := readX_rows HX8.out q hql
              replace y8 := y8 i hil
              have b4 := HF.out.bits.bit 4 (by omega)
              have z4 := HF.out.bits.fz 4
              have b5 := HF.out.bits.bit 5 (by omega)
              have z5 := HF.out.bits.fz 5
              have HM4 := hideIt (acB_more (anB s) M1 s.txs.length i q)
              have HM5 := hideIt (acB_more (anB s) M2 s.txs.length i q)
              simp only [if_true, show ((4 : Nat) = 5) = False from by simp, if_false] at b4 b5
              have HPt : Hid (∀ u4 u5 : Bool, (acB (anB s) M1 s.txs.length i q || (anB s i q && M1 q i)) = u4 → (acB (anB s) M2 s.txs.length i q || (anB s i q && M2 q i)) = u5 → FinD ((Z.setCell ⟨Bf, 4, none⟩ (.bool u4)).setCell ⟨Bf, 5, none⟩ (.bool u5)) W Bf s.txs.length (.slice a1 s.txs.length p1) (.slice a2 s.txs.length p2) (.slice (some ⟨g3, o3, none⟩) s.txs.length p3) (ovB s) (seB s) (anB s) (fun k => if k = 5 then acB (anB s) M2 s.txs.length i (q + 1) else if k = 4 then acB (anB s) M1 s.txs.length i (q + 1) else F k) ∧ ReadX ((Z.setCell ⟨Bf, 4, none⟩ (.bool u4)).setCell ⟨Bf, 5, none⟩ (.bool u5)) (.slice (some ⟨g6, o6, none⟩) s.txs.length p6) s.txs.length M1 Bf ∧ ReadX ((Z.setCell ⟨Bf, 4, none⟩ (.bool u4)).setCell ⟨Bf, 5, none⟩ (.bool u5)) (.slice (some ⟨g8, o8, none⟩) s.txs.length p8) s.txs.length M2 Bf) := fun u4 u5 h4 h5 =>
                ⟨((HF.out.put (m := 4) (by omega) u4).put (m := 5) (by omega) u5).same fun k _ => by
                  rw [HM4.out, HM5.out, h4, h5]
                  by_cases e5 : k = 5
                  · simp [e5]
                  · by_cases e4 : k = 4
                    · simp [e4]
                    · simp [e5, e4], (HX6.out.set 4 _).set 5 _, (HX8.out.set 4 _).set 5 _⟩
              have HK : Hid (∀ u : Bool, (Z.setCell ⟨Bf, 4, none⟩ (.bool u)).cell? ⟨g3, o3 + i, none⟩ = some (.slice (some ⟨r3', 0, none⟩) s.txs.length s.txs.length) ∧ (Z.setCell ⟨Bf, 4, none⟩ (.bool u)).cell? ⟨r3', q, none⟩ = some (.bool (anB s i q)) ∧ (Z.setCell ⟨Bf, 4, none⟩ (.bool u)).cell? ⟨g8, o8 + q, none⟩ = some (.slice (some ⟨r8, 0, none⟩) s.txs.length s.txs.length) ∧ (Z.setCell ⟨Bf, 4, none⟩ (.bool u)).cell? ⟨r8, i, none⟩ = some (.bool (M2 q i)) ∧ (Z.setCell ⟨Bf, 4, none⟩ (.bool u)).cell? ⟨Bf, 5, none⟩ = some (.bool (acB (anB s) M2 s.txs.length i q)) ∧ (Z.setCell ⟨Bf, 4, none⟩ (.bool u)).frozen? ⟨Bf, 5, none⟩ = false) := fun u =>
                ⟨(World.cell?_setCell_other _ _ _ _ (blkNe n3.symm)).trans x3, (World.cell?_setCell_other _ _ _ _ (blkNe n3'.symm)).trans y3, (World.cell?_setCell_other _ _ _ _ (blkNe n8.symm)).trans x8, (World.cell?_setCell_other _ _ _ _ (blkNe n8'.symm)).trans y8, (by have := (HF.out.put (m := 4) (by omega) u).bits.bit 5 (by omega); simpa using this), (HF.out.put (m := 4) (by omega) u).bits.fz 5⟩
              generalize acB (anB s) M1 s.txs.length i q = o4 at *
              generalize acB (anB s) M2 s.txs.length i q = o5 at *
              generalize anB s i q = e at *
              generalize M1 q i = m1 at *
              generalize M2 q i = m2 at *
              clear HF HX6 HX8 HM4 HM5 n3 n3' n6 n6' n8 n8' b5 z5
              go_upto_region 22 with fail
              cases e
              · cases o4
                · cases o5
                  · clear HA1 HA2
                    have HP := hideIt (HPt.out false false rfl rfl)
                    obtain ⟨k3, l3, k8, l8, k5, f5⟩ := HK.out false
                    clear HPt HK
                    go_wp2
                    go_roundw
                    case rel => exact ⟨q + 1, by omega, by go_num, HP.out⟩
                    case measure => simp [intOf]; omega
                  · clear HA1 HA2
                    have HP := hideIt (HPt.out false true rfl rfl)
                    obtain ⟨k3, l3, k8, l8, k5, f5⟩ := HK.out false
                    clear HPt HK
                    go_wp2
                    go_roundw
                    case rel => exact ⟨q + 1, by omega, by go_num, HP.out⟩
                    case measure => simp [intOf]; omega
                · cases o5
                  · clear HA1 HA2
                    have HP := hideIt (HPt.out true false rfl rfl)
                    obtain ⟨k3, l3, k8, l8, k5, f5⟩ := HK.out true
                    clear HPt HK
                    go_wp2
                    go_roundw
                    case rel => exact ⟨q + 1, by omega, by go_num, HP.out⟩
                    case measure => simp [intOf]; omega
                  · clear HA1 HA2
                    have HP := hideIt (HPt.out true true rfl rfl)
                    obtain ⟨k3, l3, k8, l8, k5, f5⟩ := HK.out true
                    clear HPt HK
                    go_wp2
                    go_roundw
                    case rel => exact ⟨q + 1, by omega, by go_num, HP.out⟩
                    case measure => simp [intOf]; omega
              · cases o4
                · cases o5
                  · clear HA1 HA2
                    have HP := hideIt (HPt.out m1 m2 (by simp) (by simp))
                    obtain ⟨k3, l3, k8, l8, k5, f5⟩ := HK.out m1
                    clear HPt HK
                    go_wp2
                    go_roundw
                    case rel => exact ⟨q + 1, by omega, by go_num, HP.out⟩
                    case measure => simp [intOf]; omega
                  · clear HA1 HA2
                    have HP := hideIt (HPt.out m1 true (by simp) rfl)
                    obtain ⟨k3, l3, k8, l8, k5, f5⟩ := HK.out m1
                    clear HPt HK
                    go_wp2
                    go_roundw
                    case rel => exact ⟨q + 1, by omega, by go_num, HP.out⟩
                    case measure => simp [intOf]; omega
                · cases o5
                  · clear HA1 HA2
                    have HP := hideIt (HPt.out true m2 rfl (by simp))
                    obtain ⟨k3, l3, k8, l8, k5, f5⟩ := HK.out true
                    clear HPt HK
                    go_wp2
                    go_roundw
                    case rel => exact ⟨q + 1, by omega, by go_num, HP.out⟩
                    case measure => simp [intOf]; omega
                  · clear HA1 HA2
                    have HP := hideIt (HPt.out true true rfl rfl)
                    obtain ⟨k3, l3, k8, l8, k5, f5⟩ := HK.out true
                    clear HPt HK
                    go_wp2
                    go_roundw
                    case rel => exact ⟨q + 1, by omega, by go_num, HP.out⟩
                    case measure => simp [intOf]; omega
            · obtain rfl : q = s.txs.length := by omega
              have HP := hideIt (HF.out.same (f' := fun k => if k = 5 then acB (anB s) M2 s.txs.length (i + 1) 0 else if k = 4 then acB (anB s) M1 s.txs.length (i + 1) 0 else F k) fun k _ => by rw [acB_row, acB_row])
              clear HF
              go_wp2
              go_roundw
              case rel => exact ⟨i + 1, by omega, by go_num, HP.out, HX6.out, HX8.out⟩
              case measure => simp [intOf]; omega
        · obtain rfl : i = s.txs.length := by omega
          have HFi : Hid (BitsAt wr Bf 6 (fndB s) ∧ Below w.heap.size w wr) := ⟨HF.out.bits.same fun k hk => by
            rw [HA1.out, HA2.out]
            exact HFin.out k hk, belJ HB.out HF.out.bel⟩
          clear HF HX6 HX8
          go_wp2
          go_ret
          exact ⟨Bf, rfl, HFi.out⟩
end Go.Proofs.YtodanhjookgbeaaDoor
