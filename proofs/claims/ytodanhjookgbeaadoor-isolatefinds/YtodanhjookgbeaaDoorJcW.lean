/-
  The document's StoryCheck, walked.
-/
import Derived.Test.YtodanhjookgbeaaDoorIhW
import Derived.Test.YtodanhjookgbeaaDoorIyWZ
namespace Go.Proofs.YtodanhjookgbeaaDoor
open Go.RowKit

theorem fltX_at {s : ISt} {t : ITx} (h : ¬ 60 < t.ops.length) {m : Nat} (hm : m < t.ops.length) (hn : ∀ j (h : j < t.ops.length), j < m → fltP s t.ops[j] = 0) (h0 : fltP s t.ops[m] ≠ 0) : fltX s t = fltP s t.ops[m] := by
  unfold fltX
  rw [if_neg h]
  have := fstF_first (l := t.ops.map (fltP s)) (k := m) (by simpa using hm) (fun j h1 h2 => by simpa using hn j (by simpa using h1) h2) (by simpa using h0)
  simpa using this
theorem fltX_end {s : ISt} {t : ITx} (h : ¬ 60 < t.ops.length) (hn : ∀ j (h : j < t.ops.length), fltP s t.ops[j] = 0) : fltX s t = 0 := by
  unfold fltX
  rw [if_neg h]
  exact fstF_none fun j hj => by simpa using hn j (by simpa using hj)

set_option maxRecDepth 100000 in
set_option maxHeartbeats 8000000 in
theorem dCheck_any (s : ISt) (a b : Option Addr) (ca cb : Nat) (w : World) (h : StyQ w a ca b cb s) :
    Calls Tryd.prog 7 #[.agg #[.slice a s.txs.length ca, .slice b s.ord.length cb]] w fun e w' => e = .returned (.int .i64 (fltI s)) ∧ Below w.heap.size w w' := by
  have HS := hideIt h
  have ht := h.tmax
  have ho := h.omax
  unfold maxLen at ht ho
  have HB : Hid (Below w.heap.size w (w.alloc (.cells #[.slice a s.txs.length ca, .slice b s.ord.length cb] 28))) := belA (Below.refl _ _) _
  obtain ⟨c0, c1⟩ := box2 w (.slice a s.txs.length ca) (.slice b s.ord.length cb) 28
  clear h
  go_enter Tryd.func7, Tryd.ntmps7
  by_cases h8 : 8 < s.txs.length
  · have HE : Hid (fltI s = 4) := by unfold fltI; rw [if_pos h8]; rfl
    have h8' : (8 : Int) < s.txs.length := by omega
    go_wp2
    go_ret
    exact ⟨by rw [HE.out]; rfl, HB.out⟩
  · have h8' : ¬ (8 : Int) < s.txs.length := by omega
    by_cases hor : s.ord.length = 8
    · have hb8 : ((s.ord.length : Int) != 8) = false := by rw [hor]; rfl
      have HTx : Hid (∀ k (hk : k < s.txs.length), (∀ j (h : j < s.txs.length), j < k → fltX s s.txs[j] = 0) → fltX s s.txs[k] ≠ 0 → fltI s = fltX s s.txs[k]) := fun k hk => fltI_tx (by omega) hor hk
      have HKy : Hid ((∀ j (h : j < s.txs.length), fltX s s.txs[j] = 0) → ∀ k, k < 8 → (∀ j, j < k → fltK s j = 0) → fltK s k ≠ 0 → fltI s = fltK s k) := fun hx k hk => fltI_key (by omega) hor hx hk
      have HOk : Hid ((∀ j (h : j < s.txs.length), fltX s s.txs[j] = 0) → (∀ j, j < 8 → fltK s j = 0) → fltI s = 0) := fltI_ok (by omega) hor
      have HOr := hideIt hor
      clear hor
      generalize fltI s = R at *
      go_wp2
      generalize hW : w.alloc _ = W at HB c0 c1 ⊢
      clear hW
      have HLt : Hid (w.heap.size < W.heap.size) := World.block_lt_of_cell? W _ c0
      have HW : Hid (∀ Z, Below W.heap.size W Z → ∀ f : Nat, (hf : f < s.txs.length) → ∀ (key : Int), ∃ g off oa oc, a = some ⟨g, off, none⟩ ∧ g < W.heap.size ∧ Z.cell? ⟨g, off + f * 2, none⟩ = some (.slice oa (txI s (f : Int)).ops.length oc) ∧ Z.cell? ⟨g, off + f * 2 + 1, none⟩ = some (.bool (comI s (f : Int))) ∧ ∀ Z', Below W.heap.size W Z' → Calls Tryd.prog 20 #[.agg #[.slice oa (txI s (f : Int)).ops.length oc, .bool (comI s (f : Int))], .int .i64 key] Z' fun e w' => e = .returned (.int .i64 (wroI s (f : Int) key : Nat)) ∧ Below Z'.heap.size Z' w') := fun Z hZ f hf key => by
        obtain ⟨g, off, e, hg, oa, oc, o1, o2, o3, o4, o5⟩ := (HS.out.below HB.out).tx hf
        have e2 : comI s (f : Int) = s.txs[f].com := by unfold comI; rw [txI_at hf]
        have e3 : wroI s (f : Int) key = wroT ⟨s.txs[f].ops, s.txs[f].com⟩ key := by unfold wroI; rw [txI_at hf]
        rw [e2, e3, txI_at hf]
        exact ⟨g, off, oa, oc, e, hg, (hZ.cell (p := ⟨g, off + f * 2, none⟩) hg).trans o1, (hZ.cell (p := ⟨g, off + f * 2 + 1, none⟩) hg).trans o5, fun Z' hZ' => wrote_any _ _ key oa oc Z' o3 (o4.below hZ')⟩
      go_loopw [25] (fun i wr => ∃ k : Nat, k ≤ s.txs.length ∧ i = .int .i64 k ∧ (∀ j (h : j < s.txs.length), j < k → fltX s s.txs[j] = 0) ∧ Below W.heap.size W wr) (fun i _ => s.txs.length - (intOf i).toNat)
      case atStart => exact ⟨0, by omega, rfl, fun j _ hj => absurd hj (by omega), Below.refl _ _⟩
      case round =>
        obtain ⟨k, hk, rfl, hz, hb⟩ := hrel
        have HZ := hideIt hz
        have HBw := hideIt hb
        clear hz hb
        have HBwr := hideIt (belJ HB.out HBw.out)
        have e0 := (HBw.out.cell (p := ⟨w.heap.size, 0, none⟩) HLt.out).trans c0
        have e1 := (HBw.out.cell (p := ⟨w.heap.size, 1, none⟩) HLt.out).trans c1
        by_cases hkn : k < s.txs.length
        · have hkn' : (k : Int) < s.txs.length := by omega
          have HSr := hideIt (HS.out.below HBwr.out)
          obtain ⟨g, off, ea, hg, oa, oc, o1, o2, o3, o4, o5⟩ := HSr.out.tx hkn
          have HF : Hid (fltX s s.txs[k] ≠ 0 → R = fltX s s.txs[k]) := HTx.out k hkn HZ.out
          have HZk : Hid (fltX s s.txs[k] = 0 → ∀ j (h : j < s.txs.length), j < k + 1 → fltX s s.txs[j] = 0) := fun h0 j hj hjk => by
            by_cases e : j = k
            · subst e; exact h0
            · exact HZ.out j hj (by omega)
          have e0' := cellA (o := .cells #[.slice oa s.txs[k].ops.length oc, .bool s.txs[k].com] 62) e0
          have HBa := hideIt (belA HBw.out (.cells #[.slice oa s.txs[k].ops.length oc, .bool s.txs[k].com] 62))
          have HO := hideIt (o4.below (belA (Below.refl _ _) (.cells #[.slice oa s.txs[k].ops.length oc, .bool s.txs[k].com] 62)))
          have HX6 : Hid (60 < s.txs[k].ops.length → fltX s s.txs[k] = 4) := fun h => by unfold fltX; rw [if_pos h]
          have HXa : Hid (¬ 60 < s.txs[k].ops.length → ∀ m (hm : m < s.txs[k].ops.length), (∀ j (h : j < s.txs[k].ops.length), j < m → fltP s s.txs[k].ops[j] = 0) → fltP s s.txs[k].ops[m] ≠ 0 → fltX s s.txs[k] = fltP s s.txs[k].ops[m]) := fun h m hm => fltX_at h hm
          have HXe : Hid (¬ 60 < s.txs[k].ops.length → (∀ j (h : j < s.txs[k].ops.length), fltP s s.txs[k].ops[j] = 0) → fltX s s.txs[k] = 0) := fun h => fltX_end h
          generalize fltX s s.txs[k] = f at *
          generalize s.txs[k] = T at *
          unfold maxLen at o3
          have HEa := hideIt ea
          rw [ea]
          rw [ea] at e0 e0'
          clear HTx HKy HOk HZ o4 HSr ea
          by_cases h60 : 60 < T.ops.length
          · have h60' : (60 : Int) < T.ops.length := by omega
            have HE := hideIt (HX6.out h60)
            have HBE := hideIt (belJ HB.out HBa.out)
            clear HX6 HXa HXe HO
            go_wp2
            go_ret
            exact ⟨by rw [HF.out (by rw [HE.out]; decide), HE.out]; rfl, HBE.out⟩
          · have h60' : ¬ (60 : Int) < T.ops.length := by omega
            have HXa := hideIt (HXa.out h60)
            have HXe := hideIt (HXe.out h60)
            clear HX6
            go_wp2
            generalize hW1 : wr.alloc _ = W1 at HBa e0' HO ⊢
            clear hW1
            have HLt1 : Hid (w.heap.size < W1.heap.size) := World.block_lt_of_cell? W1 _ e0'
            go_loopw [36] (fun i wz => ∃ m : Nat, m ≤ T.ops.length ∧ i = .int .i64 m ∧ (∀ j (h : j < T.ops.length), j < m → fltP s T.ops[j] = 0) ∧ Below W1.heap.size W1 wz) (fun i _ => T.ops.length - (intOf i).toNat)
            case atStart => exact ⟨0, by omega, rfl, fun j _ hj => absurd hj (by omega), Below.refl _ _⟩
            case round =>
              rename_i wv _
              obtain ⟨m, hm, rfl, hz, hb⟩ := hrel
              rename World => wz
              have HZ := hideIt hz
              have HBz := hideIt hb
              clear hz hb
              by_cases hml : m < T.ops.length
              · have hml' : (m : Int) < T.ops.length := by omega
                obtain ⟨g2, off2, rfl, hg2, p1, p2, p3, p4⟩ := (HO.out.below HBz.out).at hml
                have HRf : Hid (fltP s T.ops[m] ≠ 0 → R = fltP s T.ops[m]) := fun h0 => by
                  have e := HXa.out m hml HZ.out h0
                  rw [← e]
                  exact HF.out (by rw [e]; exact h0)
                have HZm : Hid (fltP s T.ops[m] = 0 → ∀ j (h : j < T.ops.length), j < m + 1 → fltP s T.ops[j] = 0) := fun h0 j hj hjk => by
                  by_cases e : j = m
                  · subst e; exact h0
                  · exact HZ.out j hj (by omega)
                have HR : Hid (fltP s T.ops[m] = if T.ops[m].key < 0 ∨ 7 < T.ops[m].key ∨ T.ops[m].frm < -1 ∨ (s.txs.length : Int) ≤ T.ops[m].frm ∨ T.ops[m].num < 0 then 2
                  else if (T.ops[m].wr = true ∧ (T.ops[m].frm ≠ 0 ∨ T.ops[m].num ≠ 0)) ∨ (T.ops[m].frm = -1 ∧ T.ops[m].num ≠ 0) then 1
                  else if T.ops[m].wr = false ∧ T.ops[m].frm ≠ -1 ∧ (wroI s T.ops[m].frm T.ops[m].key : Int) ≤ T.ops[m].num then 7 else 0) := rfl
                generalize T.ops[m] = o at *
                obtain ⟨owr, okey, ofrm, onum⟩ := o
                have e0z := cellA (o := (.cells #[.bool owr, .int .i64 okey, .int .i64 ofrm, .int .i64 onum] 68)) ((HBz.out.cell (p := ⟨w.heap.size, 0, none⟩) HLt1.out).trans e0')
                have HBZ := hideIt (belA HBz.out (.cells #[.bool owr, .int .i64 okey, .int .i64 ofrm, .int .i64 onum] 68))
                have HBV : Hid (Below W.heap.size W (wz.alloc (.cells #[.bool owr, .int .i64 okey, .int .i64 ofrm, .int .i64 onum] 68))) := belJ HBa.out HBZ.out
                have HBN : Hid (∀ n, Below w.heap.size w ((wz.alloc (.cells #[.bool owr, .int .i64 okey, .int .i64 ofrm, .int .i64 onum] 68)).drewN n)) := fun n => belJ HB.out (below_drewN HBV.out n)
                have q0 : (wz.alloc (.cells #[.bool owr, .int .i64 okey, .int .i64 ofrm, .int .i64 onum] 68)).cell? ⟨wz.heap.size, 0, none⟩ = some (.bool owr) := by simp
                have q1 : (wz.alloc (.cells #[.bool owr, .int .i64 okey, .int .i64 ofrm, .int .i64 onum] 68)).cell? ⟨wz.heap.size, 1, none⟩ = some (.int .i64 okey) := by simp
                have q2 : (wz.alloc (.cells #[.bool owr, .int .i64 okey, .int .i64 ofrm, .int .i64 onum] 68)).cell? ⟨wz.heap.size, 2, none⟩ = some (.int .i64 ofrm) := by simp
                have q3 : (wz.alloc (.cells #[.bool owr, .int .i64 okey, .int .i64 ofrm, .int .i64 onum] 68)).cell? ⟨wz.heap.size, 3, none⟩ = some (.int .i64 onum) := by simp
                dsimp only at HR
                generalize fltP s ⟨owr, okey, ofrm, onum⟩ = f2 at *
                go_upto_region 13 with fail
                generalize (wz.alloc _) = W2 at e0z HBV HBZ HBN q0 q1 q2 q3 ⊢
                clear HXa HXe HO HZ HF p1 p2 p3 p4
                have HZk := HZm
                clear HZm
                have HR2 : Hid (okey < 0 ∨ 7 < okey ∨ ofrm < -1 ∨ (s.txs.length : Int) ≤ ofrm ∨ onum < 0 → f2 = 2) := fun hh => by rw [HR.out, if_pos hh]
                by_cases hk0 : okey < 0
                · have HE := hideIt (HR2.out (.inl hk0))
                  clear HR HR2
                  have dd : decide (okey < 0) = true := decide_eq_true hk0
                  go_wp2
                  go_ret
                  exact ⟨by rw [HRf.out (by rw [HE.out]; decide), HE.out]; rfl, HBN.out 0⟩
                have Dhk0 : decide (okey < 0) = false := decide_eq_false hk0
                by_cases hk7 : 7 < okey
                · have HE := hideIt (HR2.out (.inr (.inl hk7)))
                  clear HR HR2
                  have dd : decide (7 < okey) = true := decide_eq_true hk7
                  go_wp2
                  go_ret
                  exact ⟨by rw [HRf.out (by rw [HE.out]; decide), HE.out]; rfl, HBN.out 0⟩
                have Dhk7 : decide (7 < okey) = false := decide_eq_false hk7
                by_cases hf1 : ofrm < -1
                · have HE := hideIt (HR2.out (.inr (.inr (.inl hf1))))
                  clear HR HR2
                  have dd : decide (ofrm < -1) = true := decide_eq_true hf1
                  go_wp2
                  go_ret
                  exact ⟨by rw [HRf.out (by rw [HE.out]; decide), HE.out]; rfl, HBN.out 0⟩
                have Dhf1 : decide (ofrm < -1) = false := decide_eq_false hf1
                by_cases hf2 : (s.txs.length : Int) ≤ ofrm
                · have HE := hideIt (HR2.out (.inr (.inr (.inr (.inl hf2)))))
                  clear HR HR2
                  have dd : decide ((s.txs.length : Int) ≤ ofrm) = true := decide_eq_true hf2
                  go_wp2
                  go_ret
                  exact ⟨by rw [HRf.out (by rw [HE.out]; decide), HE.out]; rfl, HBN.out 0⟩
                have Dhf2 : decide ((s.txs.length : Int) ≤ ofrm) = false := decide_eq_false hf2
                by_cases hn1 : onum < 0
                · have HE := hideIt (HR2.out (.inr (.inr (.inr (.inr hn1)))))
                  clear HR HR2
                  have dd : decide (onum < 0) = true := decide_eq_true hn1
                  go_wp2
                  go_ret
                  exact ⟨by rw [HRf.out (by rw [HE.out]; decide), HE.out]; rfl, HBN.out 0⟩
                have Dhn1 : decide (onum < 0) = false := decide_eq_false hn1
                have HR3 : Hid (f2 = if (owr = true ∧ (ofrm ≠ 0 ∨ onum ≠ 0)) ∨ (ofrm = -1 ∧ onum ≠ 0) then 1 else if owr = false ∧ ofrm ≠ -1 ∧ (wroI s ofrm okey : Int) ≤ onum then 7 else 0) := by
                  have := HR.out
                  rw [if_neg (by omega)] at this
                  exact this
                clear HR HR2
                by_cases g1 : (owr = true ∧ (ofrm ≠ 0 ∨ onum ≠ 0)) ∨ (ofrm = -1 ∧ onum ≠ 0)
                · have HE : Hid (f2 = 1) := by rw [HR3.out, if_pos g1]; rfl
                  clear HR3
                  cases owr
                  · have g2 : ofrm = -1 ∧ onum ≠ 0 := by rcases g1 with h | h; exact absurd h.1 (by simp); exact h
                    obtain ⟨rfl, hn2⟩ := g2
                    have e1 : (onum != 0) = true := by simp [hn2]
                    go_wp2
                    go_ret
                    exact ⟨by rw [HRf.out (by rw [HE.out]; decide), HE.out]; rfl, HBN.out 0⟩
                  · by_cases hf0 : ofrm = 0
                    · have hn2 : onum ≠ 0 := by rcases g1 with h | h; rcases h.2 with h | h; exact absurd hf0 h; exact h; exact h.2
                      have e1 : (onum != 0) = true := by simp [hn2]
                      have e2 : (ofrm != 0) = false := by simp [hf0]
                      clear hf0
                      go_wp2
                      go_ret
                      exact ⟨by rw [HRf.out (by rw [HE.out]; decide), HE.out]; rfl, HBN.out 0⟩
                    · have e1 : (ofrm != 0) = true := by simp [hf0]
                      go_wp2
                      go_ret
                      exact ⟨by rw [HRf.out (by rw [HE.out]; decide), HE.out]; rfl, HBN.out 0⟩
                have HE : Hid (f2 = if owr = false ∧ ofrm ≠ -1 ∧ (wroI s ofrm okey : Int) ≤ onum then 7 else 0) := by rw [HR3.out, if_neg g1]; rfl
                clear HR3
                cases owr
                · by_cases hf0 : ofrm = -1
                  · have hn2 : onum = 0 := Classical.byContradiction fun h => g1 (.inr ⟨hf0, h⟩)
                    subst hf0 hn2
                    have HE : Hid (f2 = 0) := by rw [HE.out, if_neg (by simp)]; rfl
                    clear g1
                    go_wp2_with fail
                    go_quiet (fail)
                    go_wp2
                    go_roundw
                    case rel => exact ⟨m + 1, by omega, by go_num, HZk.out HE.out, below_drewN HBZ.out _⟩
                    case measure => simp [intOf]; omega
                  · have e1 : (ofrm == -1) = false := by simp [hf0]
                    have e2 : (ofrm != -1) = true := by simp [hf0]
                    obtain ⟨fr, rfl⟩ := Int.eq_ofNat_of_zero_le (show 0 ≤ ofrm by omega)
                    obtain ⟨gx, ox, oa2, oc2, ea2, hgx, x1, x2, hwr⟩ := HW.out W2 HBV.out fr (by omega) okey
                    obtain ⟨rfl, rfl⟩ : g = gx ∧ off = ox := by
                      have := HEa.out.symm.trans ea2
                      simp at this
                      exact this
                    have HWr := hideIt hwr
                    have HE2 : Hid (f2 = if (wroI s fr okey : Int) ≤ onum then 7 else 0) := by
                      rw [HE.out]
                      by_cases h : (wroI s fr okey : Int) ≤ onum
                      · rw [if_pos h, if_pos ⟨rfl, hf0, h⟩]; rfl
                      · rw [if_neg h, if_neg (fun h' => h h'.2.2)]; rfl
                    have hfr : (fr : Int) < s.txs.length := by omega
                    clear g1 hf0 HE hwr
                    have HSz2 : Hid (w.heap.size < W2.heap.size ∧ wz.heap.size < W2.heap.size ∧ g < W2.heap.size) := ⟨World.block_lt_of_cell? W2 _ e0z, World.block_lt_of_cell? W2 _ q0, World.block_lt_of_cell? W2 _ x1⟩
                    have HX : Hid (∀ Z, Below W2.heap.size W2 Z → Z.cell? ⟨w.heap.size, 0, none⟩ = some (.slice (some ⟨g, off, none⟩) s.txs.length ca) ∧ Z.cell? ⟨wz.heap.size, 0, none⟩ = some (.bool false) ∧ Z.cell? ⟨wz.heap.size, 1, none⟩ = some (.int .i64 okey) ∧ Z.cell? ⟨wz.heap.size, 2, none⟩ = some (.int .i64 (fr : Int)) ∧ Z.cell? ⟨wz.heap.size, 3, none⟩ = some (.int .i64 onum) ∧ Z.cell? ⟨g, off + fr * 2, none⟩ = some (.slice oa2 (txI s (fr : Int)).ops.length oc2) ∧ Z.cell? ⟨g, off + fr * 2 + 1, none⟩ = some (.bool (comI s (fr : Int)))) := fun Z hZ =>
                      ⟨(hZ.cell (p := ⟨w.heap.size, 0, none⟩) HSz2.out.1).trans e0z, (hZ.cell (p := ⟨wz.heap.size, 0, none⟩) HSz2.out.2.1).trans q0, (hZ.cell (p := ⟨wz.heap.size, 1, none⟩) HSz2.out.2.1).trans q1, (hZ.cell (p := ⟨wz.heap.size, 2, none⟩) HSz2.out.2.1).trans q2, (hZ.cell (p := ⟨wz.heap.size, 3, none⟩) HSz2.out.2.1).trans q3, (hZ.cell (p := ⟨g, off + fr * 2, none⟩) HSz2.out.2.2).trans x1, (hZ.cell (p := ⟨g, off + fr * 2 + 1, none⟩) HSz2.out.2.2).trans x2⟩
                    generalize (txI s (fr : Int)).ops.length = nl at *
                    generalize comI s (fr : Int) = cm at *
                    generalize wroI s (fr : Int) okey = x at *
                    go_upto_region 17 with fail
                    clear q0 q1 q2 q3 x1 x2 e0z
                    refine wp_region_held_drew (S := (fun w' => Below W2.heap.size W2 w')) (by kernel_rfl) (Below.refl _ _).drew (fun hHeld => ?_)
                    refine wpAnyH_take (i := 0) (v := ?_) rfl (by kernel_rfl) (by kernel_rfl) (by kernel_rfl) (fun _ _ _ h => h) (Or.inl ⟨by rfl, ?_⟩) (by assumption) ?_
                    rotate_left 1
                    · intro wz sb
                      obtain ⟨y0, y1, y2, y3, y4, y5, y6⟩ := HX.out wz sb
                      go_simp
                      all_goals with_reducible rfl
                    simp only [Act.put, List.setIfInBounds_toArray, List.set_cons_zero, List.set_cons_succ, List.getElem_toArray, List.getElem_cons_zero]
                    refine wpAnyH_take (i := 1) (v := ?_) rfl (by kernel_rfl) (by kernel_rfl) (by kernel_rfl) (fun _ _ _ h => h) (Or.inl ⟨by rfl, ?_⟩) (by assumption) ?_
                    rotate_left 1
                    · intro wz sb
                      obtain ⟨y0, y1, y2, y3, y4, y5, y6⟩ := HX.out wz sb
                      go_simp
                      all_goals with_reducible rfl
                    simp only [Act.put, List.setIfInBounds_toArray, List.set_cons_zero, List.set_cons_succ, List.getElem_toArray, List.getElem_cons_zero, List.getElem_cons_succ]
                    refine wpAnyH_take (i := 2) (v := ?_) rfl (by kernel_rfl) (by kernel_rfl) (by kernel_rfl) (fun _ _ _ h => h) (Or.inl ⟨by rfl, ?_⟩) (by assumption) ?_
                    rotate_left 1
                    · intro wz sb
                      obtain ⟨y0, y1, y2, y3, y4, y5, y6⟩ := HX.out wz sb
                      go_simp
                      all_goals with_reducible rfl
                    simp only [Act.put, List.setIfInBounds_toArray, List.set_cons_zero, List.set_cons_succ, List.getElem_toArray, List.getElem_cons_zero, List.getElem_cons_succ]
                    refine wpAnyH_take (i := 3) (v := ?_) rfl (by kernel_rfl) (by kernel_rfl) (by kernel_rfl) (fun _ _ _ h => h) (Or.inl ⟨by rfl, ?_⟩) (by assumption) ?_
                    rotate_left 1
                    · intro wz sb
                      obtain ⟨y0, y1, y2, y3, y4, y5, y6⟩ := HX.out wz sb
                      go_simp
                      all_goals with_reducible rfl
                    simp only [Act.put, List.setIfInBounds_toArray, List.set_cons_zero, List.set_cons_succ, List.getElem_toArray, List.getElem_cons_zero, List.getElem_cons_succ]
                    refine wpAnyH_take (i := 4) (v := ?_) rfl (by kernel_rfl) (by kernel_rfl) (by kernel_rfl) (fun _ _ _ h => h) (Or.inl ⟨by rfl, ?_⟩) (by assumption) ?_
                    rotate_left 1
                    · intro wz sb
                      obtain ⟨y0, y1, y2, y3, y4, y5, y6⟩ := HX.out wz sb
                      go_simp
                      all_goals with_reducible rfl
                    simp only [Act.put, List.setIfInBounds_toArray, List.set_cons_zero, List.set_cons_succ, List.getElem_toArray, List.getElem_cons_zero, List.getElem_cons_succ]
                    refine wpAnyH_take (i := 5) (v := ?_) rfl (by kernel_rfl) (by kernel_rfl) (by kernel_rfl) (fun _ _ _ h => h) (Or.inl ⟨by rfl, ?_⟩) (by assumption) ?_
                    rotate_left 1
                    · intro wz sb
                      obtain ⟨y0, y1, y2, y3, y4, y5, y6⟩ := HX.out wz sb
                      go_simp
                      all_goals with_reducible rfl
                    simp only [Act.put, List.setIfInBounds_toArray, List.set_cons_zero, List.set_cons_succ, List.getElem_toArray, List.getElem_cons_zero, List.getElem_cons_succ]
                    refine wpAnyH_take (i := 6) (v := ?_) rfl (by kernel_rfl) (by kernel_rfl) (by kernel_rfl) (fun _ _ _ h => h) (Or.inl ⟨by rfl, ?_⟩) (by assumption) ?_
                    rotate_left 1
                    · intro wz sb
                      obtain ⟨y0, y1, y2, y3, y4, y5, y6⟩ := HX.out wz sb
                      go_simp
                      all_goals with_reducible rfl
                    simp only [Act.put, List.setIfInBounds_toArray, List.set_cons_zero, List.set_cons_succ, List.getElem_toArray, List.getElem_cons_zero, List.getElem_cons_succ]
                    refine wpAnyH_take (i := 7) (v := ?_) rfl (by kernel_rfl) (by kernel_rfl) (by kernel_rfl) (fun _ _ _ h => h) (Or.inl ⟨by rfl, ?_⟩) (by assumption) ?_
                    rotate_left 1
                    · intro wz sb
                      obtain ⟨y0, y1, y2, y3, y4, y5, y6⟩ := HX.out wz sb
                      go_simp
                      all_goals with_reducible rfl
                    simp only [Act.put, List.setIfInBounds_toArray, List.set_cons_zero, List.set_cons_succ, List.getElem_toArray, List.getElem_cons_zero, List.getElem_cons_succ]
                    refine wpAnyH_take (i := 8) (v := ?_) rfl (by kernel_rfl) (by kernel_rfl) (by kernel_rfl) (fun _ _ _ h => h) (Or.inl ⟨by rfl, ?_⟩) (by assumption) ?_
                    rotate_left 1
                    · intro wz sb
                      obtain ⟨y0, y1, y2, y3, y4, y5, y6⟩ := HX.out wz sb
                      go_simp
                      all_goals with_reducible rfl
                    simp only [Act.put, List.setIfInBounds_toArray, List.set_cons_zero, List.set_cons_succ, List.getElem_toArray, List.getElem_cons_zero, List.getElem_cons_succ]
                    refine wpAnyH_take (i := 9) (v := ?_) rfl (by kernel_rfl) (by kernel_rfl) (by kernel_rfl) (fun _ _ _ h => h) (Or.inl ⟨by rfl, ?_⟩) (by assumption) ?_
                    rotate_left 1
                    · intro wz sb
                      obtain ⟨y0, y1, y2, y3, y4, y5, y6⟩ := HX.out wz sb
                      go_simp
                      all_goals with_reducible rfl
                    simp only [Act.put, List.setIfInBounds_toArray, List.set_cons_zero, List.set_cons_succ, List.getElem_toArray, List.getElem_cons_zero, List.getElem_cons_succ]
                    refine wpAnyH_take (i := 10) (v := ?_) rfl (by kernel_rfl) (by kernel_rfl) (by kernel_rfl) (fun _ _ _ h => h) (Or.inl ⟨by rfl, ?_⟩) (by assumption) ?_
                    rotate_left 1
                    · intro wz sb
                      obtain ⟨y0, y1, y2, y3, y4, y5, y6⟩ := HX.out wz sb
                      go_simp
                      all_goals with_reducible rfl
                    simp only [Act.put, List.setIfInBounds_toArray, List.set_cons_zero, List.set_cons_succ, List.getElem_toArray, List.getElem_cons_zero, List.getElem_cons_succ]
                    refine wpAnyH_take (i := 11) (v := ?_) rfl (by kernel_rfl) (by kernel_rfl) (by kernel_rfl) (fun _ _ _ h => h) (Or.inl ⟨by rfl, ?_⟩) (by assumption) ?_
                    rotate_left 1
                    · intro wz sb
                      obtain ⟨y0, y1, y2, y3, y4, y5, y6⟩ := HX.out wz sb
                      go_simp
                      all_goals with_reducible rfl
                    simp only [Act.put, List.setIfInBounds_toArray, List.set_cons_zero, List.set_cons_succ, List.getElem_toArray, List.getElem_cons_zero, List.getElem_cons_succ]
                    refine wpAnyH_take (i := 12) (v := ?_) rfl (by kernel_rfl) (by kernel_rfl) (by kernel_rfl) (fun _ _ _ h => h) (Or.inl ⟨by rfl, ?_⟩) (by assumption) ?_
                    rotate_left 1
                    · intro wz sb
                      obtain ⟨y0, y1, y2, y3, y4, y5, y6⟩ := HX.out wz sb
                      go_simp
                      all_goals with_reducible rfl
                    simp only [Act.put, List.setIfInBounds_toArray, List.set_cons_zero, List.set_cons_succ, List.getElem_toArray, List.getElem_cons_zero, List.getElem_cons_succ]
                    refine wpAnyH_take (i := 13) (v := ?_) rfl (by kernel_rfl) (by kernel_rfl) (by kernel_rfl) (fun _ _ _ h => h) (Or.inl ⟨by rfl, ?_⟩) (by assumption) ?_
                    rotate_left 1
                    · intro wz sb
                      obtain ⟨y0, y1, y2, y3, y4, y5, y6⟩ := HX.out wz sb
                      go_simp
                      all_goals with_reducible rfl
                    simp only [Act.put, List.setIfInBounds_toArray, List.set_cons_zero, List.set_cons_succ, List.getElem_toArray, List.getElem_cons_zero, List.getElem_cons_succ]
                    refine wpAnyH_take (i := 14) (v := ?_) rfl (by kernel_rfl) (by kernel_rfl) (by kernel_rfl) (fun _ _ _ h => h) (Or.inl ⟨by rfl, ?_⟩) (by assumption) ?_
                    rotate_left 1
                    · intro wz sb
                      obtain ⟨y0, y1, y2, y3, y4, y5, y6⟩ := HX.out wz sb
                      go_simp
                      all_goals with_reducible rfl
                    simp only [Act.put, List.setIfInBounds_toArray, List.set_cons_zero, List.set_cons_succ, List.getElem_toArray, List.getElem_cons_zero, List.getElem_cons_succ]
                    refine wpAnyH_take (i := 15) (v := ?_) rfl (by kernel_rfl) (by kernel_rfl) (by kernel_rfl) (fun _ _ _ h => h) (Or.inl ⟨by rfl, ?_⟩) (by assumption) ?_
                    rotate_left 1
                    · intro wz sb
                      obtain ⟨y0, y1, y2, y3, y4, y5, y6⟩ := HX.out wz sb
                      go_simp
                      all_goals with_reducible rfl
                    simp only [Act.put, List.setIfInBounds_toArray, List.set_cons_zero, List.set_cons_succ, List.getElem_toArray, List.getElem_cons_zero, List.getElem_cons_succ]
                    refine wpAnyH_take (i := 16) (v := ?_) rfl (by kernel_rfl) (by kernel_rfl) (by kernel_rfl) (fun _ _ _ h => h) (Or.inl ⟨by rfl, ?_⟩) (by assumption) ?_
                    rotate_left 1
                    · intro wz sb
                      obtain ⟨y0, y1, y2, y3, y4, y5, y6⟩ := HX.out wz sb
                      go_simp
                      all_goals with_reducible rfl
                    simp only [Act.put, List.setIfInBounds_toArray, List.set_cons_zero, List.set_cons_succ, List.getElem_toArray, List.getElem_cons_zero, List.getElem_cons_succ]
                    refine wpAnyH_take (i := 17) (v := ?_) rfl (by kernel_rfl) (by kernel_rfl) (by kernel_rfl) (fun _ _ _ h => h) (Or.inl ⟨by rfl, ?_⟩) (by assumption) ?_
                    rotate_left 1
                    · intro wz sb
                      obtain ⟨y0, y1, y2, y3, y4, y5, y6⟩ := HX.out wz sb
                      go_simp
                      all_goals with_reducible rfl
                    simp only [Act.put, List.setIfInBounds_toArray, List.set_cons_zero, List.set_cons_succ, List.getElem_toArray, List.getElem_cons_zero, List.getElem_cons_succ]
                    refine wpAnyH_take (i := 18) (v := ?_) rfl (by kernel_rfl) (by kernel_rfl) (by kernel_rfl) (fun _ _ _ h => h) (Or.inl ⟨by rfl, ?_⟩) (by assumption) ?_
                    rotate_left 1
                    · intro wz sb
                      obtain ⟨y0, y1, y2, y3, y4, y5, y6⟩ := HX.out wz sb
                      go_simp
                      all_goals with_reducible rfl
                    simp only [Act.put, List.setIfInBounds_toArray, List.set_cons_zero, List.set_cons_succ, List.getElem_toArray, List.getElem_cons_zero, List.getElem_cons_succ]
                    refine wpAnyH_ready (rs := [19]) (by kernel_rfl) (by simp) (AllReadyH.cons rfl (fun K hK => ?_) AllReadyH.nil)
                    go_simp
                    refine (HWr.out _ (belJ HBV.out hHeld)).mono ?_
                    rintro e W3 ⟨rfl, hb3⟩
                    refine hK.out _ _ ?_ (fun hHeld => ?_)
                    · exact belJ hHeld hb3
                    clear hK K
                    by_cases hxo : (x : Int) ≤ onum
                    · have HE : Hid (f2 = 7) := by rw [HE2.out, if_pos hxo]; rfl
                      have dx : decide ((x : Int) ≤ onum) = true := decide_eq_true hxo
                      have HB3 := hideIt (belJ HB.out (belJ HBV.out hHeld))
                      refine wpAnyH_take (i := 20) (v := ?_) rfl (by kernel_rfl) (by kernel_rfl) (by kernel_rfl) (fun _ _ _ h => h) (Or.inl ⟨by rfl, ?_⟩) (by assumption) ?_
                      rotate_left 1
                      · intro wz sb
                        obtain ⟨y0, y1, y2, y3, y4, y5, y6⟩ := HX.out wz sb
                        go_simp
                        all_goals with_reducible rfl
                      simp only [Act.put, List.setIfInBounds_toArray, List.set_cons_zero, List.set_cons_succ, List.getElem_toArray, List.getElem_cons_zero, List.getElem_cons_succ]
                      refine wpAnyH_take (i := 21) (v := ?_) rfl (by kernel_rfl) (by kernel_rfl) (by kernel_rfl) (fun _ _ _ h => h) (Or.inl ⟨by rfl, ?_⟩) (by assumption) ?_
                      rotate_left 1
                      · intro wz sb
                        obtain ⟨y0, y1, y2, y3, y4, y5, y6⟩ := HX.out wz sb
                        go_simp
                        all_goals with_reducible rfl
                      simp only [Act.put, List.setIfInBounds_toArray, List.set_cons_zero, List.set_cons_succ, List.getElem_toArray, List.getElem_cons_zero, List.getElem_cons_succ]
                      refine wpAnyH_done (by kernel_rfl) ?_ _
                      go_wp2
                      go_ret
                      exact ⟨by rw [HRf.out (by rw [HE.out]; decide), HE.out]; rfl, HB3.out⟩
                    · have HE : Hid (f2 = 0) := by rw [HE2.out, if_neg hxo]; rfl
                      have dx : decide ((x : Int) ≤ onum) = false := decide_eq_false hxo
                      have HB3 := hideIt (belJ HBZ.out hHeld)
                      refine wpAnyH_take (i := 20) (v := ?_) rfl (by kernel_rfl) (by kernel_rfl) (by kernel_rfl) (fun _ _ _ h => h) (Or.inl ⟨by rfl, ?_⟩) (by assumption) ?_
                      rotate_left 1
                      · intro wz sb
                        obtain ⟨y0, y1, y2, y3, y4, y5, y6⟩ := HX.out wz sb
                        go_simp
                        all_goals with_reducible rfl
                      simp only [Act.put, List.setIfInBounds_toArray, List.set_cons_zero, List.set_cons_succ, List.getElem_toArray, List.getElem_cons_zero, List.getElem_cons_succ]
                      refine wpAnyH_take (i := 21) (v := ?_) rfl (by kernel_rfl) (by kernel_rfl) (by kernel_rfl) (fun _ _ _ h => h) (Or.inl ⟨by rfl, ?_⟩) (by assumption) ?_
                      rotate_left 1
                      · intro wz sb
                        obtain ⟨y0, y1, y2, y3, y4, y5, y6⟩ := HX.out wz sb
                        go_simp
                        all_goals with_reducible rfl
                      simp only [Act.put, List.setIfInBounds_toArray, List.set_cons_zero, List.set_cons_succ, List.getElem_toArray, List.getElem_cons_zero, List.getElem_cons_succ]
                      refine wpAnyH_done (by kernel_rfl) ?_ _
                      go_wp2
                      go_roundw
                      case rel => exact ⟨m + 1, by omega, by go_num, HZk.out HE.out, HB3.out⟩
                      case measure => simp [intOf]; omega
                · have hf0 : ofrm = 0 := Classical.byContradiction fun h => g1 (.inl ⟨rfl, .inl h⟩)
                  have hn2 : onum = 0 := Classical.byContradiction fun h => g1 (.inl ⟨rfl, .inr h⟩)
                  have HE3 : Hid (f2 = 0) := by rw [HE.out, if_neg (by simp)]; rfl
                  clear HE
                  have HE := HE3
                  have e1 : (onum != 0) = false := by simp [hn2]
                  have e2 : (ofrm != 0) = false := by simp [hf0]
                  have e3 : (ofrm == -1) = false := by simp [hf0]
                  clear g1 hf0 hn2 HE3
                  go_wp2_with fail
                  go_quiet (fail)
                  go_wp2
                  go_roundw
                  case rel => exact ⟨m + 1, by omega, by go_num, HZk.out HE.out, below_drewN HBZ.out _⟩
                  case measure => simp [intOf]; omega
              · have HE := hideIt (HXe.out fun j hj => HZ.out j hj (by omega))
                clear HXa HXe HO HZ
                go_wp2
                go_roundw
                case rel => exact ⟨k + 1, by omega, by go_num, HZk.out HE.out, belJ HBa.out HBz.out⟩
                case measure => simp [intOf]; omega
        · have HX : Hid (∀ j (h : j < s.txs.length), fltX s s.txs[j] = 0) := fun j hj => HZ.out j hj (by omega)
          have HKy := hideIt (HKy.out HX.out)
          have HOk := hideIt (HOk.out HX.out)
          have HOl : Hid (∀ k : Nat, k < 8 → k < s.ord.length) := fun k hk => by have := HOr.out; omega
          clear HTx HZ HX
          go_wp2
          go_loopw [115] (fun i wz => ∃ q : Nat, q ≤ 8 ∧ i = .int .i64 q ∧ (∀ j, j < q → fltK s j = 0) ∧ Below wr.heap.size wr wz) (fun i _ => 8 - (intOf i).toNat)
          case atStart => exact ⟨0, by omega, rfl, fun j hj => absurd hj (by omega), Below.refl _ _⟩
          case round =>
            obtain ⟨q, hq, rfl, hz, hb⟩ := hrel
            rename World => wz
            have HZ := hideIt hz
            have HBz := hideIt hb
            clear hz hb
            have HLr : Hid (w.heap.size < wr.heap.size) := World.block_lt_of_cell? wr _ e0
            have f0 := (HBz.out.cell (p := ⟨w.heap.size, 0, none⟩) HLr.out).trans e0
            have HBWz : Hid (Below W.heap.size W wz) := belJ HBw.out HBz.out
            have HBwz : Hid (Below w.heap.size w wz) := belJ HBwr.out HBz.out
            by_cases hq8 : q < 8
            · have hq8' : (q : Int) < s.ord.length := by have := HOr.out; omega
              have hqo := HOl.out q hq8
              have HF := hideIt (HKy.out q hq8 HZ.out)
              have HZk : Hid (fltK s q = 0 → ∀ j, j < q + 1 → fltK s j = 0) := fun h0 j hjk => by
                by_cases e : j = q
                · subst e; exact h0
                · exact HZ.out j (by omega)
              obtain ⟨gb, ob, eb, hgb, la, lc, l1, l2, l3, l4⟩ := (HS.out.below HBwz.out).row hqo
              have HL := hideIt l4
              have HAt : Hid (∀ k, k < (lstK s (q : Int)).length → (∀ j, j < k → fltE s q (lstK s q) j = 0) → fltE s q (lstK s q) k ≠ 0 → fltK s q = fltE s q (lstK s q) k) := fun k hk => fltK_at hk
              have HEnd : Hid ((∀ j, j < (lstK s (q : Int)).length → fltE s q (lstK s q) j = 0) → fltK s q = if cntK s q = (lstK s q).length then 0 else 3) := fltK_end
              have HLst := hideIt (lstK_at hqo)
              generalize s.ord[q] = L at *
              rw [HLst.out] at HAt HEnd
              clear HLst l4 hqo HKy HOk HZ
              rw [eb]
              rw [eb] at e1
              clear eb
              unfold maxLen at l3
              generalize fltK s q = fk at *
              go_wp2
              go_loopw [122] (fun i wy => ∃ p : Nat, p ≤ L.length ∧ i = .int .i64 p ∧ (∀ j, j < p → fltE s q L j = 0) ∧ Below wz.heap.size wz wy) (fun i _ => L.length - (intOf i).toNat)
              case atStart => exact ⟨0, by omega, rfl, fun j hj => absurd hj (by omega), Below.refl _ _⟩
              case round =>
                obtain ⟨p, hp, rfl, hz, hb⟩ := hrel
                rename World => wy
                have HZ := hideIt hz
                have HBy := hideIt hb
                clear hz hb
                have HLz : Hid (w.heap.size < wz.heap.size) := World.block_lt_of_cell? wz _ f0
                have h0 := (HBy.out.cell (p := ⟨w.heap.size, 0, none⟩) HLz.out).trans f0
                have HBWy : Hid (Below W.heap.size W wy) := belJ HBWz.out HBy.out
                have HBwy : Hid (Below w.heap.size w wy) := belJ HBwz.out HBy.out
                by_cases hpl : p < L.length
                · have hpl' : (p : Int) < L.length := by omega
                  have HRf : Hid (fltE s q L p ≠ 0 → R = fltE s q L p) := fun h0 => by
                    have e := HAt.out p hpl HZ.out h0
                    rw [← e]
                    exact HF.out (by rw [e]; exact h0)
                  have HZp : Hid (fltE s q L p = 0 → ∀ j, j < p + 1 → fltE s q L j = 0) := fun h0 j hjk => by
                    by_cases e : j = p
                    · subst e; exact h0
                    · exact HZ.out j (by omega)
                  have HR : Hid (fltE s q L p = if L[p] < 0 ∨ (s.txs.length : Int) ≤ L[p] then 2 else if comI s L[p] = false ∨ wroI s L[p] q = 0 then 8 else if L[p] ∈ L.take p then 9 else 0) := by
                    have e : L.getD p 0 = L[p] := by rw [List.getD_eq_getElem?_getD, List.getElem?_eq_getElem hpl]; rfl
                    show fltE s q L p = _
                    unfold fltE
                    rw [e]
                  have HCt : Hid (∀ Z, Below wz.heap.size wz Z → Calls Tryd.prog 21 #[.slice la p lc, .int .i64 L[p]] Z fun e w' => e = .returned (.int .i64 (idxN (L.take p) L[p])) ∧ w' = Z) := fun Z hZ => by
                    have hlen : (L.take p).length = p := by rw [List.length_take]; omega
                    have hq : IntsQ Z la (L.take p) := by
                      rcases HL.out.below hZ with h | ⟨g, o, rfl, hg, h⟩
                      · subst h; simp at hpl
                      · exact .inr ⟨g, o, rfl, hg, fun j hj => by rw [List.getElem_take]; exact h j (by rw [hlen] at hj; omega)⟩
                    have := dIndex_any (L.take p) (by rw [hlen]; unfold maxLen; omega) L[p] la lc Z hq
                    rw [hlen] at this
                    exact this
                  have HIx : Hid (decide (0 ≤ idxN (L.take p) L[p]) = decide (L[p] ∈ L.take p)) := idxN_ge
                  obtain ⟨g, o, rfl, hg, v0⟩ := (HL.out.below HBy.out).at hpl
                  generalize L[p] = x at *
                  generalize fltE s q L p = f at *
                  generalize idxN (L.take p) x = ix at *
                  clear HAt HEnd HZ HL HF
                  by_cases hx0 : x < 0
                  · have HE : Hid (f = 2) := by rw [HR.out, if_pos (.inl hx0)]; rfl
                    clear HR HCt
                    go_wp2
                    go_ret
                    exact ⟨by rw [HRf.out (by rw [HE.out]; decide), HE.out]; rfl, HBwy.out⟩
                  have d0 : decide (x < 0) = false := decide_eq_false hx0
                  by_cases hx1 : (s.txs.length : Int) ≤ x
                  · have HE : Hid (f = 2) := by rw [HR.out, if_pos (.inr hx1)]; rfl
                    have d1 : decide ((s.txs.length : Int) ≤ x) = true := decide_eq_true hx1
                    clear HR HCt
                    go_wp2
                    go_ret
                    exact ⟨by rw [HRf.out (by rw [HE.out]; decide), HE.out]; rfl, HBwy.out⟩
                  have d1 : decide ((s.txs.length : Int) ≤ x) = false := decide_eq_false hx1
                  obtain ⟨t, rfl⟩ := Int.eq_ofNat_of_zero_le (show 0 ≤ x by omega)
                  obtain ⟨gx, ox, oa2, oc2, ea2, hgx, x1, x2, hwr⟩ := HW.out wy HBWy.out t (by omega) q
                  subst ea2
                  have HWr := hideIt (hwr wy HBWy.out)
                  have HR2 : Hid (f = if comI s t = false ∨ wroI s t q = 0 then 8 else if (t : Int) ∈ L.take p then 9 else 0) := by rw [HR.out, if_neg (by omega)]; rfl
                  clear HR hwr
                  have ht' : (t : Int) < s.txs.length := by omega
                  generalize (txI s (t : Int)).ops.length = nl at *
                  generalize wroI s (t : Int) (q : Int) = y at *
                  cases hcm : comI s (t : Int)
                  · rw [hcm] at x2
                    have HE : Hid (f = 8) := by rw [HR2.out, if_pos (.inl hcm)]; rfl
                    clear HR2 HCt HWr hcm
                    go_wp2
                    go_ret
                    exact ⟨by rw [HRf.out (by rw [HE.out]; decide), HE.out]; rfl, HBwy.out⟩
                  · rw [hcm] at x2 HWr
                    rw [hcm] at HR2
                    clear hcm
                    go_wp2_with fail
                    refine HWr.out.mono ?_
                    rintro e w1 ⟨rfl, hb1⟩
                    have HB1 := hideIt (belJ HBy.out hb1)
                    have HBw1 := hideIt (belJ HBwy.out hb1)
                    clear hb1 HWr x1 x2 h0 v0
                    by_cases hy : y = 0
                    · have HE : Hid (f = 8) := by rw [HR2.out, if_pos (.inr hy)]; rfl
                      have dy : ((y : Int) == 0) = true := by simp [hy]
                      clear HR2 HCt hy
                      go_wp2
                      go_ret
                      exact ⟨by rw [HRf.out (by rw [HE.out]; decide), HE.out]; rfl, HBw1.out⟩
                    · have dy : ((y : Int) == 0) = false := by simp [hy]
                      have HR3 : Hid (f = if (t : Int) ∈ L.take p then 9 else 0) := by rw [HR2.out, if_neg (by simp [hy])]; rfl
                      have HC1 := hideIt (HCt.out w1 HB1.out)
                      clear HR2 HCt hy
                      have hkc : (p : Int) ≤ lc := by omega
                      go_wp2_with fail
                      refine HC1.out.mono ?_
                      rintro e w2 ⟨rfl, rfl⟩
                      clear HC1
                      by_cases hm9 : (t : Int) ∈ L.take p
                      · have HE : Hid (f = 9) := by rw [HR3.out, if_pos hm9]; rfl
                        have di : decide (0 ≤ ix) = true := by rw [HIx.out]; exact decide_eq_true hm9
                        clear HR3 hm9 HIx
                        go_wp2
                        go_ret
                        exact ⟨by rw [HRf.out (by rw [HE.out]; decide), HE.out]; rfl, HBw1.out⟩
                      · have HE : Hid (f = 0) := by rw [HR3.out, if_neg hm9]; rfl
                        have di : decide (0 ≤ ix) = false := by rw [HIx.out]; exact decide_eq_false hm9
                        clear HR3 hm9 HIx
                        go_wp2
                        go_roundw
                        case rel => exact ⟨p + 1, by omega, by go_num, HZp.out HE.out, HB1.out⟩
                        case measure => simp [intOf]; omega
                · have HE := hideIt (HEnd.out fun j hj => HZ.out j (by omega))
                  clear HAt HEnd HZ HL
                  go_wp2
                  go_loopw [11, 163] (fun c i wx => ∃ n : Nat, n ≤ s.txs.length ∧ i = .int .i64 n ∧ c = .int .i64 (makN s q n : Nat) ∧ Below wy.heap.size wy wx) (fun _ i _ => s.txs.length - (intOf i).toNat)
                  case atStart => exact ⟨0, by omega, rfl, rfl, Below.refl _ _⟩
                  case round =>
                    obtain ⟨n, hn, rfl, rfl, hb⟩ := hrel
                    rename World => wx
                    have HBx := hideIt hb
                    clear hb
                    have hle := makN_le s q n
                    by_cases hnl : n < s.txs.length
                    · have hnl' : (n : Int) < s.txs.length := by omega
                      have HBWx : Hid (Below W.heap.size W wx) := belJ HBWy.out HBx.out
                      obtain ⟨gx, ox, oa2, oc2, ea2, hgx, x1, x2, hwr⟩ := HW.out wx HBWx.out n hnl q
                      have HSu := hideIt (makN_succ s q n)
                      have HMk : Hid (makB s q n = (comI s n && decide (0 < wroI s n q))) := rfl
                      rw [HMk.out] at HSu
                      subst ea2
                      generalize (txI s (n : Int)).ops.length = nl at *
                      generalize wroI s (n : Int) (q : Int) = y at *
                      have HWr := hideIt (hwr _ (belA HBWx.out (.cells #[.slice oa2 nl oc2, .bool (comI s n)] 62)))
                      have HBx1 := hideIt (belA HBx.out (.cells #[.slice oa2 nl oc2, .bool (comI s n)] 62))
                      clear hwr HMk
                      cases hcm : comI s (n : Int)
                      · rw [hcm] at x2 HSu HBx1
                        clear HWr hcm
                        go_wp2
                        go_roundw
                        case rel => exact ⟨n + 1, by omega, by go_num, by rw [HSu.out]; rfl, HBx1.out⟩
                        case measure => simp [intOf]; omega
                      · rw [hcm] at x2 HSu HBx1 HWr
                        clear hcm
                        go_wp2_with fail
                        refine HWr.out.mono ?_
                        rintro e w1 ⟨rfl, hb1⟩
                        have HB1 := hideIt (belJ HBx1.out hb1)
                        clear hb1 HWr x1 x2
                        by_cases hy : 0 < y
                        · have dy : decide (0 < (y : Int)) = true := decide_eq_true (by omega)
                          rw [decide_eq_true hy] at HSu
                          go_wp2
                          go_roundw
                          case rel => exact ⟨n + 1, by omega, by go_num, by rw [HSu.out]; rfl, HB1.out⟩
                          case measure => simp [intOf]; omega
                        · have dy : decide (0 < (y : Int)) = false := decide_eq_false (by omega)
                          rw [decide_eq_false hy] at HSu
                          go_wp2
                          go_roundw
                          case rel => exact ⟨n + 1, by omega, by go_num, by rw [HSu.out]; rfl, HB1.out⟩
                          case measure => simp [intOf]; omega
                    · obtain rfl : n = s.txs.length := by omega
                      rw [makN_all] at hle ⊢
                      have HBE := hideIt (belJ HBwy.out HBx.out)
                      have HBF := hideIt (belJ (belJ HBz.out HBy.out) HBx.out)
                      by_cases hcl : cntK s q = L.length
                      · have e1 : ((cntK s q : Int) != (L.length : Int)) = false := by rw [hcl]; simp
                        have HE2 : Hid (fk = 0) := by rw [HE.out, if_pos hcl]; rfl
                        clear HE hcl
                        generalize cntK s q = cq at *
                        go_wp2
                        go_roundw
                        case rel => exact ⟨q + 1, by omega, by go_num, HZk.out HE2.out, HBF.out⟩
                        case measure => simp [intOf]; omega
                      · have e1 : ((cntK s q : Int) != (L.length : Int)) = true := by simp; omega
                        have HE2 : Hid (fk = 3) := by rw [HE.out, if_neg hcl]; rfl
                        clear HE hcl
                        generalize cntK s q = cq at *
                        go_wp2
                        go_ret
                        exact ⟨by rw [HF.out (by rw [HE2.out]; decide), HE2.out]; rfl, HBE.out⟩
            · have HE := hideIt (HOk.out fun j hj => HZ.out j (by omega))
              have hq8' : ¬ (q : Int) < s.ord.length := by have := HOr.out; omega
              clear HKy HOk HZ
              go_wp2
              go_ret
              exact ⟨by rw [HE.out]; rfl, HBwz.out⟩
    · have hb8 : ((s.ord.length : Int) != 8) = true := by simp; omega
      have HE : Hid (fltI s = 3) := by unfold fltI; rw [if_neg h8, if_pos hor]; rfl
      go_wp2
      go_ret
      exact ⟨by rw [HE.out]; rfl, HB.out⟩
end Go.Proofs.YtodanhjookgbeaaDoor
