/-
  The document's wrote, walked.
  The document's points, walked.
-/
import Derived.Test.YtaopigjhdkdklaaDoorIvW
import Derived.Test.YtaopigjhdkdklaaDoorWalkB
import Derived.Deep.RegionHeld3
import Derived.Test.YtaopigjhdkdklaaDoorDbMZ
import Derived.BigQuiet
namespace Go.Proofs.YtaopigjhdkdklaaDoor
open Go.RowKit

set_option maxRecDepth 100000 in
set_option maxHeartbeats 1000000 in
theorem wrote_any (ops : List IOp) (c : Bool) (key : Int) (a : Option Addr) (cap : Nat) (w : World) (hm : ops.length ≤ maxLen) (h : IOpsQ w a ops) :
    Calls Tryd.prog 28 #[.agg #[.slice a ops.length cap, .bool c], .int .i64 key] w fun e w' => e = .returned (.int .i64 (wroT ⟨ops, c⟩ key : Nat)) ∧ Below w.heap.size w w' := by
  have HO := hideIt h
  have HB : Hid (Below w.heap.size w (w.alloc (.cells #[.slice a ops.length cap, .bool c] 90))) := belA (Below.refl _ _) _
  have HN : Hid (∀ k (hk : k < ops.length), wroT ⟨ops.take (k + 1), c⟩ key = wroT ⟨ops.take k, c⟩ key + if ops[k].wr && ops[k].key == key then 1 else 0) := fun k hk => by
    unfold wroT
    dsimp only
    rw [List.take_add_one, List.countP_append, List.getElem?_eq_getElem hk]
    simp
  have HLe : Hid (∀ k, wroT ⟨ops.take k, c⟩ key ≤ k) := fun k => by
    unfold wroT
    exact Nat.le_trans (List.countP_le_length) (by simp; omega)
  have HE : Hid (wroT ⟨ops.take ops.length, c⟩ key = wroT ⟨ops, c⟩ key) := by
    show _ = _
    rw [List.take_length]
  have H0 : Hid (wroT ⟨ops.take 0, c⟩ key = 0) := by simp [Hid, wroT]
  generalize wroT ⟨ops, c⟩ key = R at *
  generalize hF : (fun k => wroT ⟨ops.take k, c⟩ key) = F
  have hF' : ∀ k, wroT ⟨ops.take k, c⟩ key = F k := fun k => by rw [← hF]
  simp only [hF'] at HN HLe HE H0
  clear hF hF' h
  unfold maxLen at hm
  go_enter Tryd.func28, Tryd.ntmps28
  go_wp2
  generalize hW : w.alloc _ = W at HB ⊢
  clear hW
  go_loopw [5, 11] (fun x v wr => ∃ k : Nat, k ≤ ops.length ∧ v = .int .i64 k ∧ x = .int .i64 (F k : Nat) ∧ Below w.heap.size w wr) (fun _ v _ => ops.length - (intOf v).toNat)
  case atStart => exact ⟨0, Nat.zero_le _, rfl, by rw [H0.out]; rfl, HB.out⟩
  case round =>
    obtain ⟨k, hk, rfl, rfl, hb⟩ := hrel
    have HBw := hideIt hb
    clear hb
    by_cases hkn : k < ops.length
    · obtain ⟨g, off, rfl, hg, p1, p2, p3, p4⟩ := (HO.out.below HBw.out).at hkn
      have hkn' : (k : Int) < ops.length := by omega
      have HNk := hideIt (HN.out k hkn)
      have hle := HLe.out k
      generalize ops[k] = o at *
      obtain ⟨owr, okey, ofrm, onum⟩ := o
      have HBZ := hideIt (belA HBw.out (.cells #[.bool owr, .int .i64 okey, .int .i64 ofrm, .int .i64 onum] 91))
      dsimp only at *
      cases owr
      · have HE := hideIt (show F (k + 1) = F k by rw [HNk.out]; simp)
        go_wp2
        go_roundw
        case rel => exact ⟨k + 1, by omega, by go_num, by rw [HE.out], HBZ.out⟩
        case measure => simp [intOf]; omega
      · by_cases e : okey = key
        · have HE := hideIt (show F (k + 1) = F k + 1 by rw [HNk.out]; simp [e])
          have he : (okey == key) = true := by simp [e]
          clear e
          generalize F k = x at *
          go_wp2
          go_roundw
          case rel => exact ⟨k + 1, by omega, by go_num, by rw [HE.out]; go_num, HBZ.out⟩
          case measure => simp [intOf]; omega
        · have HE := hideIt (show F (k + 1) = F k by rw [HNk.out]; simp [e])
          have he : (okey == key) = false := by simp [e]
          clear e
          go_wp2
          go_roundw
          case rel => exact ⟨k + 1, by omega, by go_num, by rw [HE.out], HBZ.out⟩
          case measure => simp [intOf]; omega
    · obtain rfl : k = ops.length := by omega
      go_wp2
      go_ret
      exact ⟨by rw [HE.out]; rfl, HBw.out⟩
end Go.Proofs.YtaopigjhdkdklaaDoor

namespace Go.Proofs.YtaopigjhdkdklaaDoor
open Go.RowKit

theorem wro_wrN (ops : List IOp) (c : Bool) (key : Int) : wroT ⟨ops, c⟩ key = wrN ops key := rfl
/-- Of the first ops of one, some one reads what another one makes anew. -/
def pfB (st : MvS) (i j k : Nat) : Bool := ((st.ops i).take k).any fun o => !o.wr && decide (o.frm ≠ (i : Int)) && decide (0 < wrN (st.ops j) o.key)
theorem pfB_succ {st : MvS} {i j k : Nat} (hk : k < (st.ops i).length) : pfB st i j (k + 1) = (pfB st i j k || (!(st.ops i)[k].wr && decide ((st.ops i)[k].frm ≠ (i : Int)) && decide (0 < wrN (st.ops j) (st.ops i)[k].key))) := by
  unfold pfB
  rw [List.take_add_one, List.getElem?_eq_getElem hk, List.any_append]
  simp
theorem pfB_end {st : MvS} {en : Nat → Int} {i j : Nat} (h0 : i ≠ j) (h1 : ¬ en i < 0) (h2 : ¬ en j < 0) (h3 : ¬ en i < st.bg j) (h4 : ¬ en j < st.bg i) : pfB st i j (st.ops i).length = ptsB st en i j := by
  unfold pfB ptsB
  rw [List.take_length, decide_eq_true h0, decide_eq_true (show 0 ≤ en i by omega), decide_eq_true (show 0 ≤ en j by omega), decide_eq_true (show st.bg j ≤ en i by omega), decide_eq_true (show st.bg i ≤ en j by omega)]
  rfl
theorem pfB_true {st : MvS} {i j k : Nat} (h : pfB st i j (k + 1) = true) : pfB st i j (st.ops i).length = true := by
  unfold pfB at *
  rw [List.any_eq_true] at *
  obtain ⟨o, ho, h⟩ := h
  exact ⟨o, by rw [List.take_length]; exact List.mem_of_mem_take ho, h⟩
/-- wrote at one of the base's. -/
theorem DocB.wrote {w0 W : World} {k : DbK} {c : Bool} {n : Nat} {st : MvS} (h : DocB w0 W k c n st) (hl : ∀ t, (st.ops t).length ≤ 60) {t : Nat} (ht : t < n) (key : Int) : ∃ a cap, W.cell? ⟨k.T, t * 2, none⟩ = some (.slice a (st.ops t).length cap) ∧ W.cell? ⟨k.T, t * 2 + 1, none⟩ = some (.bool (st.com t)) ∧ (st.ops t).length ≤ cap ∧ IOpsQ W a (st.ops t) ∧ ∀ Z, Below W.heap.size W Z → Calls Tryd.prog 28 #[.agg #[.slice a (st.ops t).length cap, .bool (st.com t)], .int .i64 key] Z fun e w' => e = .returned (.int .i64 (wrN (st.ops t) key : Nat)) ∧ Below Z.heap.size Z w' := by
  obtain ⟨h1, h2, h3⟩ := h.tx t ht
  obtain ⟨a, cap, e, hc, hq⟩ := opR_q h3
  refine ⟨a, cap, by rw [h1, e], h2, hc, hq, fun Z hZ => ?_⟩
  have := wrote_any (st.ops t) (st.com t) key a cap Z (by have := hl t; unfold maxLen; omega) (hq.below hZ)
  rw [wro_wrN] at this
  exact this

set_option maxRecDepth 100000 in
set_option maxHeartbeats 4000000 in
theorem points_any {w0 W : World} {k : DbK} {c : Bool} {n : Nat} {st : MvS} (h : DocB w0 W k c n st) (hl : ∀ t, (st.ops t).length ≤ 60) (en : Nat → Int) {base : Nat} {ve : Value} (hve : W.ownsRow base 3 1 ve n (timC n en)) {i j : Nat} (hi : i < n) (hj : j < n) :
    Calls Tryd.prog 59 #[.pointer (some ⟨k.B, 0, none⟩), .int .i64 (i : Int), .int .i64 (j : Int), ve] W fun e W' => e = .returned (.bool (ptsB st en i j)) ∧ Below W.heap.size W W' := by
  obtain ⟨_, c1, _, c3, _, _, _⟩ := h.cells
  obtain ⟨ab, cb, evb, hcb, hb⟩ := tim_at h.bg
  obtain ⟨ae, ce, rfl, hce, he⟩ := tim_at hve
  obtain ⟨gb, rfl, _, b1⟩ := hb i hi
  obtain ⟨gb', e, _, b2⟩ := hb j hj
  obtain rfl : gb = gb' := by simpa using e
  obtain ⟨ge, rfl, _, e1⟩ := he i hi
  obtain ⟨ge', e', _, e2⟩ := he j hj
  obtain rfl : ge = ge' := by simpa using e'
  rw [evb] at c3
  have hi' : (i : Int) < (n : Int) := by omega
  have hj' : (j : Int) < (n : Int) := by omega
  obtain ⟨oa, ocp, t1, _, hoc, hoq, _⟩ := h.wrote hl hi 0
  have HWr := hideIt (fun key : Int => h.wrote hl hj key)
  have HOq := hideIt hoq
  have hol := hl i
  have HSz : Hid (k.B < W.heap.size ∧ k.T < W.heap.size) := ⟨World.block_lt_of_cell? W _ c1, World.block_lt_of_cell? W _ t1⟩
  clear e e' hb he evb h hve hoq hl
  by_cases g0 : i = j
  · have d0 : ((i : Int) == (j : Int)) = true := by simp [g0]
    have hE : ptsB st en i j = false := by
      unfold ptsB
      rw [decide_eq_false (show ¬ i ≠ j from fun h => h g0)]; rfl
    have HE := hideIt hE
    clear hE
    go_enter Tryd.func59, Tryd.ntmps59
    go_wp2_with fail
    go_quiet (fail)
    go_wp2
    go_ret
    exact ⟨by rw [HE.out]; rfl, by repeat (first | exact Below.refl _ _ | refine Below.drew ?_ | exact below_drewN (Below.refl _ _) _)⟩
  have d0 : ((i : Int) == (j : Int)) = false := by rw [beq_eq_false_iff_ne]; omega
  by_cases g1 : en i < 0
  · have dg1 : decide (en i < 0) = true := decide_eq_true g1
    have hE : ptsB st en i j = false := by
      unfold ptsB
      rw [decide_eq_false (show ¬ 0 ≤ en i by omega)]; simp
    have HE := hideIt hE
    clear hE
    go_enter Tryd.func59, Tryd.ntmps59
    go_wp2_with fail
    go_quiet (fail)
    go_wp2
    go_ret
    exact ⟨by rw [HE.out]; rfl, by repeat (first | exact Below.refl _ _ | refine Below.drew ?_ | exact below_drewN (Below.refl _ _) _)⟩
  have dg1 : decide (en i < 0) = false := decide_eq_false g1
  by_cases g2 : en j < 0
  · have dg2 : decide (en j < 0) = true := decide_eq_true g2
    have hE : ptsB st en i j = false := by
      unfold ptsB
      rw [decide_eq_false (show ¬ 0 ≤ en j by omega)]; simp
    have HE := hideIt hE
    clear hE
    go_enter Tryd.func59, Tryd.ntmps59
    go_wp2_with fail
    go_quiet (fail)
    go_wp2
    go_ret
    exact ⟨by rw [HE.out]; rfl, by repeat (first | exact Below.refl _ _ | refine Below.drew ?_ | exact below_drewN (Below.refl _ _) _)⟩
  have dg2 : decide (en j < 0) = false := decide_eq_false g2
  by_cases g3 : en i < st.bg j
  · have dg3 : decide (en i < st.bg j) = true := decide_eq_true g3
    have hE : ptsB st en i j = false := by
      unfold ptsB
      rw [decide_eq_false (show ¬ st.bg j ≤ en i by omega)]; simp
    have HE := hideIt hE
    clear hE
    go_enter Tryd.func59, Tryd.ntmps59
    go_wp2_with fail
    go_quiet (fail)
    go_wp2
    go_ret
    exact ⟨by rw [HE.out]; rfl, by repeat (first | exact Below.refl _ _ | refine Below.drew ?_ | exact below_drewN (Below.refl _ _) _)⟩
  have dg3 : decide (en i < st.bg j) = false := decide_eq_false g3
  by_cases g4 : en j < st.bg i
  · have dg4 : decide (en j < st.bg i) = true := decide_eq_true g4
    have hE : ptsB st en i j = false := by
      unfold ptsB
      rw [decide_eq_false (show ¬ st.bg i ≤ en j by omega)]; simp
    have HE := hideIt hE
    clear hE
    go_enter Tryd.func59, Tryd.ntmps59
    go_wp2_with fail
    go_quiet (fail)
    go_wp2
    go_ret
    exact ⟨by rw [HE.out]; rfl, by repeat (first | exact Below.refl _ _ | refine Below.drew ?_ | exact below_drewN (Below.refl _ _) _)⟩
  have dg4 : decide (en j < st.bg i) = false := decide_eq_false g4
  have HE := hideIt (pfB_end (st := st) (en := en) g0 g1 g2 g3 g4)
  have HS := hideIt (fun m hm => pfB_succ (st := st) (i := i) (j := j) (k := m) hm)
  have HT := hideIt (fun m => pfB_true (st := st) (i := i) (j := j) (k := m))
  have H0 : Hid (pfB st i j 0 = false) := by simp [Hid, pfB]
  generalize ptsB st en i j = R at *
  generalize pfB st i j = F at *
  go_enter Tryd.func59, Tryd.ntmps59
  go_wp2_with fail
  go_quiet (fail)
  go_upto_region 4 with fail
  clear e1 e2 b1 b2 d0 dg1 dg2 dg3 dg4 g1 g2 g3 g4 c3
  go_loopw [66] (fun v wr => ∃ m : Nat, m ≤ (st.ops i).length ∧ v = .int .i64 m ∧ F m = false ∧ Below W.heap.size W wr) (fun v _ => (st.ops i).length - (intOf v).toNat)
  case atStart => exact ⟨0, Nat.zero_le _, rfl, H0.out, below_drewN (Below.refl _ _) _⟩
  case round =>
    obtain ⟨m, hm, rfl, hf, hb⟩ := hrel
    have HBw := hideIt hb
    have HF := hideIt hf
    clear hb hf H0
    by_cases hml : m < (st.ops i).length
    · have hml' : (m : Int) < (st.ops i).length := by omega
      obtain ⟨g, off, rfl, hg, p1, p2, p3, p4⟩ := (HOq.out.below HBw.out).at hml
      have HSm := hideIt (HS.out m hml)
      have HTm := hideIt (HT.out m)
      rw [HF.out] at HSm
      generalize (st.ops i)[m] = o at *
      obtain ⟨owr, okey, ofrm, onum⟩ := o
      dsimp only at p1 p2 p3 p4 HSm
      have HBV := hideIt (belA HBw.out (.cells #[.bool owr, .int .i64 okey, .int .i64 ofrm, .int .i64 onum] 91))
      have q0 : (wr.alloc (.cells #[.bool owr, .int .i64 okey, .int .i64 ofrm, .int .i64 onum] 91)).cell? ⟨wr.heap.size, 0, none⟩ = some (.bool owr) := by simp
      have q1 : (wr.alloc (.cells #[.bool owr, .int .i64 okey, .int .i64 ofrm, .int .i64 onum] 91)).cell? ⟨wr.heap.size, 1, none⟩ = some (.int .i64 okey) := by simp
      have q2 : (wr.alloc (.cells #[.bool owr, .int .i64 okey, .int .i64 ofrm, .int .i64 onum] 91)).cell? ⟨wr.heap.size, 2, none⟩ = some (.int .i64 ofrm) := by simp
      go_upto_region 6 with fail
      generalize (wr.alloc _) = V at HBV q0 q1 q2 ⊢
      clear p1 p2 p3 p4
      generalize wr.heap.size = Bo at *
      cases owr
      rotate_left 1
      · have HEq : Hid (F (m + 1) = false) := by rw [HSm.out]; rfl
        go_wp2_with fail
        go_quiet (fail)
        go_wp2
        go_roundw
        case rel => exact ⟨m + 1, by omega, by go_num, HEq.out, below_drewN HBV.out _⟩
        case measure => simp [intOf]; omega
      by_cases hfi : ofrm = (i : Int)
      · have HEq := hideIt (show F (m + 1) = false by rw [HSm.out, hfi]; simp)
        have e2 : (ofrm != (i : Int)) = false := by rw [hfi]; simp
        clear hfi
        go_wp2_with fail
        go_quiet (fail)
        go_wp2
        go_roundw
        case rel => exact ⟨m + 1, by omega, by go_num, HEq.out, below_drewN HBV.out _⟩
        case measure => simp [intOf]; omega
      have e2 : (ofrm != (i : Int)) = true := by rw [bne_iff_ne]; exact hfi
      have HEq := hideIt (show F (m + 1) = decide (0 < wrN (st.ops j) okey) by rw [HSm.out]; simp [hfi])
      obtain ⟨a2, cp2, x1, x2, _, _, hwr⟩ := HWr.out okey
      have HW2 := hideIt hwr
      have HX : Hid (∀ Z, Below V.heap.size V Z → Z.cell? ⟨k.B, 1, none⟩ = some (.slice (some ⟨k.T, 0, none⟩) n n) ∧ Z.cell? ⟨Bo, 0, none⟩ = some (.bool false) ∧ Z.cell? ⟨Bo, 1, none⟩ = some (.int .i64 okey) ∧ Z.cell? ⟨Bo, 2, none⟩ = some (.int .i64 ofrm) ∧ Z.cell? ⟨k.T, j * 2, none⟩ = some (.slice a2 (st.ops j).length cp2) ∧ Z.cell? ⟨k.T, j * 2 + 1, none⟩ = some (.bool (st.com j))) := fun Z hZ => by
        have hZ' := belJ HBV.out hZ
        have hb := World.block_lt_of_cell? V _ q0
        exact ⟨(hZ'.cell (p := ⟨k.B, 1, none⟩) HSz.out.1).trans c1, (hZ.cell (p := ⟨Bo, 0, none⟩) hb).trans q0, (hZ.cell (p := ⟨Bo, 1, none⟩) hb).trans q1, (hZ.cell (p := ⟨Bo, 2, none⟩) hb).trans q2, (hZ'.cell (p := ⟨k.T, j * 2, none⟩) HSz.out.2).trans x1, (hZ'.cell (p := ⟨k.T, j * 2 + 1, none⟩) HSz.out.2).trans x2⟩
      generalize (st.ops j).length = nl at *
      generalize st.com j = cm at *
      generalize wrN (st.ops j) okey = x at *
      clear q0 q1 q2 x1 x2 hfi hwr HSm t1 c1
      refine wp_region_held_drew (S := (fun w' => Below V.heap.size V w')) (by kernel_rfl) (Below.refl _ _).drew (fun hHeld => ?_)
      refine wpAnyH_take (i := 0) (v := ?_) rfl (by kernel_rfl) (by kernel_rfl) (by kernel_rfl) (fun _ _ _ h => h) (Or.inl ⟨by rfl, ?_⟩) (by assumption) ?_
      rotate_left 1
      · intro wz sb
        obtain ⟨y0, y1, y2, y3, y4, y5⟩ := HX.out wz sb
        go_simp
        all_goals with_reducible rfl
      simp only [Act.put, List.setIfInBounds_toArray, List.set_cons_zero, List.set_cons_succ, List.getElem_toArray, List.getElem_cons_zero]
      refine wpAnyH_take (i := 1) (v := ?_) rfl (by kernel_rfl) (by kernel_rfl) (by kernel_rfl) (fun _ _ _ h => h) (Or.inl ⟨by rfl, ?_⟩) (by assumption) ?_
      rotate_left 1
      · intro wz sb
        obtain ⟨y0, y1, y2, y3, y4, y5⟩ := HX.out wz sb
        go_simp
        all_goals with_reducible rfl
      simp only [Act.put, List.setIfInBounds_toArray, List.set_cons_zero, List.set_cons_succ, List.getElem_toArray, List.getElem_cons_zero, List.getElem_cons_succ]
      refine wpAnyH_take (i := 2) (v := ?_) rfl (by kernel_rfl) (by kernel_rfl) (by kernel_rfl) (fun _ _ _ h => h) (Or.inl ⟨by rfl, ?_⟩) (by assumption) ?_
      rotate_left 1
      · intro wz sb
        obtain ⟨y0, y1, y2, y3, y4, y5⟩ := HX.out wz sb
        go_simp
        all_goals with_reducible rfl
      simp only [Act.put, List.setIfInBounds_toArray, List.set_cons_zero, List.set_cons_succ, List.getElem_toArray, List.getElem_cons_zero, List.getElem_cons_succ]
      refine wpAnyH_take (i := 3) (v := ?_) rfl (by kernel_rfl) (by kernel_rfl) (by kernel_rfl) (fun _ _ _ h => h) (Or.inl ⟨by rfl, ?_⟩) (by assumption) ?_
      rotate_left 1
      · intro wz sb
        obtain ⟨y0, y1, y2, y3, y4, y5⟩ := HX.out wz sb
        go_simp
        all_goals with_reducible rfl
      simp only [Act.put, List.setIfInBounds_toArray, List.set_cons_zero, List.set_cons_succ, List.getElem_toArray, List.getElem_cons_zero, List.getElem_cons_succ]
      refine wpAnyH_take (i := 4) (v := ?_) rfl (by kernel_rfl) (by kernel_rfl) (by kernel_rfl) (fun _ _ _ h => h) (Or.inl ⟨by rfl, ?_⟩) (by assumption) ?_
      rotate_left 1
      · intro wz sb
        obtain ⟨y0, y1, y2, y3, y4, y5⟩ := HX.out wz sb
        go_simp
        all_goals with_reducible rfl
      simp only [Act.put, List.setIfInBounds_toArray, List.set_cons_zero, List.set_cons_succ, List.getElem_toArray, List.getElem_cons_zero, List.getElem_cons_succ]
      refine wpAnyH_take (i := 5) (v := ?_) rfl (by kernel_rfl) (by kernel_rfl) (by kernel_rfl) (fun _ _ _ h => h) (Or.inl ⟨by rfl, ?_⟩) (by assumption) ?_
      rotate_left 1
      · intro wz sb
        obtain ⟨y0, y1, y2, y3, y4, y5⟩ := HX.out wz sb
        go_simp
        all_goals with_reducible rfl
      simp only [Act.put, List.setIfInBounds_toArray, List.set_cons_zero, List.set_cons_succ, List.getElem_toArray, List.getElem_cons_zero, List.getElem_cons_succ]
      refine wpAnyH_take (i := 6) (v := ?_) rfl (by kernel_rfl) (by kernel_rfl) (by kernel_rfl) (fun _ _ _ h => h) (Or.inl ⟨by rfl, ?_⟩) (by assumption) ?_
      rotate_left 1
      · intro wz sb
        obtain ⟨y0, y1, y2, y3, y4, y5⟩ := HX.out wz sb
        go_simp
        all_goals with_reducible rfl
      simp only [Act.put, List.setIfInBounds_toArray, List.set_cons_zero, List.set_cons_succ, List.getElem_toArray, List.getElem_cons_zero, List.getElem_cons_succ]
      refine wpAnyH_take (i := 7) (v := ?_) rfl (by kernel_rfl) (by kernel_rfl) (by kernel_rfl) (fun _ _ _ h => h) (Or.inl ⟨by rfl, ?_⟩) (by assumption) ?_
      rotate_left 1
      · intro wz sb
        obtain ⟨y0, y1, y2, y3, y4, y5⟩ := HX.out wz sb
        go_simp
        all_goals with_reducible rfl
      simp only [Act.put, List.setIfInBounds_toArray, List.set_cons_zero, List.set_cons_succ, List.getElem_toArray, List.getElem_cons_zero, List.getElem_cons_succ]
      refine wpAnyH_take (i := 8) (v := ?_) rfl (by kernel_rfl) (by kernel_rfl) (by kernel_rfl) (fun _ _ _ h => h) (Or.inl ⟨by rfl, ?_⟩) (by assumption) ?_
      rotate_left 1
      · intro wz sb
        obtain ⟨y0, y1, y2, y3, y4, y5⟩ := HX.out wz sb
        go_simp
        all_goals with_reducible rfl
      simp only [Act.put, List.setIfInBounds_toArray, List.set_cons_zero, List.set_cons_succ, List.getElem_toArray, List.getElem_cons_zero, List.getElem_cons_succ]
      refine wpAnyH_take (i := 9) (v := ?_) rfl (by kernel_rfl) (by kernel_rfl) (by kernel_rfl) (fun _ _ _ h => h) (Or.inl ⟨by rfl, ?_⟩) (by assumption) ?_
      rotate_left 1
      · intro wz sb
        obtain ⟨y0, y1, y2, y3, y4, y5⟩ := HX.out wz sb
        go_simp
        all_goals with_reducible rfl
      simp only [Act.put, List.setIfInBounds_toArray, List.set_cons_zero, List.set_cons_succ, List.getElem_toArray, List.getElem_cons_zero, List.getElem_cons_succ]
      refine wpAnyH_take (i := 10) (v := ?_) rfl (by kernel_rfl) (by kernel_rfl) (by kernel_rfl) (fun _ _ _ h => h) (Or.inl ⟨by rfl, ?_⟩) (by assumption) ?_
      rotate_left 1
      · intro wz sb
        obtain ⟨y0, y1, y2, y3, y4, y5⟩ := HX.out wz sb
        go_simp
        all_goals with_reducible rfl
      simp only [Act.put, List.setIfInBounds_toArray, List.set_cons_zero, List.set_cons_succ, List.getElem_toArray, List.getElem_cons_zero, List.getElem_cons_succ]
      refine wpAnyH_take (i := 11) (v := ?_) rfl (by kernel_rfl) (by kernel_rfl) (by kernel_rfl) (fun _ _ _ h => h) (Or.inl ⟨by rfl, ?_⟩) (by assumption) ?_
      rotate_left 1
      · intro wz sb
        obtain ⟨y0, y1, y2, y3, y4, y5⟩ := HX.out wz sb
        go_simp
        all_goals with_reducible rfl
      simp only [Act.put, List.setIfInBounds_toArray, List.set_cons_zero, List.set_cons_succ, List.getElem_toArray, List.getElem_cons_zero, List.getElem_cons_succ]
      refine wpAnyH_take (i := 12) (v := ?_) rfl (by kernel_rfl) (by kernel_rfl) (by kernel_rfl) (fun _ _ _ h => h) (Or.inl ⟨by rfl, ?_⟩) (by assumption) ?_
      rotate_left 1
      · intro wz sb
        obtain ⟨y0, y1, y2, y3, y4, y5⟩ := HX.out wz sb
        go_simp
        all_goals with_reducible rfl
      simp only [Act.put, List.setIfInBounds_toArray, List.set_cons_zero, List.set_cons_succ, List.getElem_toArray, List.getElem_cons_zero, List.getElem_cons_succ]
      refine wpAnyH_take (i := 13) (v := ?_) rfl (by kernel_rfl) (by kernel_rfl) (by kernel_rfl) (fun _ _ _ h => h) (Or.inl ⟨by rfl, ?_⟩) (by assumption) ?_
      rotate_left 1
      · intro wz sb
        obtain ⟨y0, y1, y2, y3, y4, y5⟩ := HX.out wz sb
        go_simp
        all_goals with_reducible rfl
      simp only [Act.put, List.setIfInBounds_toArray, List.set_cons_zero, List.set_cons_succ, List.getElem_toArray, List.getElem_cons_zero, List.getElem_cons_succ]
      refine wpAnyH_take (i := 14) (v := ?_) rfl (by kernel_rfl) (by kernel_rfl) (by kernel_rfl) (fun _ _ _ h => h) (Or.inl ⟨by rfl, ?_⟩) (by assumption) ?_
      rotate_left 1
      · intro wz sb
        obtain ⟨y0, y1, y2, y3, y4, y5⟩ := HX.out wz sb
        go_simp
        all_goals with_reducible rfl
      simp only [Act.put, List.setIfInBounds_toArray, List.set_cons_zero, List.set_cons_succ, List.getElem_toArray, List.getElem_cons_zero, List.getElem_cons_succ]
      refine wpAnyH_take (i := 15) (v := ?_) rfl (by kernel_rfl) (by kernel_rfl) (by kernel_rfl) (fun _ _ _ h => h) (Or.inl ⟨by rfl, ?_⟩) (by assumption) ?_
      rotate_left 1
      · intro wz sb
        obtain ⟨y0, y1, y2, y3, y4, y5⟩ := HX.out wz sb
        go_simp
        all_goals with_reducible rfl
      simp only [Act.put, List.setIfInBounds_toArray, List.set_cons_zero, List.set_cons_succ, List.getElem_toArray, List.getElem_cons_zero, List.getElem_cons_succ]
      refine wpAnyH_take (i := 16) (v := ?_) rfl (by kernel_rfl) (by kernel_rfl) (by kernel_rfl) (fun _ _ _ h => h) (Or.inl ⟨by rfl, ?_⟩) (by assumption) ?_
      rotate_left 1
      · intro wz sb
        obtain ⟨y0, y1, y2, y3, y4, y5⟩ := HX.out wz sb
        go_simp
        all_goals with_reducible rfl
      simp only [Act.put, List.setIfInBounds_toArray, List.set_cons_zero, List.set_cons_succ, List.getElem_toArray, List.getElem_cons_zero, List.getElem_cons_succ]
      refine wpAnyH_take (i := 17) (v := ?_) rfl (by kernel_rfl) (by kernel_rfl) (by kernel_rfl) (fun _ _ _ h => h) (Or.inl ⟨by rfl, ?_⟩) (by assumption) ?_
      rotate_left 1
      · intro wz sb
        obtain ⟨y0, y1, y2, y3, y4, y5⟩ := HX.out wz sb
        go_simp
        all_goals with_reducible rfl
      simp only [Act.put, List.setIfInBounds_toArray, List.set_cons_zero, List.set_cons_succ, List.getElem_toArray, List.getElem_cons_zero, List.getElem_cons_succ]
      refine wpAnyH_take (i := 18) (v := ?_) rfl (by kernel_rfl) (by kernel_rfl) (by kernel_rfl) (fun _ _ _ h => h) (Or.inl ⟨by rfl, ?_⟩) (by assumption) ?_
      rotate_left 1
      · intro wz sb
        obtain ⟨y0, y1, y2, y3, y4, y5⟩ := HX.out wz sb
        go_simp
        all_goals with_reducible rfl
      simp only [Act.put, List.setIfInBounds_toArray, List.set_cons_zero, List.set_cons_succ, List.getElem_toArray, List.getElem_cons_zero, List.getElem_cons_succ]
      refine wpAnyH_take (i := 19) (v := ?_) rfl (by kernel_rfl) (by kernel_rfl) (by kernel_rfl) (fun _ _ _ h => h) (Or.inl ⟨by rfl, ?_⟩) (by assumption) ?_
      rotate_left 1
      · intro wz sb
        obtain ⟨y0, y1, y2, y3, y4, y5⟩ := HX.out wz sb
        go_simp
        all_goals with_reducible rfl
      simp only [Act.put, List.setIfInBounds_toArray, List.set_cons_zero, List.set_cons_succ, List.getElem_toArray, List.getElem_cons_zero, List.getElem_cons_succ]
      refine wpAnyH_ready (rs := [20]) (by kernel_rfl) (by simp) (AllReadyH.cons rfl (fun K hK => ?_) AllReadyH.nil)
      go_simp
      refine (HW2.out _ (belJ HBV.out hHeld)).mono ?_
      rintro e W3 ⟨rfl, hb3⟩
      refine hK.out _ _ ?_ (fun hHeld => ?_)
      · exact belJ hHeld hb3
      clear hK K
      have HB3 := hideIt (belJ HBV.out hHeld)
      by_cases hxo : 0 < x
      · have HEr : Hid (R = true) := by
          rw [← HE.out]
          exact HTm.out (by rw [HEq.out]; exact decide_eq_true hxo)
        have dx : decide ((0 : Int) < (x : Int)) = true := decide_eq_true (by omega)
        refine wpAnyH_take (i := 21) (v := ?_) rfl (by kernel_rfl) (by kernel_rfl) (by kernel_rfl) (fun _ _ _ h => h) (Or.inl ⟨by rfl, ?_⟩) (by assumption) ?_
        rotate_left 1
        · intro wz sb
          obtain ⟨y0, y1, y2, y3, y4, y5⟩ := HX.out wz sb
          go_simp
          all_goals with_reducible rfl
        simp only [Act.put, List.setIfInBounds_toArray, List.set_cons_zero, List.set_cons_succ, List.getElem_toArray, List.getElem_cons_zero, List.getElem_cons_succ]
        refine wpAnyH_take (i := 22) (v := ?_) rfl (by kernel_rfl) (by kernel_rfl) (by kernel_rfl) (fun _ _ _ h => h) (Or.inl ⟨by rfl, ?_⟩) (by assumption) ?_
        rotate_left 1
        · intro wz sb
          obtain ⟨y0, y1, y2, y3, y4, y5⟩ := HX.out wz sb
          go_simp
          all_goals with_reducible rfl
        simp only [Act.put, List.setIfInBounds_toArray, List.set_cons_zero, List.set_cons_succ, List.getElem_toArray, List.getElem_cons_zero, List.getElem_cons_succ]
        refine wpAnyH_done (by kernel_rfl) ?_ _
        go_wp2
        go_ret
        exact ⟨by rw [HEr.out]; rfl, HB3.out⟩
      · have HEf : Hid (F (m + 1) = false) := by rw [HEq.out]; exact decide_eq_false hxo
        have dx : decide ((0 : Int) < (x : Int)) = false := decide_eq_false (by omega)
        refine wpAnyH_take (i := 21) (v := ?_) rfl (by kernel_rfl) (by kernel_rfl) (by kernel_rfl) (fun _ _ _ h => h) (Or.inl ⟨by rfl, ?_⟩) (by assumption) ?_
        rotate_left 1
        · intro wz sb
          obtain ⟨y0, y1, y2, y3, y4, y5⟩ := HX.out wz sb
          go_simp
          all_goals with_reducible rfl
        simp only [Act.put, List.setIfInBounds_toArray, List.set_cons_zero, List.set_cons_succ, List.getElem_toArray, List.getElem_cons_zero, List.getElem_cons_succ]
        refine wpAnyH_take (i := 22) (v := ?_) rfl (by kernel_rfl) (by kernel_rfl) (by kernel_rfl) (fun _ _ _ h => h) (Or.inl ⟨by rfl, ?_⟩) (by assumption) ?_
        rotate_left 1
        · intro wz sb
          obtain ⟨y0, y1, y2, y3, y4, y5⟩ := HX.out wz sb
          go_simp
          all_goals with_reducible rfl
        simp only [Act.put, List.setIfInBounds_toArray, List.set_cons_zero, List.set_cons_succ, List.getElem_toArray, List.getElem_cons_zero, List.getElem_cons_succ]
        refine wpAnyH_done (by kernel_rfl) ?_ _
        go_wp2
        go_roundw
        case rel => exact ⟨m + 1, by omega, by go_num, HEf.out, HB3.out⟩
        case measure => simp [intOf]; omega
    · obtain rfl : m = (st.ops i).length := by omega
      have HEr : Hid (R = false) := by rw [← HE.out]; exact HF.out
      go_wp2
      go_ret
      exact ⟨by rw [HEr.out]; rfl, HBw.out⟩
end Go.Proofs.YtaopigjhdkdklaaDoor
