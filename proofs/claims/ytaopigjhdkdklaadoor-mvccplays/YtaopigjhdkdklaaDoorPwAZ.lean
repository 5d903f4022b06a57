/-
  Small functions of package mvcc, walked: isStep, writes, meets, check of a deal.
  Base.check, walked.
  New and Spans, walked.
-/
import Derived.Test.YtaopigjhdkdklaaDoorIsM
import Derived.Test.YtaopigjhdkdklaaDoorMvPZ
import Derived.Test.YtaopigjhdkdklaaDoorWalkB
import Derived.Deep.RegionHeld3
import Derived.BigQuiet
import Derived.Test.YtaopigjhdkdklaaDoorDbMZ
import Derived.Test.YtaopigjhdkdklaaDoorMnP
namespace Go.Proofs.YtaopigjhdkdklaaDoor
open Go.RowKit

theorem isStep_any (x : Int) (w : World) : Calls Tryd.prog 52 #[.int .i64 x] w fun e w' => e = .returned (.bool (decide (x = 2 ∨ x = 3))) ∧ w' = w := by
  by_cases h2 : x = 2
  · subst h2
    go_enter Tryd.func52, Tryd.ntmps52
    go_wp2
    go_ret
    exact ⟨rfl, rfl⟩
  · by_cases h3 : x = 3
    · subst h3
      go_enter Tryd.func52, Tryd.ntmps52
      go_wp2
      go_ret
      exact ⟨rfl, rfl⟩
    · have e2 : (x == 2) = false := by simpa using h2
      have e3 : (x == 3) = false := by simpa using h3
      have HE := hideIt (show decide (x = 2 ∨ x = 3) = false by simp [h2, h3])
      clear h2 h3
      go_enter Tryd.func52, Tryd.ntmps52
      go_wp2
      go_ret
      exact ⟨by rw [HE.out]; rfl, rfl⟩

set_option maxRecDepth 100000 in
set_option maxHeartbeats 1000000 in
theorem writes_any (ops : List IOp) (key : Int) (T off : Nat) (a : Option Addr) (cap : Nat) (w : World) (hm : ops.length ≤ maxLen) (hc : w.cell? ⟨T, off, none⟩ = some (.slice a ops.length cap)) (h : IOpsQ w a ops) :
    Calls Tryd.prog 54 #[.pointer (some ⟨T, off, none⟩), .int .i64 key] w fun e w' => e = .returned (.int .i64 (wrN ops key : Nat)) ∧ Below w.heap.size w w' := by
  have HO := hideIt h
  have HN : Hid (∀ k (hk : k < ops.length), wrN (ops.take (k + 1)) key = wrN (ops.take k) key + if ops[k].wr && ops[k].key == key then 1 else 0) := fun k hk => by
    unfold wrN
    rw [List.take_add_one, List.countP_append, List.getElem?_eq_getElem hk]
    simp
  have HLe : Hid (∀ k, wrN (ops.take k) key ≤ k) := fun k => by
    unfold wrN
    exact Nat.le_trans (List.countP_le_length) (by simp; omega)
  have HE : Hid (wrN (ops.take ops.length) key = wrN ops key) := by
    show _ = _
    rw [List.take_length]
  have H0 : Hid (wrN (ops.take 0) key = 0) := by simp [Hid, wrN]
  generalize wrN ops key = R at *
  generalize hF : (fun k => wrN (ops.take k) key) = F
  have hF' : ∀ k, wrN (ops.take k) key = F k := fun k => by rw [← hF]
  simp only [hF'] at HN HLe HE H0
  clear hF hF' h
  unfold maxLen at hm
  go_enter Tryd.func54, Tryd.ntmps54
  go_wp2
  go_loopw [5, 13] (fun x v wr => ∃ k : Nat, k ≤ ops.length ∧ v = .int .i64 k ∧ x = .int .i64 (F k : Nat) ∧ Below w.heap.size w wr) (fun _ v _ => ops.length - (intOf v).toNat)
  case atStart => exact ⟨0, Nat.zero_le _, rfl, by rw [H0.out]; rfl, Below.refl _ _⟩
  case round =>
    obtain ⟨k, hk, rfl, rfl, hb⟩ := hrel
    have HBw := hideIt hb
    clear hb hc
    by_cases hkn : k < ops.length
    · obtain ⟨g, off', rfl, hg, p1, p2, p3, p4⟩ := (HO.out.below HBw.out).at hkn
      have hkn' : (k : Int) < ops.length := by omega
      have HNk := hideIt (HN.out k hkn)
      have hle := HLe.out k
      generalize ops[k] = o at *
      obtain ⟨owr, okey, ofrm, onum⟩ := o
      have HBZ := hideIt (belA HBw.out (.cells #[.bool owr, .int .i64 okey, .int .i64 ofrm, .int .i64 onum] 84))
      dsimp only at *
      cases owr
      · have HE := hideIt (show F (k + 1) = F k by rw [HNk.out]; simp)
        go_wp2
        go_roundw
        case rel => exact ⟨k + 1, by omega, by go_num, by rw [HE.out], HBZ.out⟩
        case measure => simp [intOf]; omega
      · by_cases e : okey = key
        · have HE := hideIt (show F (k + 1) = F k + 1 by rw [HNk.out]; simp [e])
          have he : (okey == key) = true := by simp [e]
          clear e
          generalize F k = x at *
          go_wp2
          go_roundw
          case rel => exact ⟨k + 1, by omega, by go_num, by rw [HE.out]; go_num, HBZ.out⟩
          case measure => simp [intOf]; omega
        · have HE := hideIt (show F (k + 1) = F k by rw [HNk.out]; simp [e])
          have he : (okey == key) = false := by simp [e]
          clear e
          go_wp2
          go_roundw
          case rel => exact ⟨k + 1, by omega, by go_num, by rw [HE.out], HBZ.out⟩
          case measure => simp [intOf]; omega
    · obtain rfl : k = ops.length := by omega
      go_wp2
      go_ret
      exact ⟨by rw [HE.out]; rfl, HBw.out⟩

set_option maxRecDepth 100000 in
set_option maxHeartbeats 1000000 in
theorem meets_any (T1 o1 T2 o2 : Nat) (b1 e1 b2 e2 : Int) (w : World) (c1 : w.cell? ⟨T1, o1 + 1, none⟩ = some (.int .i64 b1)) (c2 : w.cell? ⟨T1, o1 + 2, none⟩ = some (.int .i64 e1)) (c3 : w.cell? ⟨T2, o2 + 1, none⟩ = some (.int .i64 b2)) (c4 : w.cell? ⟨T2, o2 + 2, none⟩ = some (.int .i64 e2)) :
    Calls Tryd.prog 87 #[.pointer (some ⟨T1, o1, none⟩), .pointer (some ⟨T2, o2, none⟩)] w fun e w' => e = .returned (.bool (decide (b2 < e1) && decide (b1 < e2))) ∧ ∃ q, w' = w.drewN q := by
  obtain ⟨x, hx⟩ : ∃ x, decide (b2 < e1) = x := ⟨_, rfl⟩
  obtain ⟨y, hy⟩ : ∃ y, decide (b1 < e2) = y := ⟨_, rfl⟩
  rw [hx, hy]
  cases x
  · go_enter Tryd.func87, Tryd.ntmps87
    go_wp2_with fail
    go_quiet (fail)
    go_wp2
    go_ret
    exact ⟨rfl, _, rfl⟩
  · go_enter Tryd.func87, Tryd.ntmps87
    go_wp2_with fail
    go_quiet (fail)
    go_wp2
    go_ret
    exact ⟨rfl, _, rfl⟩

/-- What a deal's own check tells. -/
def dlF (ov : Bool) (bg : Int) (len : Nat) (kind : Int) : Int := if ov = true ∨ (0 ≤ bg ↔ kind = 1) then 6 else if len = 60 ∧ (kind = 2 ∨ kind = 3) then 4 else 0

set_option maxRecDepth 100000 in
set_option maxHeartbeats 1000000 in
theorem dcheck_any (T off : Nat) (a : Option Addr) (len cap : Nat) (bg : Int) (ov : Bool) (kind : Int) (w : World) (hl : len ≤ 60) (hbg : bg = -1 ∨ 0 < bg) (c0 : w.cell? ⟨T, off, none⟩ = some (.slice a len cap)) (c1 : w.cell? ⟨T, off + 1, none⟩ = some (.int .i64 bg)) (c3 : w.cell? ⟨T, off + 3, none⟩ = some (.bool ov)) :
    Calls Tryd.prog 53 #[.pointer (some ⟨T, off, none⟩), .int .i64 kind] w fun e w' => e = .returned (toldV (dlF ov bg len kind)) ∧ w' = w := by
  have HS := hideIt (isStep_any kind w)
  have t6 : toldV 6 = .iface 29 (.int .i64 6) := rfl
  have t4 : toldV 4 = .iface 29 (.int .i64 4) := rfl
  have t0 : toldV 0 = .nilIface := rfl
  obtain ⟨bb, hbb⟩ : ∃ bb, (bg != -1) = bb := ⟨_, rfl⟩
  have hbi : (0 ≤ bg) ↔ bb = true := by
    rw [← hbb, bne_iff_ne]
    omega
  clear hbg
  by_cases h1 : ov = true
  · subst h1
    have HR : Hid (dlF true bg len kind = 6) := by simp [Hid, dlF]
    go_enter Tryd.func53, Tryd.ntmps53
    go_wp2
    go_ret
    exact ⟨by rw [HR.out, t6]; rfl, rfl⟩
  obtain rfl : ov = false := by simpa using h1
  clear h1
  by_cases k1 : kind = 1
  · subst k1
    cases bb
    · have HR : Hid (dlF false bg len 1 = 0) := by
        have : ¬ 0 ≤ bg := fun h => by rw [hbi] at h; cases h
        simp [Hid, dlF, this]
      clear hbi
      go_enter Tryd.func53, Tryd.ntmps53
      go_wp2_with fail
      refine HS.out.mono ?_
      rintro e w' ⟨rfl, rfl⟩
      go_wp2
      go_ret
      exact ⟨by rw [HR.out, t0]; rfl, rfl⟩
    · have HR : Hid (dlF false bg len 1 = 6) := by
        have : 0 ≤ bg := hbi.2 rfl
        simp [Hid, dlF, this]
      clear hbi
      go_enter Tryd.func53, Tryd.ntmps53
      go_wp2
      go_ret
      exact ⟨by rw [HR.out, t6]; rfl, rfl⟩
  · have d1 : (kind == 1) = false := by simpa using k1
    have d2 : (kind != 1) = true := by simpa using k1
    cases bb
    · have HR : Hid (dlF false bg len kind = 6) := by
        have : ¬ 0 ≤ bg := fun h => by rw [hbi] at h; cases h
        simp [Hid, dlF, this, k1]
      clear hbi k1
      go_enter Tryd.func53, Tryd.ntmps53
      go_wp2
      go_ret
      exact ⟨by rw [HR.out, t6]; rfl, rfl⟩
    · have hb0 : 0 ≤ bg := hbi.2 rfl
      by_cases hs : kind = 2 ∨ kind = 3
      · rw [decide_eq_true hs] at HS
        by_cases h60 : len = 60
        · have HR : Hid (dlF false bg len kind = 4) := by simp [Hid, dlF, hb0, k1, hs, h60]
          have g : (60 : Int) ≤ (len : Int) := by omega
          clear hbi k1 hs h60 hb0
          go_enter Tryd.func53, Tryd.ntmps53
          go_wp2_with fail
          refine HS.out.mono ?_
          rintro e w' ⟨rfl, rfl⟩
          go_wp2
          go_ret
          exact ⟨by rw [HR.out, t4]; rfl, rfl⟩
        · have HR : Hid (dlF false bg len kind = 0) := by simp [Hid, dlF, hb0, k1, h60]
          have g : ¬ (60 : Int) ≤ (len : Int) := by omega
          clear hbi k1 hs h60 hb0
          go_enter Tryd.func53, Tryd.ntmps53
          go_wp2_with fail
          refine HS.out.mono ?_
          rintro e w' ⟨rfl, rfl⟩
          go_wp2
          go_ret
          exact ⟨by rw [HR.out, t0]; rfl, rfl⟩
      · rw [decide_eq_false hs] at HS
        have HR : Hid (dlF false bg len kind = 0) := by
          have : ¬ (len = 60 ∧ (kind = 2 ∨ kind = 3)) := fun h => hs h.2
          unfold Hid dlF
          rw [if_neg (by simp [hb0, k1]), if_neg this]
        clear hbi k1 hs hb0
        go_enter Tryd.func53, Tryd.ntmps53
        go_wp2_with fail
        refine HS.out.mono ?_
        rintro e w' ⟨rfl, rfl⟩
        go_wp2
        go_ret
        exact ⟨by rw [HR.out, t0]; rfl, rfl⟩
end Go.Proofs.YtaopigjhdkdklaaDoor

namespace Go.Proofs.YtaopigjhdkdklaaDoor
open Go.RowKit

theorem fltA_dl {n : Nat} {st : MvS} {p k m : Int} (h1 : ¬ (p < 0 ∨ (n : Int) ≤ p ∨ m < 0 ∨ 7 < m)) (h2 : ¬ (k < 1 ∨ 5 < k ∨ (k ≠ 2 ∧ k ≠ 3 ∧ m ≠ 0))) : fltA n st p k m = dlF (st.ov p.toNat) (st.bg p.toNat) (st.ops p.toNat).length k := by
  unfold fltA dlF
  rw [if_neg h1, if_neg h2]
theorem fltA_two {n : Nat} {st : MvS} {p k m : Int} (h1 : p < 0 ∨ (n : Int) ≤ p ∨ m < 0 ∨ 7 < m) : fltA n st p k m = 2 := by
  unfold fltA
  rw [if_pos h1]
theorem fltA_one {n : Nat} {st : MvS} {p k m : Int} (h1 : ¬ (p < 0 ∨ (n : Int) ≤ p ∨ m < 0 ∨ 7 < m)) (h2 : k < 1 ∨ 5 < k ∨ (k ≠ 2 ∧ k ≠ 3 ∧ m ≠ 0)) : fltA n st p k m = 1 := by
  unfold fltA
  rw [if_neg h1, if_pos h2]

section
variable {w0 W : World} {k : PrK} {c : Bool} {n : Nat} {st : MvS}

set_option maxRecDepth 100000 in
set_option maxHeartbeats 4000000 in
theorem pcheck_any (h : PrB w0 W k c n st) (hI : MvI n st) (p kd m : Int) (Z : World) (hZ : Below W.heap.size W Z) :
    Calls Tryd.prog 25 #[.pointer (some ⟨k.B, 0, none⟩), .agg #[.int .i64 p, .int .i64 kd, .int .i64 m]] Z fun e w' => e = .returned (toldV (fltA n st p kd m)) ∧ Below Z.heap.size Z w' := by
  have hP := h.below hZ
  have HP := hideIt hP
  have HIn := hideIt hI
  have c2 := hP.cells.2.2.1
  have t2 : toldV 2 = .iface 29 (.int .i64 2) := rfl
  have t1 : toldV 1 = .iface 29 (.int .i64 1) := rfl
  have hB := hP.lt
  have hT := hP.ltT
  have HBA := hideIt (belA (Below.refl Z.heap.size Z) (.cells #[.int .i64 p, .int .i64 kd, .int .i64 m] 34))
  have d2 := (HBA.out.cell (p := ⟨k.B, 2, none⟩) hB).trans c2
  clear h hI hZ hP c2
  generalize hF : fltA n st p kd m = F
  have HF := hideIt hF
  clear hF
  by_cases h1 : p < 0
  · have HE : Hid (F = 2) := by rw [← HF.out]; exact fltA_two (.inl h1)
    have g1 : decide (p < 0) = true := decide_eq_true h1
    go_enter Tryd.func25, Tryd.ntmps25
    go_wp2_with fail
    go_quiet (fail)
    go_wp2
    go_ret
    exact ⟨by rw [HE.out, t2]; rfl, below_drewN HBA.out _⟩
  have g1 : decide (p < 0) = false := decide_eq_false h1
  by_cases h2 : (n : Int) ≤ p
  · have HE : Hid (F = 2) := by rw [← HF.out]; exact fltA_two (.inr (.inl h2))
    go_enter Tryd.func25, Tryd.ntmps25
    go_wp2_with fail
    go_quiet (fail)
    go_wp2
    go_ret
    exact ⟨by rw [HE.out, t2]; rfl, below_drewN HBA.out _⟩
  by_cases h3 : m < 0
  · have HE : Hid (F = 2) := by rw [← HF.out]; exact fltA_two (.inr (.inr (.inl h3)))
    go_enter Tryd.func25, Tryd.ntmps25
    go_wp2_with fail
    go_quiet (fail)
    go_wp2
    go_ret
    exact ⟨by rw [HE.out, t2]; rfl, below_drewN HBA.out _⟩
  by_cases h4 : 7 < m
  · have HE : Hid (F = 2) := by rw [← HF.out]; exact fltA_two (.inr (.inr (.inr h4)))
    have g4 : (8 : Int) ≤ m := by omega
    go_enter Tryd.func25, Tryd.ntmps25
    go_wp2_with fail
    go_quiet (fail)
    go_wp2
    go_ret
    exact ⟨by rw [HE.out, t2]; rfl, below_drewN HBA.out _⟩
  have g4 : ¬ (8 : Int) ≤ m := by omega
  have HR1 : Hid (¬ (p < 0 ∨ (n : Int) ≤ p ∨ m < 0 ∨ 7 < m)) := by
    show ¬ _
    omega
  by_cases h5 : kd < 1
  · have HE : Hid (F = 1) := by rw [← HF.out]; exact fltA_one HR1.out (.inl h5)
    go_enter Tryd.func25, Tryd.ntmps25
    go_wp2_with fail
    go_quiet (fail)
    go_wp2
    go_ret
    exact ⟨by rw [HE.out, t1]; rfl, below_drewN HBA.out _⟩
  by_cases h6 : 5 < kd
  · have HE : Hid (F = 1) := by rw [← HF.out]; exact fltA_one HR1.out (.inr (.inl h6))
    go_enter Tryd.func25, Tryd.ntmps25
    go_wp2_with fail
    go_quiet (fail)
    go_wp2
    go_ret
    exact ⟨by rw [HE.out, t1]; rfl, below_drewN HBA.out _⟩
  obtain ⟨t, rfl⟩ := Int.eq_ofNat_of_zero_le (show 0 ≤ p by omega)
  have htn : t < n := by omega
  have hti : (t : Int) < (n : Int) := by omega
  obtain ⟨oa, ocp, eo, hoc, hoq⟩ := HP.out.opq htn
  obtain ⟨x0, x1, _, x3⟩ := HP.out.tx t htn
  rw [eo] at x0
  have HDc : Hid (∀ Y, Below (Z.alloc (.cells #[.int .i64 (t : Int), .int .i64 kd, .int .i64 m] 34)).heap.size (Z.alloc (.cells #[.int .i64 (t : Int), .int .i64 kd, .int .i64 m] 34)) Y → Calls Tryd.prog 53 #[.pointer (some ⟨k.T, t * 4, none⟩), .int .i64 kd] Y fun e w' => e = .returned (toldV (dlF (st.ov t) (st.bg t) (st.ops t).length kd)) ∧ w' = Y) := fun Y hY => by
    have hb := belJ HBA.out hY
    exact dcheck_any k.T (t * 4) oa _ ocp _ _ kd _ (HIn.out.opl t) (HIn.out.bgl t).2 ((hb.cell (p := ⟨k.T, t * 4, none⟩) hT).trans x0) ((hb.cell (p := ⟨k.T, t * 4 + 1, none⟩) hT).trans x1) ((hb.cell (p := ⟨k.T, t * 4 + 3, none⟩) hT).trans x3)
  have HSt := hideIt (isStep_any kd)
  clear hoc hoq eo x0 x1 x3
  by_cases h7 : m = 0
  · have HE : Hid (F = dlF (st.ov t) (st.bg t) (st.ops t).length kd) := by
      rw [← HF.out]
      exact fltA_dl HR1.out (by omega)
    have g7 : (m != 0) = false := by simp [h7]
    clear h7
    generalize dlF (st.ov t) (st.bg t) (st.ops t).length kd = D at *
    go_enter Tryd.func25, Tryd.ntmps25
    go_wp2_with fail
    go_quiet (fail)
    go_wp2_with fail
    generalize hV : World.drewN (Z.alloc _) _ = V
    have hbV : Below (Z.alloc (.cells #[.int .i64 (t : Int), .int .i64 kd, .int .i64 m] 34)).heap.size (Z.alloc (.cells #[.int .i64 (t : Int), .int .i64 kd, .int .i64 m] 34)) V := by rw [← hV]; exact below_drewN (Below.refl _ _) _
    have HBV := hideIt (belJ HBA.out hbV)
    have a0 : V.cell? ⟨Z.heap.size, 0, none⟩ = some (.int .i64 (t : Int)) := (hbV.cell (p := ⟨Z.heap.size, 0, none⟩) (by simp)).trans (by simp)
    have a1 : V.cell? ⟨Z.heap.size, 1, none⟩ = some (.int .i64 kd) := (hbV.cell (p := ⟨Z.heap.size, 1, none⟩) (by simp)).trans (by simp)
    have d2V : V.cell? ⟨k.B, 2, none⟩ = some (.slice (some ⟨k.T, 0, none⟩) n n) := (hbV.cell (p := ⟨k.B, 2, none⟩) (by show k.B < _; simp; omega)).trans d2
    have HDq := hideIt (fun q => HDc.out (V.drewN q) (below_drewN hbV q))
    clear hV hbV d2 HDc HBA HP HF
    go_quiet ((go_at_call 53; exact Calls.quiet_of_same (HDq.out _)))
    go_wp2
    go_ret
    exact ⟨by rw [HE.out]; rfl, below_drewN HBV.out _⟩
  have g7 : (m != 0) = true := by simpa using h7
  by_cases h8 : kd = 2 ∨ kd = 3
  · have HE : Hid (F = dlF (st.ov t) (st.bg t) (st.ops t).length kd) := by
      rw [← HF.out]
      exact fltA_dl HR1.out (by omega)
    rw [decide_eq_true h8] at HSt
    clear h7 h8
    generalize dlF (st.ov t) (st.bg t) (st.ops t).length kd = D at *
    go_enter Tryd.func25, Tryd.ntmps25
    go_wp2_with fail
    go_quiet (fail)
    go_wp2_with fail
    refine (HSt.out _).mono ?_
    rintro e W1 ⟨rfl, rfl⟩
    go_wp2_with fail
    generalize hV : World.drewN (Z.alloc _) _ = V
    have hbV : Below (Z.alloc (.cells #[.int .i64 (t : Int), .int .i64 kd, .int .i64 m] 34)).heap.size (Z.alloc (.cells #[.int .i64 (t : Int), .int .i64 kd, .int .i64 m] 34)) V := by rw [← hV]; exact below_drewN (Below.refl _ _) _
    have HBV := hideIt (belJ HBA.out hbV)
    have a0 : V.cell? ⟨Z.heap.size, 0, none⟩ = some (.int .i64 (t : Int)) := (hbV.cell (p := ⟨Z.heap.size, 0, none⟩) (by simp)).trans (by simp)
    have a1 : V.cell? ⟨Z.heap.size, 1, none⟩ = some (.int .i64 kd) := (hbV.cell (p := ⟨Z.heap.size, 1, none⟩) (by simp)).trans (by simp)
    have d2V : V.cell? ⟨k.B, 2, none⟩ = some (.slice (some ⟨k.T, 0, none⟩) n n) := (hbV.cell (p := ⟨k.B, 2, none⟩) (by show k.B < _; simp; omega)).trans d2
    have HDq := hideIt (fun q => HDc.out (V.drewN q) (below_drewN hbV q))
    clear hV hbV d2 HDc HBA HP HF
    go_quiet ((go_at_call 53; exact Calls.quiet_of_same (HDq.out _)))
    go_wp2
    go_ret
    exact ⟨by rw [HE.out]; rfl, below_drewN HBV.out _⟩
  · have HE : Hid (F = 1) := by
      rw [← HF.out]
      exact fltA_one HR1.out (.inr (.inr (by omega)))
    rw [decide_eq_false h8] at HSt
    clear h7 h8
    go_enter Tryd.func25, Tryd.ntmps25
    go_wp2_with fail
    go_quiet (fail)
    go_wp2_with fail
    refine (HSt.out _).mono ?_
    rintro e W1 ⟨rfl, rfl⟩
    go_wp2
    go_ret
    exact ⟨by rw [HE.out, t1]; rfl, by repeat (first | exact HBA.out | refine Below.drew ?_ | refine below_drewN ?_ _)⟩


end
end Go.Proofs.YtaopigjhdkdklaaDoor

namespace Go.Proofs.YtaopigjhdkdklaaDoor
open Go.RowKit

theorem info73N : (Tryd.prog.info? 73).map (fun i => (i.zero, i.size, i.bytes)) = some (some (.agg #[.slice none 0 0, .int .i64 0, .int .i64 0, .bool false]), 4, 48) := by kernel_rfl
theorem info61N : (Tryd.prog.info? 61).map (fun i => (i.zero, i.size, i.bytes)) = some (some (.agg #[.int .i64 0, .int .i64 0]), 2, 16) := by kernel_rfl
theorem made_deals (w : World) (n : Nat) (hn : n ≤ 60) : (Instr.makeSlice 67 (.int .i64 (n : Int)) (.int .i64 (n : Int))).run Tryd.prog w = .ok (.slice (some ⟨w.heap.size, 0, none⟩) n n) (w.alloc (.cells (madeCells #[.slice none 0 0, .int .i64 0, .int .i64 0, .bool false] (n * 4)) 73)) := by
  obtain ⟨i, hi, hz, hs, hb⟩ := info_parts' info73N
  have := run_make (P := Tryd.prog) w 67 73 i _ Tryd.underlying67 hi hz .i64 .i64 (n : Int) (n : Int) (by omega) (Int.le_refl _) (by rw [hb]; omega) (by omega)
  have e : (Value.agg #[.slice none 0 0, .int .i64 0, .int .i64 0, .bool false]).cells = #[.slice none 0 0, .int .i64 0, .int .i64 0, .bool false] := rfl
  rw [e] at this
  simpa [hs] using this
theorem made_spans (w : World) (n : Nat) (hn : n ≤ 60) : (Instr.makeSlice 50 (.int .i64 (n : Int)) (.int .i64 (n : Int))).run Tryd.prog w = .ok (.slice (some ⟨w.heap.size, 0, none⟩) n n) (w.alloc (.cells (madeCells #[.int .i64 0, .int .i64 0] (n * 2)) 61)) := by
  obtain ⟨i, hi, hz, hs, hb⟩ := info_parts' info61N
  have := run_make (P := Tryd.prog) w 50 61 i _ Tryd.underlying50 hi hz .i64 .i64 (n : Int) (n : Int) (by omega) (Int.le_refl _) (by rw [hb]; omega) (by omega)
  have e : (Value.agg #[.int .i64 0, .int .i64 0]).cells = #[.int .i64 0, .int .i64 0] := rfl
  rw [e] at this
  simpa [hs] using this
theorem made_at (z : Array Value) (m i : Nat) (h : i < m) : (madeCells z m)[i]? = some z[i % z.size]! := by simp [madeCells, h]

/-- Pairs of times in a block. -/
structure SpB (w : World) (S n : Nat) (f g : Nat → Int) : Prop where
  blk : ∃ cur, w.heap[S]? = some (.cells cur 61 (0, 0))
  cel : ∀ t, t < n → w.cell? ⟨S, t * 2, none⟩ = some (.int .i64 (f t)) ∧ w.cell? ⟨S, t * 2 + 1, none⟩ = some (.int .i64 (g t))
theorem SpB.put {w : World} {S n : Nat} {f g : Nat → Int} (h : SpB w S n f g) {t : Nat} (ht : t < n) (x y : Int) : SpB ((w.setCell ⟨S, t * 2, none⟩ (.int .i64 x)).setCell ⟨S, t * 2 + 1, none⟩ (.int .i64 y)) S n (updM f t x) (updM g t y) := by
  obtain ⟨cur, hc⟩ := h.blk
  obtain ⟨c1, h1, _⟩ := heap_setCell hc (t * 2) (.int .i64 x)
  obtain ⟨c2, h2, _⟩ := heap_setCell h1 (t * 2 + 1) (.int .i64 y)
  refine ⟨⟨c2, h2⟩, fun u hu => ?_⟩
  obtain ⟨a, b⟩ := h.cel u hu
  by_cases e : u = t
  · subst e
    rw [updM_same, updM_same]
    refine ⟨(World.cell?_setCell_other _ _ _ _ (offNe (by omega))).trans (World.cell?_setCell_same' _ _ _ (by rw [a]; rfl)), World.cell?_setCell_same' _ _ _ ?_⟩
    rw [World.cell?_setCell_other _ _ _ _ (offNe (by omega)), b]
    rfl
  · rw [updM_ne _ _ e, updM_ne _ _ e]
    exact ⟨(World.cell?_setCell_other _ _ _ _ (offNe (by omega))).trans ((World.cell?_setCell_other _ _ _ _ (offNe (by omega))).trans a), (World.cell?_setCell_other _ _ _ _ (offNe (by omega))).trans ((World.cell?_setCell_other _ _ _ _ (offNe (by omega))).trans b)⟩
theorem SpB.block {w w' : World} {S n : Nat} {f g : Nat → Int} (h : SpB w S n f g) (e : w'.heap[S]? = w.heap[S]?) : SpB w' S n f g := by
  obtain ⟨cur, hc⟩ := h.blk
  exact ⟨⟨cur, e.trans hc⟩, fun t ht => ⟨(World.cell?_of_block (a := ⟨S, t * 2, none⟩) e).trans (h.cel t ht).1, (World.cell?_of_block (a := ⟨S, t * 2 + 1, none⟩) e).trans (h.cel t ht).2⟩⟩
theorem SpB.fz {w : World} {S n : Nat} {f g : Nat → Int} (h : SpB w S n f g) (i : Nat) : w.frozen? ⟨S, i, none⟩ = false := by
  obtain ⟨cur, hc⟩ := h.blk
  exact frozen_of_row _ _ _ _ 61 hc
theorem SpB.lt {w : World} {S n : Nat} {f g : Nat → Int} (h : SpB w S n f g) : S < w.heap.size := by
  obtain ⟨cur, hc⟩ := h.blk
  exact lt_of_heap hc
theorem spB_new (w : World) (n : Nat) : SpB (w.alloc (.cells (madeCells #[.int .i64 0, .int .i64 0] (n * 2)) 61)) w.heap.size n (fun _ => 0) (fun _ => 0) := by
  have hn := heap_alloc_new w (.cells (madeCells #[.int .i64 0, .int .i64 0] (n * 2)) 61)
  refine ⟨⟨_, hn⟩, fun t ht => ⟨?_, ?_⟩⟩
  · rw [cell_of_row _ _ _ _ 61 _ hn, made_at _ _ _ (by omega)]
    have : t * 2 % (#[Value.int .i64 0, Value.int .i64 0] : Array Value).size = 0 := by simp
    rw [this]
    rfl
  · rw [cell_of_row _ _ _ _ 61 _ hn, made_at _ _ _ (by omega)]
    have : (t * 2 + 1) % (#[Value.int .i64 0, Value.int .i64 0] : Array Value).size = 1 := by
      show (t * 2 + 1) % 2 = 1
      omega
    rw [this]
    rfl
theorem updM_part {α : Type} (f : Nat → α) (z : α) (m : Nat) : updM (fun t => if t < m then f t else z) m (f m) = fun t => if t < m + 1 then f t else z := by
  funext t
  unfold updM
  by_cases e : t = m
  · subst e
    rw [if_pos rfl, if_pos (by omega)]
  · rw [if_neg e]
    dsimp only
    by_cases h : t < m
    · rw [if_pos h, if_pos (by omega)]
    · rw [if_neg h, if_neg (by omega)]

section
variable {w0 W : World} {k : PrK} {c : Bool} {n : Nat} {st : MvS}
set_option maxRecDepth 100000 in
set_option maxHeartbeats 2000000 in
theorem spans_any (h : PrB w0 W k c n st) (hn : n ≤ 8) : Calls Tryd.prog 18 #[.pointer (some ⟨k.B, 0, none⟩)] W fun e W' => ∃ a ca, e = .returned (.slice a n ca) ∧ n ≤ ca ∧ SpansQ W' a n st ∧ Below W.heap.size W W' := by
  have HP := hideIt h
  have c2 := h.cells.2.2.1
  have hB := h.lt
  have hT := h.ltT
  have hmk := made_spans W n (by omega)
  have HS0 : Hid (SpB (W.alloc (.cells (madeCells #[.int .i64 0, .int .i64 0] (n * 2)) 61)) W.heap.size n (fun t => if t < 0 then st.bg t else 0) (fun t => if t < 0 then st.en t else 0)) := spB_new W n
  have HB0 := hideIt (belA (Below.refl W.heap.size W) (.cells (madeCells #[.int .i64 0, .int .i64 0] (n * 2)) 61))
  clear h
  go_enter Tryd.func18, Tryd.ntmps18
  go_wp2_with fail
  generalize W.alloc (.cells (madeCells #[.int .i64 0, .int .i64 0] (n * 2)) 61) = W1 at *
  clear hmk
  have c2' := (HB0.out.cell (p := ⟨k.B, 2, none⟩) hB).trans c2
  clear c2
  go_wp2
  go_loopw [19] (fun v wr => ∃ m : Nat, m ≤ n ∧ v = .int .i64 m ∧ SpB wr W.heap.size n (fun t => if t < m then st.bg t else 0) (fun t => if t < m then st.en t else 0) ∧ Below W.heap.size W wr) (fun v _ => n - (intOf v).toNat)
  case atStart => exact ⟨0, Nat.zero_le _, rfl, HS0.out, HB0.out⟩
  case round =>
    clear c2'
    obtain ⟨m, hm, rfl, hs, hb⟩ := hrel
    have HS := hideIt hs
    have HB := hideIt hb
    by_cases hmn : m < n
    · have hmn' : (m : Int) < (n : Int) := by omega
      obtain ⟨x0, x1, x2, x3⟩ := HP.out.tx m hmn
      obtain ⟨oa, ocp, eo, _, _⟩ := HP.out.opq hmn
      rw [eo] at x0
      have y0 := (hb.cell (p := ⟨k.T, m * 4, none⟩) hT).trans x0
      have y1 := (hb.cell (p := ⟨k.T, m * 4 + 1, none⟩) hT).trans x1
      have y2 := (hb.cell (p := ⟨k.T, m * 4 + 2, none⟩) hT).trans x2
      have y3 := (hb.cell (p := ⟨k.T, m * 4 + 3, none⟩) hT).trans x3
      have hs2 : SpB (wr.alloc (.cells #[.slice oa (st.ops m).length ocp, .int .i64 (st.bg m), .int .i64 (st.en m), .bool (st.ov m)] 73)) W.heap.size n _ _ := hs.block (Below.heap_alloc _ _ _ hs.lt)
      have HSf : Hid (SpB (((wr.alloc (.cells #[.slice oa (st.ops m).length ocp, .int .i64 (st.bg m), .int .i64 (st.en m), .bool (st.ov m)] 73)).setCell ⟨W.heap.size, m * 2, none⟩ (.int .i64 (st.bg m))).setCell ⟨W.heap.size, m * 2 + 1, none⟩ (.int .i64 (st.en m))) W.heap.size n (fun t => if t < m + 1 then st.bg t else 0) (fun t => if t < m + 1 then st.en t else 0)) := by
        have := hs2.put hmn (st.bg m) (st.en m)
        rw [updM_part, updM_part] at this
        exact this
      have HBf := hideIt (((belA hb (.cells #[.slice oa (st.ops m).length ocp, .int .i64 (st.bg m), .int .i64 (st.en m), .bool (st.ov m)] 73)).setCell (p := ⟨W.heap.size, m * 2, none⟩) (Nat.le_refl _) (.int .i64 (st.bg m))).setCell (p := ⟨W.heap.size, m * 2 + 1, none⟩) (Nat.le_refl _) (.int .i64 (st.en m)))
      obtain ⟨v0, z0⟩ : ∃ v, (wr.alloc (.cells #[.slice oa (st.ops m).length ocp, .int .i64 (st.bg m), .int .i64 (st.en m), .bool (st.ov m)] 73)).cell? ⟨W.heap.size, m * 2, none⟩ = some (.int .i64 v) := ⟨_, (hs2.cel m hmn).1⟩
      obtain ⟨v1, z1⟩ : ∃ v, (wr.alloc (.cells #[.slice oa (st.ops m).length ocp, .int .i64 (st.bg m), .int .i64 (st.en m), .bool (st.ov m)] 73)).cell? ⟨W.heap.size, m * 2 + 1, none⟩ = some (.int .i64 v) := ⟨_, (hs2.cel m hmn).2⟩
      have f0 := hs2.fz
      have hne : ¬ W.heap.size = wr.heap.size := by have := hs.lt; omega
      have hne' : ¬ wr.heap.size = W.heap.size := by omega
      generalize (st.ops m).length = ol at *
      generalize st.bg m = bgm at *
      generalize st.en m = enm at *
      generalize st.ov m = ovm at *
      clear x0 x1 x2 x3 hs hb hs2 eo HS HB
      go_wp2
      go_roundw
      case rel => exact ⟨m + 1, by omega, by go_num, HSf.out, HBf.out⟩
      case measure => simp [intOf]; omega
    · have hmn' : ¬ (m : Int) < (n : Int) := by omega
      have hme : m = n := by omega
      have HSn : Hid (SpansQ wr (some ⟨W.heap.size, 0, none⟩) n st) := .inr ⟨W.heap.size, 0, rfl, hs.lt, fun t ht => by
        obtain ⟨a, b⟩ := hs.cel t ht
        rw [if_pos (by omega)] at a b
        rw [Nat.zero_add]
        exact ⟨a, b⟩⟩
      clear hs hb hme
      go_wp2
      go_ret
      exact ⟨_, n, rfl, Nat.le_refl _, HSn.out, HB.out⟩
end

/-- Deals in a block, as New makes them. -/
structure DlB (w : World) (T n m : Nat) : Prop where
  blk : ∃ cur, w.heap[T]? = some (.cells cur 73 (0, 0))
  cel : ∀ t, t < n → w.cell? ⟨T, t * 4, none⟩ = some (.slice none 0 0) ∧ (∃ v, w.cell? ⟨T, t * 4 + 1, none⟩ = some (.int .i64 v) ∧ (t < m → v = -1)) ∧ (∃ v, w.cell? ⟨T, t * 4 + 2, none⟩ = some (.int .i64 v) ∧ (t < m → v = -1)) ∧ w.cell? ⟨T, t * 4 + 3, none⟩ = some (.bool false)
theorem DlB.fz {w : World} {T n m : Nat} (h : DlB w T n m) (i : Nat) : w.frozen? ⟨T, i, none⟩ = false := by
  obtain ⟨cur, hc⟩ := h.blk
  exact frozen_of_row _ _ _ _ 73 hc
theorem DlB.lt {w : World} {T n m : Nat} (h : DlB w T n m) : T < w.heap.size := by
  obtain ⟨cur, hc⟩ := h.blk
  exact lt_of_heap hc
theorem DlB.block {w w' : World} {T n m : Nat} (h : DlB w T n m) (e : w'.heap[T]? = w.heap[T]?) : DlB w' T n m := by
  obtain ⟨cur, hc⟩ := h.blk
  refine ⟨⟨cur, e.trans hc⟩, fun t ht => ?_⟩
  obtain ⟨a, ⟨v, b, b'⟩, ⟨u, d, d'⟩, f⟩ := h.cel t ht
  exact ⟨(World.cell?_of_block (a := ⟨T, t * 4, none⟩) e).trans a, ⟨v, (World.cell?_of_block (a := ⟨T, t * 4 + 1, none⟩) e).trans b, b'⟩, ⟨u, (World.cell?_of_block (a := ⟨T, t * 4 + 2, none⟩) e).trans d, d'⟩, (World.cell?_of_block (a := ⟨T, t * 4 + 3, none⟩) e).trans f⟩
theorem DlB.put {w : World} {T n m : Nat} (h : DlB w T n m) (hm : m < n) : DlB ((((w.setCell ⟨T, m * 4, none⟩ (.slice none 0 0)).setCell ⟨T, m * 4 + 1, none⟩ (.int .i64 (-1))).setCell ⟨T, m * 4 + 2, none⟩ (.int .i64 (-1))).setCell ⟨T, m * 4 + 3, none⟩ (.bool false)) T n (m + 1) := by
  obtain ⟨cur, hc⟩ := h.blk
  obtain ⟨c1, h1, _⟩ := heap_setCell hc (m * 4) (.slice none 0 0)
  obtain ⟨c2, h2, _⟩ := heap_setCell h1 (m * 4 + 1) (.int .i64 (-1))
  obtain ⟨c3, h3, _⟩ := heap_setCell h2 (m * 4 + 2) (.int .i64 (-1))
  obtain ⟨c4, h4, _⟩ := heap_setCell h3 (m * 4 + 3) (.bool false)
  refine ⟨⟨c4, h4⟩, fun t ht => ?_⟩
  obtain ⟨a, ⟨v, b, b'⟩, ⟨u, d, d'⟩, f⟩ := h.cel t ht
  have other : ∀ {i : Nat}, i ≠ m * 4 → i ≠ m * 4 + 1 → i ≠ m * 4 + 2 → i ≠ m * 4 + 3 → ((((w.setCell ⟨T, m * 4, none⟩ (.slice none 0 0)).setCell ⟨T, m * 4 + 1, none⟩ (.int .i64 (-1))).setCell ⟨T, m * 4 + 2, none⟩ (.int .i64 (-1))).setCell ⟨T, m * 4 + 3, none⟩ (.bool false)).cell? ⟨T, i, none⟩ = w.cell? ⟨T, i, none⟩ := fun n0 n1 n2 n3 => (World.cell?_setCell_other _ _ _ _ (offNe (Ne.symm n3))).trans ((World.cell?_setCell_other _ _ _ _ (offNe (Ne.symm n2))).trans ((World.cell?_setCell_other _ _ _ _ (offNe (Ne.symm n1))).trans (World.cell?_setCell_other _ _ _ _ (offNe (Ne.symm n0)))))
  by_cases e : t = m
  · subst e
    have o1 : ∀ (w : World) (x : Value) (i j : Nat), i ≠ j → (w.setCell ⟨T, j, none⟩ x).cell? ⟨T, i, none⟩ = w.cell? ⟨T, i, none⟩ := fun w x i j hij => World.cell?_setCell_other _ _ _ _ (offNe (Ne.symm hij))
    refine ⟨?_, ⟨-1, ?_, fun _ => rfl⟩, ⟨-1, ?_, fun _ => rfl⟩, ?_⟩
    · rw [o1 _ _ _ _ (by omega), o1 _ _ _ _ (by omega), o1 _ _ _ _ (by omega)]
      exact World.cell?_setCell_same' _ _ _ (by rw [a]; rfl)
    · rw [o1 _ _ _ _ (by omega), o1 _ _ _ _ (by omega)]
      exact World.cell?_setCell_same' _ _ _ (by rw [o1 _ _ _ _ (by omega), b]; rfl)
    · rw [o1 _ _ _ _ (by omega)]
      exact World.cell?_setCell_same' _ _ _ (by rw [o1 _ _ _ _ (by omega), o1 _ _ _ _ (by omega), d]; rfl)
    · exact World.cell?_setCell_same' _ _ _ (by rw [o1 _ _ _ _ (by omega), o1 _ _ _ _ (by omega), o1 _ _ _ _ (by omega), f]; rfl)
  · exact ⟨(other (by omega) (by omega) (by omega) (by omega)).trans a, ⟨v, (other (by omega) (by omega) (by omega) (by omega)).trans b, fun h => b' (by omega)⟩, ⟨u, (other (by omega) (by omega) (by omega) (by omega)).trans d, fun h => d' (by omega)⟩, (other (by omega) (by omega) (by omega) (by omega)).trans f⟩
theorem dlB_new (w : World) (n : Nat) : DlB (w.alloc (.cells (madeCells #[.slice none 0 0, .int .i64 0, .int .i64 0, .bool false] (n * 4)) 73)) w.heap.size n 0 := by
  have hn := heap_alloc_new w (.cells (madeCells #[.slice none 0 0, .int .i64 0, .int .i64 0, .bool false] (n * 4)) 73)
  refine ⟨⟨_, hn⟩, fun t ht => ?_⟩
  have key : ∀ j, j < 4 → (w.alloc (.cells (madeCells #[.slice none 0 0, .int .i64 0, .int .i64 0, .bool false] (n * 4)) 73)).cell? ⟨w.heap.size, t * 4 + j, none⟩ = some (#[Value.slice none 0 0, .int .i64 0, .int .i64 0, .bool false] : Array Value)[j]! := fun j hj => by
    rw [cell_of_row _ _ _ _ 73 _ hn, made_at _ _ _ (by omega)]
    have : (t * 4 + j) % (#[Value.slice none 0 0, .int .i64 0, .int .i64 0, .bool false] : Array Value).size = j := by
      show (t * 4 + j) % 4 = j
      omega
    rw [this]
  exact ⟨key 0 (by omega), ⟨0, key 1 (by omega), fun h => absurd h (by omega)⟩, ⟨0, key 2 (by omega), fun h => absurd h (by omega)⟩, key 3 (by omega)⟩

set_option maxRecDepth 100000 in
set_option maxHeartbeats 2000000 in
theorem new_any (n : Nat) (c : Bool) (W : World) (hn : n ≤ 8) : Calls Tryd.prog 8 #[.int .i64 (n : Int), .bool c] W fun e W' => ∃ k : PrK, e = .returned (.tuple #[.pointer (some ⟨k.B, 0, none⟩), .nilIface]) ∧ PrB W W' k c n mv0 ∧ ∀ b, k.own n b → W.heap.size ≤ b := by
  have g1 : ¬ (n : Int) < 0 := by omega
  have g2 : ¬ (8 : Int) < (n : Int) := by omega
  have hmk := made_deals W n (by omega)
  have HD0 := hideIt (dlB_new W n)
  have HB0 := hideIt (belA (Below.refl W.heap.size W) (.cells (madeCells #[.slice none 0 0, .int .i64 0, .int .i64 0, .bool false] (n * 4)) 73))
  have HS0 : Hid ((W.alloc (.cells (madeCells #[.slice none 0 0, .int .i64 0, .int .i64 0, .bool false] (n * 4)) 73)).heap.size = W.heap.size + 1) := by show _ = _; simp
  go_enter Tryd.func8, Tryd.ntmps8
  go_wp2_with fail
  generalize W.alloc (.cells (madeCells #[.slice none 0 0, .int .i64 0, .int .i64 0, .bool false] (n * 4)) 73) = W1 at *
  clear hmk
  have HBk := hideIt (heap_alloc_new W1 (prO ⟨W.heap.size + 1, W.heap.size, fun _ => .slice none 0 0, fun _ => .slice none 0 0⟩ c n 0))
  have HD1 : Hid (DlB (W1.alloc (prO ⟨W.heap.size + 1, W.heap.size, fun _ => .slice none 0 0, fun _ => .slice none 0 0⟩ c n 0)) W.heap.size n 0) := HD0.out.block (Below.heap_alloc _ _ _ HD0.out.lt)
  have HB1 := hideIt (belA HB0.out (prO ⟨W.heap.size + 1, W.heap.size, fun _ => .slice none 0 0, fun _ => .slice none 0 0⟩ c n 0))
  rw [HS0.out] at HBk
  unfold prO at HBk HD1 HB1
  clear HD0 HB0
  dsimp only at HBk HD1 HB1
  generalize W1.alloc _ = W2 at *
  go_loopw [25] (fun v wr => ∃ m : Nat, m ≤ n ∧ v = .int .i64 m ∧ DlB wr W.heap.size n m ∧ wr.heap[W.heap.size + 1]? = some (prO ⟨W.heap.size + 1, W.heap.size, fun _ => .slice none 0 0, fun _ => .slice none 0 0⟩ c n 0) ∧ Below W.heap.size W wr) (fun v _ => n - (intOf v).toNat)
  case atStart => exact ⟨0, Nat.zero_le _, rfl, HD1.out, HBk.out, HB1.out⟩
  case round =>
    clear HBk HD1 HB1
    obtain ⟨m, hm, rfl, hd, hk, hb⟩ := hrel
    have HD := hideIt hd
    have HB := hideIt hb
    have HK := hideIt hk
    by_cases hmn : m < n
    · have hmn' : (m : Int) < (n : Int) := by omega
      have hk' := hk
      unfold prO at hk'
      have b2 : wr.cell? ⟨W.heap.size + 1, 2, none⟩ = some (.slice (some ⟨W.heap.size, 0, none⟩) n n) := by rw [cell_of_row _ _ _ _ 70 _ hk']; rfl
      obtain ⟨x0, ⟨v, x1, _⟩, ⟨u, x2, _⟩, x3⟩ := hd.cel m hmn
      have f0 := hd.fz
      have HDn := hideIt (hd.put hmn)
      have HBn := hideIt ((((hb.setCell (p := ⟨W.heap.size, m * 4, none⟩) (Nat.le_refl _) (.slice none 0 0)).setCell (p := ⟨W.heap.size, m * 4 + 1, none⟩) (Nat.le_refl _) (.int .i64 (-1))).setCell (p := ⟨W.heap.size, m * 4 + 2, none⟩) (Nat.le_refl _) (.int .i64 (-1))).setCell (p := ⟨W.heap.size, m * 4 + 3, none⟩) (Nat.le_refl _) (.bool false))
      have HKn : Hid (((((wr.setCell ⟨W.heap.size, m * 4, none⟩ (.slice none 0 0)).setCell ⟨W.heap.size, m * 4 + 1, none⟩ (.int .i64 (-1))).setCell ⟨W.heap.size, m * 4 + 2, none⟩ (.int .i64 (-1))).setCell ⟨W.heap.size, m * 4 + 3, none⟩ (.bool false)).heap[W.heap.size + 1]? = some (prO ⟨W.heap.size + 1, W.heap.size, fun _ => .slice none 0 0, fun _ => .slice none 0 0⟩ c n 0)) := by
        have hne : W.heap.size + 1 ≠ W.heap.size := by omega
        exact (Below.heap_setCell _ ⟨W.heap.size, m * 4 + 3, none⟩ _ _ hne).trans ((Below.heap_setCell _ ⟨W.heap.size, m * 4 + 2, none⟩ _ _ hne).trans ((Below.heap_setCell _ ⟨W.heap.size, m * 4 + 1, none⟩ _ _ hne).trans ((Below.heap_setCell _ ⟨W.heap.size, m * 4, none⟩ _ _ hne).trans hk)))
      clear hd hb hk hk' HD HB HK
      go_wp2
      go_roundw
      case rel => exact ⟨m + 1, by omega, by go_num, HDn.out, HKn.out, HBn.out⟩
      case measure => simp [intOf]; omega
    · have hmn' : ¬ (m : Int) < (n : Int) := by omega
      have HP : Hid (PrB W wr ⟨W.heap.size + 1, W.heap.size, fun _ => .slice none 0 0, fun _ => .slice none 0 0⟩ c n mv0) := by
        refine ⟨hb, hk, hd.blk, fun t ht => ?_, fun t ht => World.ownsRow_nil _ _ _ _, fun q hq => World.ownsRow_nil _ _ _ _, ⟨Nat.le_succ _, Nat.le_refl _⟩, fun t u _ _ _ b hb' => (by cases hb'), fun p q _ _ _ b hb' => (by cases hb')⟩
        obtain ⟨a, ⟨v, b, b'⟩, ⟨u, d, d'⟩, f⟩ := hd.cel t ht
        rw [b' (by omega)] at b
        rw [d' (by omega)] at d
        exact ⟨a, b, d, f⟩
      clear hd hb hk
      go_wp2
      go_ret2
      exact ⟨_, rfl, HP.out, fun b hb => (HP.out.own_lt hb).1⟩
end Go.Proofs.YtaopigjhdkdklaaDoor
