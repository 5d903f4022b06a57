/-
  Locks in two phases: what Clashes and Careful tell of what was done.
  The statement LockAlone's body, walked, over what Play tells, where the picks' number is bounded.
-/
import Derived.Test.YthmiocbihhbdpaaLkAZ
import Derived.Test.YthmiocbihhbdpaaChW
import Derived.Test.YthmiocbihhbdpaaKcWZ
import Derived.Test.YthmiocbihhbdpaaSkWZ
import Derived.BigQuiet
namespace Go.Proofs.Ythmiocbihhbdpaa
open Go.RowKit

theorem LkI.order {p : List (List Stp)} {n : Nat} {st : LkS} (h : LkI p n st) : ∃ L, sgO st.done = some L := by
  unfold sgO
  refine ord_iff.2 fun x hx => ?_
  have := rises (f := fun t => eoN st.done (t : Int)) (fun i k hi hk hg => ?_) hx
  · omega
  · obtain ⟨a, b, h1, h2, _, h4, h5, h6⟩ := (sgR_gB st.done hi hk).1 hg
    unfold clB at h6
    simp only [Bool.and_eq_true, bne_iff_ne, beq_iff_eq, decide_eq_true_eq] at h6
    have := h.clash_in (f := doneB st.done) (fun s hs => by
      unfold doneB at hs
      simp only [Bool.and_eq_true, decide_eq_true_eq] at hs
      exact hs.1) h1 h2 h6.2.1 h6.2.2 h6.1
    have e1 : (stZ (st.done.filter (doneB st.done)) a).p = (i : Int) := h4
    have e2 : (stZ (st.done.filter (doneB st.done)) b).p = (k : Int) := h5
    rw [e1, e2] at this
    exact this
end Go.Proofs.Ythmiocbihhbdpaa

namespace Go.Proofs.Ythmiocbihhbdpaa
open Go.RowKit

theorem infoI : (Try.prog.info? 3).map (fun i => (i.zero, i.size, i.bytes)) = some (some (.int .i64 0), 1, 8) := by kernel_rfl
def intC (l : List Int) : List Value := l.map (Value.int .i64)
theorem run_appI {w : World} {base B : Nat} {v : Value} {L : List Int} {x : Int} (hown : w.ownsRow base 3 1 v L.length (intC L)) (h0 : w.cell? ⟨B, 0, none⟩ = some (.int .i64 x)) (hb : base ≤ w.heap.size) (hlen : (L.length + 1) * 8 ≤ 140737488355328) (ty : TypeId) :
    ∃ v' w', (Builtin.append_ #[24, 24] ty #[v, .slice (some ⟨B, 0, none⟩) 1 1]).run Try.prog w = .ok v' w' ∧ w'.ownsRow base 3 1 v' (L.length + 1) (intC (L ++ [x])) ∧ w.grownBy w' v.ownBlock ∧ (v'.ownBlock = v.ownBlock ∨ v'.ownBlock = some w.heap.size) := by
  obtain ⟨i, hi, hz, hsz, hby⟩ := info_parts' infoI
  have hnews : ∀ j u, [Value.int .i64 x][j]? = some u → w.cell? ((⟨B, 0, none⟩ : Addr).add j) = some u := by
    intro j u hj
    rw [Addr.add_mid, Nat.zero_add]
    match j, hj with
    | 0, hj => simp at hj; subst hj; exact h0
    | k + 1, hj => simp at hj
  obtain ⟨v', w', hr, ho, hg, _, hob⟩ := run_append_own_at (P := Try.prog) (w := w) base 24 ty 3 i _ 1 8 Try.underlying24 hi hz hsz hby rfl (by decide) v _ _ hown ⟨B, 0, none⟩ 1 1 [.int .i64 x] rfl hnews (by simp [Value.oneCell']) (by unfold maxLen; omega) (by omega) hb
  exact ⟨v', w', hr, by unfold intC at ho ⊢; rw [List.map_append]; exact ho, hg, hob⟩
theorem hasI_own {w : World} {base : Nat} {v : Value} {l : List Int} (h : w.ownsRow base 3 1 v l.length (intC l)) : HasI w v l := by
  obtain ⟨hl, ⟨rfl, h0⟩ | ⟨g, cap, cur, rfl, hb, hh, h1, h2, h3, h4⟩⟩ := h
  · have : l = [] := List.eq_nil_of_length_eq_zero h0
    subst this
    exact hasI_nil w
  · refine ⟨_, cap, rfl, h1, fun k hk => ⟨g, 0, rfl, ?_⟩⟩
    rw [cell_of_row _ _ _ _ 3 _ hh, Nat.zero_add]
    have e : (cur.toList.take (l.length * 1))[k]? = (intC l)[k]? := by rw [h4]
    rw [List.getElem?_take_of_lt (by omega), Array.getElem?_toList] at e
    rw [e]
    simp [intC, hk]

theorem alP_up (p : List (List Stp)) (t : Nat) : ∀ d, (alP p t).length ≤ (alP p (t + d)).length
  | 0 => Nat.le_refl _
  | d + 1 => Nat.le_trans (alP_up p t d) (by show (alP p (t + d)).length ≤ (alP p (t + d) ++ List.replicate ((plN p (t + d)).length + 1) ((t + d : Nat) : Int)).length; rw [List.length_append]; omega)
theorem alP_in (p : List (List Stp)) {t j : Nat} (ht : t < p.length) (hj : j ≤ (plN p t).length) : (alP p t ++ List.replicate j (t : Int)).length + 1 ≤ (alP p p.length).length := by
  have h := alP_up p (t + 1) (p.length - (t + 1))
  rw [show t + 1 + (p.length - (t + 1)) = p.length by omega] at h
  have h2 : (alP p (t + 1)).length = (alP p t).length + ((plN p t).length + 1) := by
    show (alP p t ++ List.replicate ((plN p t).length + 1) (t : Int)).length = _
    simp
  rw [List.length_append, List.length_replicate]
  omega

theorem alP_ge (p : List (List Stp)) : ∀ t, t ≤ (alP p t).length
  | 0 => Nat.le_refl _
  | t + 1 => by
    have := alP_ge p t
    show t + 1 ≤ (alP p t ++ List.replicate ((plN p t).length + 1) (t : Int)).length
    rw [List.length_append, List.length_replicate]
    omega

set_option maxRecDepth 100000 in
set_option maxHeartbeats 8000000 in
theorem alone_walk {Z : List (List Stp) → Prop} (hPly : PlayZ Z) (hZl : Z lqP) (p : List (List Stp)) (hz : Z p) (hS : (alP p p.length).length * 8 ≤ 140737488355328) (pa : Option Addr) (pc : Nat) (w : World) (hp : PlQ w pa p) :
    Calls Try.prog 4 #[.slice pa p.length pc] w fun e w' => e = .returned (.bool true) ∧ Below w.heap.size w w' := by
  have HPl := hideIt hPly
  have HP := hideIt hp
  have HZ := hideIt hz
  have hfew := alP_ge p p.length
  clear hPly hp hz
  go_enter Try.func4, Try.ntmps4
  go_wp2
  go_loopw [3, 4] (fun v i wz => ∃ t : Nat, t ≤ p.length ∧ i = .int .i64 t ∧ wz.ownsRow w.heap.size 3 1 v (alP p t).length (intC (alP p t)) ∧ Below w.heap.size w wz) (fun _ i _ => p.length - (intOf i).toNat)
  case atStart => exact ⟨0, Nat.zero_le _, rfl, ⟨by simp [alP, intC], .inl ⟨rfl, by simp [alP]⟩⟩, Below.refl _ _⟩
  case round =>
    obtain ⟨t, htp, rfl, hO, hB⟩ := hrel
    have HO := hideIt hO
    have HB := hideIt hB
    obtain ⟨va, vc, rfl⟩ := ownsRow_slice hO
    clear hO hB
    by_cases hin : t < p.length
    · go_wp2
      go_loopw [3, 5] (fun v i wz => ∃ j : Nat, j ≤ (plN p t).length + 1 ∧ i = .int .i64 j ∧ wz.ownsRow w.heap.size 3 1 v (alP p t ++ List.replicate j (t : Int)).length (intC (alP p t ++ List.replicate j (t : Int))) ∧ Below w.heap.size w wz) (fun _ i _ => (plN p t).length + 1 - (intOf i).toNat)
      case atStart => exact ⟨0, Nat.zero_le _, rfl, by simpa using HO.out, HB.out⟩
      case round =>
        clear HO HB
        obtain ⟨j, hj, rfl, hO, hB⟩ := hrel
        have HO := hideIt hO
        have HB := hideIt hB
        obtain ⟨va, vc, rfl⟩ := ownsRow_slice hO
        clear hO hB
        obtain ⟨pb, po, ra, rc, rfl, hpb, q0, q1, q2, q3⟩ := (HP.out.below HB.out).at hin
        unfold maxLen at q2
        have hpl := alP_in p hin (Nat.le_refl (plN p t).length)
        rw [List.length_append, List.length_replicate] at hpl
        clear q3 q2
        by_cases hjl : j ≤ (plN p t).length
        · have hle : decide ((j : Int) ≤ ((plN p t).length : Int)) = true := by simp; omega
          have hin' := alP_in p hin hjl
          have HX : Hid (alP p t ++ List.replicate (j + 1) (t : Int) = (alP p t ++ List.replicate j (t : Int)) ++ [(t : Int)]) := by
            show _ = _
            rw [List.replicate_succ', List.append_assoc]
          obtain ⟨L2, hL2⟩ : ∃ L2, L2 = alP p t ++ List.replicate (j + 1) (t : Int) := ⟨_, rfl⟩
          rw [← hL2] at HX
          have HL2 := hideIt hL2
          clear hL2
          generalize alP p t ++ List.replicate j (t : Int) = L at HO HX hin' ⊢
          have hOA : (wr.alloc (.cells #[.int .i64 (t : Int)] 3)).ownsRow w.heap.size 3 1 (.slice va L.length vc) L.length (intC L) := ownsRow_same HO.out fun b' hb' => Below.heap_alloc _ _ _ (ownsRow_block HO.out b' hb').2.1
          have hs3 : (wr.alloc (.cells #[.int .i64 (t : Int)] 3)).heap.size = wr.heap.size + 1 := by simp
          have hSA : (wr.alloc (.cells #[.int .i64 (t : Int)] 3)).cell? ⟨wr.heap.size, 0, none⟩ = some (.int .i64 (t : Int)) := cell_of_row _ _ _ _ 3 (0, 0) (heap_alloc_new wr _)
          obtain ⟨n1, w6, hr6, ho6, hg6, hob6⟩ := run_appI hOA hSA (by rw [hs3]; have := HB.out.size; omega) (by omega) 24
          have hB6 : Below w.heap.size w w6 := (belA HB.out _).grown hg6 (by rw [hs3]; have := HB.out.size; omega) (fun b' hb' => (ownsRow_block hOA b' hb').1)
          rw [← HX.out, show L.length + 1 = L2.length by rw [HX.out]; simp] at ho6
          obtain ⟨na, nc, hn1⟩ := ownsRow_slice ho6
          have HO6 := hideIt ho6
          have HB6 := hideIt hB6
          have HR6 := hideIt hr6
          clear hOA hs3 hSA ho6 hg6 hob6 hB6 hr6 HO hin'
          subst hn1
          go_wp2_with (at_builtin; refine wpList_append_run _ rfl _ _ 24 rfl _ _ _ w6 rfl rfl HR6.out ?_)
          go_roundw
          case rel => exact ⟨j + 1, by omega, by go_num, by rw [← HL2.out]; exact HO6.out, HB6.out⟩
          case measure => simp [intOf]; omega
        · have hle : decide ((j : Int) ≤ ((plN p t).length : Int)) = false := by simp; omega
          obtain rfl : j = (plN p t).length + 1 := by omega
          go_wp2
          go_roundw
          case rel => exact ⟨t + 1, by omega, by go_num, HO.out, HB.out⟩
          case measure => simp [intOf]; omega
    obtain rfl : t = p.length := by omega
    have HK := hideIt (hasI_own HO.out)
    clear HO hin
    obtain ⟨ks, hks⟩ : ∃ ks, ks = alP p p.length := ⟨_, rfl⟩
    have HKs := hideIt hks
    rw [← hks] at HK hS ⊢
    clear hks
    by_cases h150 : ks.length ≤ 150
    rotate_left 1
    · have h150' : (150 : Int) < ks.length := by omega
      go_wp2
      go_ret
      exact ⟨rfl, HB.out⟩
    have h150' : ¬ (150 : Int) < ks.length := by omega
    have hkm : ks.length ≤ maxLen := by unfold maxLen; omega
    have HPw := hideIt (HP.out.below HB.out)
    have HPy := hideIt (HPl.out p ks pa va pc vc wr HZ.out hkm HPw.out HK.out)
    unfold PlTold at HPy
    go_wp2_with fail
    refine HPy.out.mono ?_
    rintro e W1 ⟨a, c, vw, vv, rfl, hs, hw, hv, hb1⟩
    obtain ⟨wa, wc, rfl⟩ := hw.form
    obtain ⟨ya, yc, rfl⟩ := hv.form
    have h7 := heap_alloc_new W1 (.cells #[.slice a (dnY p ks).length c, .slice wa (wtY p ks).length wc, .slice ya (vcY p ks).length yc] 27)
    have HD : Hid (StpsQ (W1.alloc (.cells #[.slice a (dnY p ks).length c, .slice wa (wtY p ks).length wc, .slice ya (vcY p ks).length yc] 27)) a (dnY p ks) ∧ HasI (W1.alloc (.cells #[.slice a (dnY p ks).length c, .slice wa (wtY p ks).length wc, .slice ya (vcY p ks).length yc] 27)) (.slice wa (wtY p ks).length wc) (wtY p ks) ∧ Below w.heap.size w (W1.alloc (.cells #[.slice a (dnY p ks).length c, .slice wa (wtY p ks).length wc, .slice ya (vcY p ks).length yc] 27))) :=
      ⟨hs.below (belA (Below.refl _ _) _), hw.below (belA (Below.refl _ _) _), belA (belJ HB.out hb1) _⟩
    clear HPy hs hw hv hb1 HPw HK HB
    go_wp2_with fail
    generalize W1.alloc _ = W2 at h7 HD ⊢
    generalize W1.heap.size = b7 at h7 ⊢
    have HBx : Hid (∀ Z, Below W2.heap.size W2 Z → Z.cell? ⟨b7, 0, none⟩ = some (.slice a (dnY p ks).length c) ∧ Z.cell? ⟨b7, 1, none⟩ = some (.slice wa (wtY p ks).length wc) ∧ Z.cell? ⟨b7, 2, none⟩ = some (.slice ya (vcY p ks).length yc)) := fun Z hZ => by
      have k7 := (hZ.block _ (lt_of_heap h7)).trans h7
      exact ⟨cell_of_row _ _ _ _ 27 _ k7, cell_of_row _ _ _ _ 27 _ k7, cell_of_row _ _ _ _ 27 _ k7⟩
    clear h7
    refine (locks_any HPl.out hZl W2).mono ?_
    rintro e W3 ⟨rfl, hb3⟩
    have HB3 := hideIt hb3
    clear hb3
    by_cases hf : fltY p ks = 0
    rotate_left 1
    · have HDn : Hid (dnY p ks = []) := by unfold dnY; rw [if_neg hf]; rfl
      rw [HDn.out] at HBx
      rw [show toldV (fltY p ks) = .iface 45 (.int .i64 (fltY p ks)) from by unfold toldV; rw [if_neg hf]]
      clear hf
      go_wp2_with fail
      refine (locks_any HPl.out hZl W3).mono ?_
      rintro e W4 ⟨rfl, hb4⟩
      obtain ⟨x0, x1, x2⟩ := HBx.out _ (belJ HB3.out hb4)
      have HFi := hideIt (belJ HD.out.2.2 (belJ HB3.out hb4))
      clear hb4 HBx HD
      go_wp2
      go_ret
      exact ⟨rfl, HFi.out⟩
    have hfl : fltL p = 0 := by
      unfold fltY at hf
      split at hf
      · assumption
      · exact absurd hf (by assumption)
    obtain ⟨hd60, hv60, hp8⟩ := done_few hfl ks
    obtain ⟨hplk, hlef⟩ := fltL_ok hfl
    have hal := alone hplk
    rw [← HKs.out] at hal
    have HDn : Hid (dnY p ks = (lkP p ks).done) := by unfold dnY; rw [if_pos hf]; rfl
    have HWt : Hid (wtY p ks = List.replicate p.length 0) := by
      show _ = _
      unfold wtY
      rw [if_pos hf]
      apply List.ext_getElem (by simp)
      intro i h1 h2
      simp [hal.cnt]
    have HVc : Hid (vcY p ks = []) := by
      show _ = _
      unfold vcY
      rw [if_pos hf, hal.vic]
      rfl
    have hcm := hal.com
    rw [hf, show toldV 0 = .nilIface from rfl]
    rw [HDn.out, HWt.out, HVc.out] at HBx
    rw [HDn.out, HWt.out] at HD
    rw [HDn.out, HWt.out, HVc.out]
    clear hf hfl HDn HWt HVc hplk hlef hal HKs
    generalize (lkP p ks).done = D at hcm hd60 HBx HD ⊢
    rw [List.length_replicate] at HBx ⊢
    go_wp2
    go_loopw [8] (fun i wz => ∃ k : Nat, k ≤ p.length ∧ i = .int .i64 k ∧ wz = W3) (fun i _ => p.length - (intOf i).toNat)
    case atStart => exact ⟨0, Nat.zero_le _, rfl, rfl⟩
    case round =>
      obtain ⟨k, hk, rfl, rfl⟩ := hrel
      obtain ⟨x0, x1, x2⟩ := HBx.out _ HB3.out
      by_cases hkl : k < p.length
      · obtain ⟨aa, cc, e1, hcc, hat⟩ := HD.out.2.1.below HB3.out
        rw [List.length_replicate] at e1 hcc
        obtain ⟨rfl, rfl⟩ : wa = aa ∧ wc = cc := by
          injection e1 with h1 h2 h3
          exact ⟨h1, h3⟩
        obtain ⟨g, go, rfl, hcell⟩ := hat k (by simpa using hkl)
        rw [List.getElem_replicate] at hcell
        clear hat e1
        go_wp2
        go_roundw
        case rel => exact ⟨k + 1, by omega, by go_num, trivial⟩
        case measure => simp [intOf]; omega
      have HCm := hideIt (commits_any D a c _ (by omega) (HD.out.1.below HB3.out))
      go_wp2_with fail
      refine HCm.out.mono ?_
      rintro e W9 ⟨rfl, hb9⟩
      rw [hcm]
      have HFi := hideIt (belJ HD.out.2.2 (belJ HB3.out hb9))
      clear hb9 HCm
      go_wp2
      go_ret
      exact ⟨rfl, HFi.out⟩
end Go.Proofs.Ythmiocbihhbdpaa
