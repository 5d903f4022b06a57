/-
  The statement LockTwoPhase's body, walked, over what Play tells.
-/
import Derived.Test.YthmiocbihhbdpaaKcWZ
import Derived.Test.YthmiocbihhbdpaaKtPZ
import Derived.Test.YthmiocbihhbdpaaCfW
import Derived.BigQuiet
namespace Go.Proofs.Ythmiocbihhbdpaa
open Go.RowKit

set_option maxRecDepth 100000 in
set_option maxHeartbeats 8000000 in
theorem two_walk {Z : List (List Stp) → Prop} (hPly : PlayZ Z) (hZl : Z lqP) (p : List (List Stp)) (ks : List Int) (hz : Z p) (hpm : p.length ≤ maxLen) (pa ka : Option Addr) (pc kc : Nat) (w : World) (hp : PlQ w pa p) (hk : HasI w (.slice ka ks.length kc) ks) (hkm : ks.length ≤ maxLen) :
    Calls Try.prog 3 #[.slice pa p.length pc, .slice ka ks.length kc] w fun e w' => e = .returned (.bool true) ∧ Below w.heap.size w w' := by
  have HPl := hideIt hPly
  have HP := hideIt hp
  have HK := hideIt hk
  have HZ := hideIt hz
  have hfew := hpm
  unfold maxLen at hfew
  have hkm' := hkm
  unfold maxLen at hkm'
  clear hPly hp hk hz
  go_enter Try.func3, Try.ntmps3
  go_wp2
  go_loopw [5, 6] (fun n i wr => ∃ (q : Int) (k : Nat), k ≤ p.length ∧ n = .int .i64 q ∧ i = .int .i64 k ∧ wr = w) (fun _ i _ => p.length - (intOf i).toNat)
  case atStart => exact ⟨_, 0, Nat.zero_le _, rfl, rfl, rfl⟩
  case round =>
    obtain ⟨q, k, hkp, rfl, rfl, rfl⟩ := hrel
    by_cases hin : k < p.length
    · obtain ⟨b, off, ra, rc, rfl, hbl, q0, q1, q2, q3⟩ := HP.out.at hin
      unfold maxLen at q2
      clear q3
      go_wp2
      go_roundw
      case rel => exact ⟨_, k + 1, by omega, rfl, by go_num, trivial⟩
      case measure => simp [intOf]; omega
    by_cases h80 : q > 80
    · go_wp2
      go_ret
      exact ⟨rfl, Below.refl _ _⟩
    by_cases h210 : ks.length ≤ 210
    rotate_left 1
    · have h210' : (210 : Int) < ks.length := by omega
      go_wp2
      go_ret
      exact ⟨rfl, Below.refl _ _⟩
    have h210' : ¬ (210 : Int) < ks.length := by omega
    have HPy := hideIt (HPl.out p ks pa ka pc kc wr HZ.out hkm HP.out HK.out)
    unfold PlTold at HPy
    go_wp2_with fail
    refine HPy.out.mono ?_
    rintro e W1 ⟨a, c, vw, vv, rfl, hs, hw, hv, hb1⟩
    obtain ⟨wa, wc, rfl⟩ := hw.form
    obtain ⟨ya, yc, rfl⟩ := hv.form
    have HB1 := hideIt hb1
    have h7 := heap_alloc_new W1 (.cells #[.slice a (dnY p ks).length c, .slice wa (wtY p ks).length wc, .slice ya (vcY p ks).length yc] 27)
    have HD : Hid (StpsQ (W1.alloc (.cells #[.slice a (dnY p ks).length c, .slice wa (wtY p ks).length wc, .slice ya (vcY p ks).length yc] 27)) a (dnY p ks) ∧ HasI (W1.alloc (.cells #[.slice a (dnY p ks).length c, .slice wa (wtY p ks).length wc, .slice ya (vcY p ks).length yc] 27)) (.slice ya (vcY p ks).length yc) (vcY p ks) ∧ PlQ (W1.alloc (.cells #[.slice a (dnY p ks).length c, .slice wa (wtY p ks).length wc, .slice ya (vcY p ks).length yc] 27)) pa p ∧ Below wr.heap.size wr (W1.alloc (.cells #[.slice a (dnY p ks).length c, .slice wa (wtY p ks).length wc, .slice ya (vcY p ks).length yc] 27))) :=
      ⟨hs.below (belA (Below.refl _ _) _), hv.below (belA (Below.refl _ _) _), (HP.out.below hb1).below (belA (Below.refl _ _) _), belA hb1 _⟩
    clear HPy hs hw hv hb1 HB1
    go_wp2_with fail
    generalize W1.alloc _ = W2 at h7 HD ⊢
    generalize W1.heap.size = b7 at h7 ⊢
    have HBx : Hid (∀ Z, Below W2.heap.size W2 Z → Z.cell? ⟨b7, 0, none⟩ = some (.slice a (dnY p ks).length c) ∧ Z.cell? ⟨b7, 1, none⟩ = some (.slice wa (wtY p ks).length wc) ∧ Z.cell? ⟨b7, 2, none⟩ = some (.slice ya (vcY p ks).length yc)) := fun Z hZ => by
      have k7 := (hZ.block _ (lt_of_heap h7)).trans h7
      exact ⟨cell_of_row _ _ _ _ 27 _ k7, cell_of_row _ _ _ _ 27 _ k7, cell_of_row _ _ _ _ 27 _ k7⟩
    clear h7
    refine (locks_any HPl.out hZl W2).mono ?_
    rintro e W3 ⟨rfl, hb3⟩
    have HB3 := hideIt hb3
    clear hb3
    by_cases hf : fltY p ks = 0
    rotate_left 1
    · have HDn : Hid (dnY p ks = []) := by unfold dnY; rw [if_neg hf]; rfl
      rw [HDn.out] at HBx
      rw [show toldV (fltY p ks) = .iface 45 (.int .i64 (fltY p ks)) from by unfold toldV; rw [if_neg hf]]
      clear hf
      go_wp2_with fail
      refine (locks_any HPl.out hZl W3).mono ?_
      rintro e W4 ⟨rfl, hb4⟩
      obtain ⟨x0, x1, x2⟩ := HBx.out _ (belJ HB3.out hb4)
      have HFi := hideIt (belJ HD.out.2.2.2 (belJ HB3.out hb4))
      clear hb4 HBx HD
      go_wp2
      go_ret
      exact ⟨rfl, HFi.out⟩
    have HDn : Hid (dnY p ks = (lkP p ks).done) := by unfold dnY; rw [if_pos hf]; rfl
    have HWt : Hid (wtY p ks = (List.range p.length).map fun t => ((lkP p ks).cnt t : Int)) := by unfold wtY; rw [if_pos hf]; rfl
    have HVc : Hid (vcY p ks = natI (lkP p ks).vic) := by unfold vcY; rw [if_pos hf]; rfl
    have hfl : fltL p = 0 := by
      unfold fltY at hf
      split at hf
      · assumption
      · exact absurd hf (by assumption)
    obtain ⟨hd60, hv60, hp8⟩ := done_few hfl ks
    obtain ⟨hplk, hlef⟩ := fltL_ok hfl
    obtain ⟨hI, hAl⟩ := lkP_ok hplk ks
    have HI := hideIt hI
    have HAl := hideIt hAl
    have hck := hI.ckS hlef
    have hor := hI.order
    have hst := hI.strict
    rw [hf, show toldV 0 = .nilIface from rfl]
    have hwl : (wtY p ks).length = p.length := by rw [HWt.out]; simp
    rw [hwl] at HBx ⊢
    rw [HDn.out, HVc.out] at HBx HD
    rw [HDn.out, HVc.out]
    clear hf hfl hwl HDn HWt HVc hplk hlef hI hAl
    generalize lkP p ks = st at HI HAl hd60 hv60 hck hor hst HBx HD ⊢
    obtain ⟨x0, x1, x2⟩ := HBx.out _ HB3.out
    have hml : st.done.length ≤ maxLen := by unfold maxLen; omega
    have HCl := hideIt (clashes_any st.done a c W3 hml (HD.out.1.below HB3.out))
    unfold ChTold at HCl
    go_wp2_with fail
    refine HCl.out.mono ?_
    rintro e W4 ⟨v1, v2, er, n1, pl1, rfl, hc1, hb4, hcase⟩
    obtain ⟨rfl, rfl⟩ := hc1.one hck
    obtain ⟨L, hL⟩ := hor
    obtain rfl : er = .nilIface := by
      rcases hcase with ⟨h, _⟩ | ⟨_, _, _, _, _, h⟩ | ⟨_, h, _⟩
      · exact absurd rfl h
      · exact h
      · rw [hL] at h; cases h
    have HB4 := hideIt (belJ HB3.out hb4)
    clear HCl hcase hb4 hL x0 x1 x2 hc1
    obtain ⟨x0, x1, x2⟩ := HBx.out _ HB4.out
    have HCf := hideIt (careful_any st.done a c W4 hml (HD.out.1.below HB4.out))
    unfold CfTold at HCf
    go_wp2_with fail
    refine HCf.out.mono ?_
    rintro e W5 ⟨r5, c5, s5, er5, n5, pl5, rfl, he5, hc5, _, hk5, hb5⟩
    obtain ⟨rfl, rfl⟩ := hc5.one hck
    obtain ⟨e1, e2, e3⟩ := hk5 rfl
    rw [hst] at e3
    rw [kinds_strict hst] at e2
    rw [kinds_clean (kinds_strict hst)] at e1
    subst e1 e2 e3
    obtain rfl : er5 = .nilIface := by
      rcases he5 with ⟨_, _, h⟩ | ⟨h, _⟩ | ⟨h, _⟩
      · exact h
      · exact absurd rfl h
      · exact absurd rfl h
    have h12 := heap_alloc_new W5 (.cells #[.bool true, .bool true, .bool true] 36)
    have HB6 : Hid (Below W2.heap.size W2 (W5.alloc (.cells #[.bool true, .bool true, .bool true] 36))) := hideIt (belA (belJ HB4.out hb5) _)
    clear HCf he5 hk5 hb5 x0 x1 x2 hc5 hck hst HB4 HB3
    obtain ⟨x0, x1, x2⟩ := HBx.out _ HB6.out
    obtain ⟨y0, y1, y2⟩ : (W5.alloc (.cells #[.bool true, .bool true, .bool true] 36)).cell? ⟨W5.heap.size, 0, none⟩ = some (.bool true) ∧ (W5.alloc (.cells #[.bool true, .bool true, .bool true] 36)).cell? ⟨W5.heap.size, 1, none⟩ = some (.bool true) ∧ (W5.alloc (.cells #[.bool true, .bool true, .bool true] 36)).cell? ⟨W5.heap.size, 2, none⟩ = some (.bool true) :=
      ⟨cell_of_row _ _ _ _ 36 _ h12, cell_of_row _ _ _ _ 36 _ h12, cell_of_row _ _ _ _ 36 _ h12⟩
    clear h12
    go_wp2
    clear x0 x1 x2 y0 y1 y2
    generalize W5.alloc _ = W6 at HB6 ⊢
    go_loopw [14] (fun i wz => ∃ t : Nat, t ≤ p.length ∧ i = .int .i64 t ∧ Below W2.heap.size W2 wz) (fun i _ => p.length - (intOf i).toNat)
    case atStart => exact ⟨0, Nat.zero_le _, rfl, HB6.out⟩
    case round =>
      clear HB6
      rename_i wz _ _
      obtain ⟨t, htp, rfl, hBz⟩ := hrel
      have HBz := hideIt hBz
      clear hBz
      by_cases hin2 : t < p.length
      rotate_left 1
      · go_wp2
        go_ret
        exact ⟨rfl, belJ HD.out.2.2.2 HBz.out⟩
      have hov : st.ov t = true := by
        have := HAl.out
        unfold allO at this
        rw [List.all_eq_true] at this
        exact this t (List.mem_range.2 hin2)
      have HOw := hideIt (HI.out.own_over hin2 hov)
      have HFi := hideIt (HI.out.fin t hin2 hov)
      have HPo := hideIt (HI.out.pos t)
      clear hov
      go_wp2
      go_loopw [15, 16] (fun v i wy => ∃ k : Nat, k ≤ st.done.length ∧ i = .int .i64 k ∧ wy.ownsRow W2.heap.size 40 3 v (ownL (st.done.take k) t).length (stpC (ownL (st.done.take k) t)) ∧ Below W2.heap.size W2 wy) (fun _ i _ => st.done.length - (intOf i).toNat)
      case atStart => exact ⟨0, Nat.zero_le _, rfl, ⟨by simp [ownL, stpC], .inl ⟨rfl, by simp [ownL]⟩⟩, HBz.out⟩
      case round =>
        clear HBz
        obtain ⟨k, hk, rfl, hO, hB⟩ := hrel
        have HO := hideIt hO
        have HB := hideIt hB
        obtain ⟨va, vc, rfl⟩ := ownsRow_slice hO
        clear hO hB
        obtain ⟨x0, x1, x2⟩ := HBx.out _ HB.out
        have hol : (ownL (st.done.take k) t).length ≤ 60 := by
          unfold ownL
          exact Nat.le_trans (List.length_filter_le _ _) (by rw [List.length_take]; omega)
        by_cases hkl : k < st.done.length
        · obtain ⟨b, off, rfl, hlt, hst⟩ : ∃ b off, a = some ⟨b, off, none⟩ ∧ b < W2.heap.size ∧ StpsAt W2 b off st.done := by
            rcases HD.out.1 with h | h
            · rw [h] at hkl; simp at hkl
            · exact h
          obtain ⟨c0, c1, c2⟩ := (hst k hkl).below hlt HB.out
          have HX : Hid (ownL (st.done.take (k + 1)) t = if st.done[k].p = (t : Int) then ownL (st.done.take k) t ++ [st.done[k]] else ownL (st.done.take k) t) := by
            rw [List.take_succ_eq_append_getElem hkl]
            exact ownL_app _ _ _
          generalize st.done[k] = x at c0 c1 c2 HX
          clear hst
          have hbl : b < wr.heap.size := Nat.lt_of_lt_of_le hlt HB.out.size
          by_cases hxt : x.p = (t : Int)
          · rw [if_pos hxt] at HX
            have hbt : (x.p == (t : Int)) = true := by simp [hxt]
            have hOA : (wr.alloc (.cells #[.int .i64 x.p, .int .i64 x.k, .int .i64 x.m] 40)).ownsRow W2.heap.size 40 3 (.slice va (ownL (st.done.take k) t).length vc) (ownL (st.done.take k) t).length (stpC (ownL (st.done.take k) t)) := ownsRow_same HO.out fun b' hb' => Below.heap_alloc _ _ _ (ownsRow_block HO.out b' hb').2.1
            have hs3 : (wr.alloc (.cells #[.int .i64 x.p, .int .i64 x.k, .int .i64 x.m] 40)).heap.size = wr.heap.size + 1 := by simp
            have hSA : StpAt (wr.alloc (.cells #[.int .i64 x.p, .int .i64 x.k, .int .i64 x.m] 40)) wr.heap.size 0 x := by
              have e : (wr.alloc (.cells #[.int .i64 x.p, .int .i64 x.k, .int .i64 x.m] 40)).heap[wr.heap.size]? = some (.cells #[.int .i64 x.p, .int .i64 x.k, .int .i64 x.m] 40 (0, 0)) := heap_alloc_new wr _
              exact ⟨cell_of_row _ _ _ _ 40 (0, 0) e, cell_of_row _ _ _ _ 40 (0, 0) e, cell_of_row _ _ _ _ 40 (0, 0) e⟩
            obtain ⟨n1, w6, hr6, ho6, hg6, hob6⟩ := run_appT hOA hSA (by rw [hs3]; have := HB.out.size; omega) (by omega) 25
            have hB6 : Below W2.heap.size W2 w6 := (belA HB.out _).grown hg6 (by rw [hs3]; have := HB.out.size; omega) (fun b' hb' => (ownsRow_block hOA b' hb').1)
            rw [← HX.out, show (ownL (st.done.take k) t).length + 1 = (ownL (st.done.take (k + 1)) t).length by rw [HX.out]; simp] at ho6
            obtain ⟨na, nc, hn1⟩ := ownsRow_slice ho6
            have HO6 := hideIt ho6
            have HB6 := hideIt hB6
            have HR6 := hideIt hr6
            clear hOA hs3 hSA ho6 hg6 hob6 hB6 hr6
            subst hn1
            have hx1 : ¬ b = wr.heap.size := by omega
            have hx2 : ¬ wr.heap.size = b := by omega
            have Hxt := hideIt hxt
            clear hxt
            go_wp2_with (at_builtin; refine wpList_append_run _ rfl _ _ 25 rfl _ _ _ w6 rfl rfl HR6.out ?_)
            go_roundw
            case rel => exact ⟨k + 1, by omega, by go_num, HO6.out, HB6.out⟩
            case measure => simp [intOf]; omega
          · rw [if_neg hxt] at HX
            have hbt : (x.p == (t : Int)) = false := by simp [hxt]
            clear hxt
            go_wp2
            go_roundw
            case rel => exact ⟨k + 1, by omega, by go_num, by rw [HX.out]; exact HO.out, HB.out⟩
            case measure => simp [intOf]; omega
        obtain rfl : k = st.done.length := by omega
        rw [List.take_length] at HO hol ⊢
        obtain ⟨va', vc', hva, hvc, hsq⟩ := stpsQ_ownT HO.out
        have HSq := hideIt hsq
        obtain ⟨rfl, rfl⟩ : va = va' ∧ vc = vc' := by
          injection hva with h1 h2 h3
          exact ⟨h1, h3⟩
        clear hva hsq HO hkl hk
        go_wp2
        go_loopw [17, 18] (fun e i wy => ∃ k : Nat, k ≤ st.vic.length ∧ i = .int .i64 k ∧ e = .bool ((st.vic.take k).contains t) ∧ wy = wr) (fun _ i _ => st.vic.length - (intOf i).toNat)
        case atStart => exact ⟨0, Nat.zero_le _, rfl, rfl, rfl⟩
        case round =>
          obtain ⟨k, hk, rfl, rfl, rfl⟩ := hrel
          by_cases hkl : k < st.vic.length
          · have hkn : k < (natI st.vic).length := by unfold natI; simpa using hkl
            obtain ⟨aa, cc, e1, hcc, hat⟩ := HD.out.2.1.below HB.out
            obtain ⟨rfl, rfl⟩ : ya = aa ∧ yc = cc := by
              injection e1 with h1 h2 h3
              exact ⟨h1, h3⟩
            obtain ⟨g, go, rfl, hcell⟩ := hat k hkn
            have hxx : (natI st.vic)[k] = (st.vic[k] : Int) := by simp [natI]
            rw [hxx] at hcell
            have HX : Hid ((st.vic.take (k + 1)).contains t = ((st.vic.take k).contains t || ((st.vic[k] : Int) == (t : Int)))) := by
              rw [List.take_succ_eq_append_getElem hkl]
              simp only [List.contains_eq_mem, List.mem_append, List.mem_singleton, Bool.decide_or]
              congr 1
              by_cases h : t = st.vic[k]
              · simp [← h]
              · have h' : ¬ ((st.vic[k] : Int) = (t : Int)) := by omega
                simp [h, h']
            clear hat e1 hxx
            have hnl : (natI st.vic).length = st.vic.length := by unfold natI; simp
            rw [hnl] at x2 hcc
            generalize (st.vic.take k).contains t = d at HX ⊢
            generalize (st.vic[k] : Int) = z at HX hcell
            cases d <;> go_wp2 <;> go_roundw
            all_goals first
              | exact ⟨k + 1, by omega, by go_num, by rw [HX.out]; simp, trivial⟩
              | (simp [intOf]; omega)
          obtain rfl : k = st.vic.length := by omega
          rw [List.take_length]
          have hnl : (natI st.vic).length = st.vic.length := by unfold natI; simp
          rw [hnl] at x2
          obtain ⟨pb, po, ra, rc, hpa, hpb, q0, q1, q2, q3⟩ := (HD.out.2.2.1.below HB.out).at hin2
          subst hpa
          have HQ3 := hideIt q3
          clear q3 hnl hkl hk
          unfold maxLen at q2
          have hpo := HPo.out
          have hlen : (ownL st.done t).length = st.pos t + 1 := by
            rw [HOw.out]
            simp only [List.length_append, List.length_take, List.length_singleton]
            omega
          obtain ⟨ob, oo, rfl, hob, hos⟩ : ∃ b off, va = some ⟨b, off, none⟩ ∧ b < wr.heap.size ∧ StpsAt wr b off (ownL st.done t) := by
            rcases HSq.out with h | h
            · rw [h] at hlen; simp at hlen
            · exact h
          have HRow : Hid (∀ k, k < st.pos t → StpAt wr ob (oo + k * 3) (stZ (plN p t) k)) := by
            intro k hk
            have h1 := hos k (by omega)
            have h2 : (ownL st.done t)[k]'(by omega) = stZ (plN p t) k := by
              rw [stZ_at (by omega)]
              simp only [HOw.out]
              rw [List.getElem_append_left (by rw [List.length_take]; omega), List.getElem_take]
            rw [h2] at h1
            exact h1
          have hls : wr.cell? ⟨ob, oo + st.pos t * 3 + 1, none⟩ = some (.int .i64 (if t ∈ st.vic then 4 else 3)) := by
            have h1 := (hos (st.pos t) (by omega)).2.1
            have h2 : (ownL st.done t)[st.pos t]'(by omega) = ⟨(t : Int), if t ∈ st.vic then 4 else 3, 0⟩ := by
              simp only [HOw.out]
              rw [List.getElem_append_right (by rw [List.length_take]; omega)]
              simp
            rw [h2] at h1
            exact h1
          rw [hlen] at hol hvc ⊢
          have hidx : IntKind.i64.wrap (((st.pos t + 1 : Nat) : Int) - 1) = (st.pos t : Int) := by rw [IntKind.wrap_i64]; omega
          have hz0 : decide (((st.pos t + 1 : Nat) : Int) = 0) = false := by simp; omega
          have hfi := HFi.out
          rw [List.contains_eq_mem]
          clear hos HFi HOw HSq hlen HPo
          generalize st.pos t = m at *
          generalize hpl : plN p t = P at *
          by_cases hv : t ∈ st.vic
          · rw [if_pos hv] at hls
            rw [decide_eq_true hv]
            clear hfi hv
            go_wp2
            clear hls hidx hz0 x0 x1 x2
            go_loopw [20] (fun i wv => ∃ k : Nat, k ≤ m ∧ i = .int .i64 k ∧ Below wr.heap.size wr wv) (fun i _ => m - (intOf i).toNat)
            case atStart => exact ⟨0, Nat.zero_le _, rfl, Below.refl _ _⟩
            case round =>
              obtain ⟨k, hk, rfl, hB5⟩ := hrel
              have HB5 := hideIt hB5
              clear hB5
              have hwk : IntKind.i64.wrap ((k : Int) + 1) = (k : Int) + 1 := by rw [IntKind.wrap_i64]; omega
              by_cases hkl : k < m
              · have hlt : decide ((k : Int) + 1 < ((m + 1 : Nat) : Int)) = true := by simp; omega
                have hge : decide ((P.length : Int) ≤ (k : Int)) = false := by simp; omega
                have hge2 : decide (P.length ≤ k) = false := by simp; omega
                have hge3 : k < P.length := by omega
                obtain ⟨c0, c1, c2⟩ := (HRow.out k hkl).below hob HB5.out
                have q0' := (HB5.out.cell (p := ⟨pb, po + t, none⟩) hpb).trans q0
                obtain ⟨pb2, po2, rfl, hp2, hps⟩ : ∃ b off, ra = some ⟨b, off, none⟩ ∧ b < wr.heap.size ∧ StpsAt wr b off P := by
                  rcases HQ3.out.below HB5.out with h | h
                  · have h0 : P.length = 0 := by rw [h]; rfl
                    omega
                  · exact h
                obtain ⟨d0, d1, d2⟩ := hps k (by omega)
                rw [← stZ_at (by omega)] at d0 d1 d2
                clear hps
                generalize stZ P k = x at c0 c1 c2 d0 d1 d2
                go_wp2_with fail
                go_quiet (fail)
                go_wp2
                go_roundw
                case rel => exact ⟨k + 1, by omega, by go_num, below_drewN HB5.out _⟩
                case measure => simp [intOf]; omega
              · obtain rfl : k = m := by omega
                have hlt : decide ((k : Int) + 1 < ((k + 1 : Nat) : Int)) = false := by simp
                go_wp2
                go_roundw
                case rel => exact ⟨t + 1, by omega, by go_num, belJ HB.out HB5.out⟩
                case measure => simp [intOf]; omega
          · rw [if_neg hv] at hls
            rw [decide_eq_false hv]
            obtain rfl := hfi hv
            clear hfi hv
            go_wp2
            clear hls hidx hz0 x0 x1 x2
            go_loopw [20] (fun i wv => ∃ k : Nat, k ≤ P.length ∧ i = .int .i64 k ∧ Below wr.heap.size wr wv) (fun i _ => P.length - (intOf i).toNat)
            case atStart => exact ⟨0, Nat.zero_le _, rfl, Below.refl _ _⟩
            case round =>
              obtain ⟨k, hk, rfl, hB5⟩ := hrel
              have HB5 := hideIt hB5
              clear hB5
              have hwk : IntKind.i64.wrap ((k : Int) + 1) = (k : Int) + 1 := by rw [IntKind.wrap_i64]; omega
              by_cases hkl : k < P.length
              · have hlt : decide ((k : Int) + 1 < ((P.length + 1 : Nat) : Int)) = true := by simp; omega
                have hge : decide ((P.length : Int) ≤ (k : Int)) = false := by simp; omega
                have hge2 : decide (P.length ≤ k) = false := by simp; omega
                have hge3 : k < P.length := by omega
                obtain ⟨c0, c1, c2⟩ := (HRow.out k hkl).below hob HB5.out
                have q0' := (HB5.out.cell (p := ⟨pb, po + t, none⟩) hpb).trans q0
                obtain ⟨pb2, po2, rfl, hp2, hps⟩ : ∃ b off, ra = some ⟨b, off, none⟩ ∧ b < wr.heap.size ∧ StpsAt wr b off P := by
                  rcases HQ3.out.below HB5.out with h | h
                  · have h0 : P.length = 0 := by rw [h]; rfl
                    omega
                  · exact h
                obtain ⟨d0, d1, d2⟩ := hps k (by omega)
                rw [← stZ_at (by omega)] at d0 d1 d2
                clear hps
                generalize stZ P k = x at c0 c1 c2 d0 d1 d2
                go_wp2_with fail
                go_quiet (fail)
                go_wp2
                go_roundw
                case rel => exact ⟨k + 1, by omega, by go_num, below_drewN HB5.out _⟩
                case measure => simp [intOf]; omega
              · have hkP : k = P.length := by omega
                clear hk hkl
                subst hkP
                have hlt : decide ((k : Int) + 1 < ((k + 1 : Nat) : Int)) = false := by simp
                go_wp2
                go_roundw
                case rel => exact ⟨t + 1, by omega, by go_num, belJ HB.out HB5.out⟩
                case measure => simp [intOf]; omega
end Go.Proofs.Ythmiocbihhbdpaa
