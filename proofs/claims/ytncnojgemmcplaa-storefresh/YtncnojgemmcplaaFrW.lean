/-
  The statement StoreFresh, walked.
-/
import Derived.Test.YtncnojgemmcplaaFrA
import Derived.Deep.RegionHeld3
import Derived.BigQuiet
namespace Go.Proofs.Ytncnojgemmcplaa
open Go.RowKit

set_option maxRecDepth 100000 in
set_option maxHeartbeats 16000000 in
theorem fresh_walk (n k ask tell : Int) (back : Bool) (l : List Mvs) (a : Option Addr) (cap : Nat) (w : World) (hm : MvsQ w a l) : Calls Try.prog 3 #[.agg #[.int .i64 n, .int .i64 k, .int .i64 ask, .int .i64 tell, .bool back], .slice a l.length cap] w fun e w' => e = .returned (.bool true) ∧ Below w.heap.size w w' := by
  have HB0 := hideIt (belA (Below.refl _ w) (.cells #[.int .i64 n, .int .i64 k, .int .i64 ask, .int .i64 tell, .bool back] 23))
  by_cases h250 : 250 < l.length
  · have hd : decide ((l.length : Int) > 250) = true := decide_eq_true (by omega)
    clear h250 hm
    go_enter Try.func3, Try.ntmps3
    go_wp2
    go_ret
    exact ⟨rfl, HB0.out⟩
  have hd : decide ((l.length : Int) > 250) = false := decide_eq_false (by omega)
  have HSt := hideIt stores_any
  have HA : Hid (∀ Z, Below (w.alloc (.cells #[.int .i64 n, .int .i64 k, .int .i64 ask, .int .i64 tell, .bool back] 23)).heap.size (w.alloc (.cells #[.int .i64 n, .int .i64 k, .int .i64 ask, .int .i64 tell, .bool back] 23)) Z → Z.cell? ⟨w.heap.size, 0, none⟩ = some (.int .i64 n) ∧ Z.cell? ⟨w.heap.size, 1, none⟩ = some (.int .i64 k) ∧ Z.cell? ⟨w.heap.size, 2, none⟩ = some (.int .i64 ask) ∧ Z.cell? ⟨w.heap.size, 3, none⟩ = some (.int .i64 tell) ∧ Z.cell? ⟨w.heap.size, 4, none⟩ = some (.bool back)) := fun Z hZ => by
    have hblk := (hZ.block w.heap.size (by simp)).trans (heap_alloc_new w (.cells #[.int .i64 n, .int .i64 k, .int .i64 ask, .int .i64 tell, .bool back] 23))
    exact ⟨by rw [cell_of_row _ _ _ _ 23 _ hblk]; rfl, by rw [cell_of_row _ _ _ _ 23 _ hblk]; rfl, by rw [cell_of_row _ _ _ _ 23 _ hblk]; rfl, by rw [cell_of_row _ _ _ _ 23 _ hblk]; rfl, by rw [cell_of_row _ _ _ _ 23 _ hblk]; rfl⟩
  by_cases hc : ¬ checkC n k ask tell = 0
  · have HC : Hid (∀ Z, Calls Try.prog 6 #[.agg #[.int .i64 n, .int .i64 k, .int .i64 ask, .int .i64 tell, .bool back]] Z fun e w' => e = .returned (.iface 46 (.int .i64 (checkC n k ask tell))) ∧ Below Z.heap.size Z w') := fun Z => by
      have := check_any n k ask tell back Z
      unfold toldE at this
      rw [if_neg hc] at this
      exact this
    generalize checkC n k ask tell = c at *
    clear hc hm h250
    go_enter Try.func3, Try.ntmps3
    go_wp2_with fail
    refine (HSt.out _).mono ?_
    rintro e W2 ⟨rfl, hb2⟩
    obtain ⟨a0, a1, a2, a3, a4⟩ := HA.out W2 hb2
    have HB2 := hideIt hb2
    clear hb2
    go_wp2_with fail
    refine (HC.out _).mono ?_
    rintro e W3 ⟨rfl, hb3⟩
    have HB3 := hideIt (belJ HB0.out (belJ HB2.out hb3))
    clear hb3 a0 a1 a2 a3 a4 HB2 HC
    go_wp2_with fail
    refine (HSt.out _).mono ?_
    rintro e W4 ⟨rfl, hb4⟩
    have HB4 := hideIt (belJ HB3.out hb4)
    clear hb4
    go_wp2
    go_ret
    exact ⟨rfl, HB4.out⟩
  replace hc : checkC n k ask tell = 0 := Classical.not_not.1 hc
  obtain ⟨hn, hk, ha, ht⟩ := checkC_ok hc
  obtain ⟨n, rfl⟩ : ∃ x : Nat, n = x := ⟨n.toNat, by omega⟩
  obtain ⟨k, rfl⟩ : ∃ x : Nat, k = x := ⟨k.toNat, by omega⟩
  obtain ⟨ask, rfl⟩ : ∃ x : Nat, ask = x := ⟨ask.toNat, by omega⟩
  obtain ⟨tell, rfl⟩ : ∃ x : Nat, tell = x := ⟨tell.toNat, by omega⟩
  have HC : Hid (∀ Z, Calls Try.prog 6 #[.agg #[.int .i64 (n : Int), .int .i64 (k : Int), .int .i64 (ask : Int), .int .i64 (tell : Int), .bool back]] Z fun e w' => e = .returned .nilIface ∧ Below Z.heap.size Z w') := fun Z => by
    have := check_any (n : Int) (k : Int) (ask : Int) (tell : Int) back Z
    rw [hc] at this
    exact this
  have HX : Hid (∀ Z, Calls Try.prog 7 #[.agg #[.int .i64 (n : Int), .int .i64 (k : Int), .int .i64 (ask : Int), .int .i64 (tell : Int), .bool back]] Z fun e w' => e = .returned (.bool (decide (n < ask + tell))) ∧ Below Z.heap.size Z w') := fun Z => crossing_any n k ask tell back (by omega) (by omega) Z
  have HMv : Hid (∀ Z, Below w.heap.size w Z → Calls Try.prog 8 #[.agg #[.int .i64 (n : Int), .int .i64 (k : Int), .int .i64 (ask : Int), .int .i64 (tell : Int), .bool back], .slice a l.length cap] Z fun e w' => ∃ w0 K, e = .returned (.pointer (some ⟨K.B, 0, none⟩)) ∧ StoP w0 w' K (runP (pst0 n k ask tell back) l) ∧ Below Z.heap.size Z w') := fun Z hZ => moved_any n k ask tell back hc a cap l (by omega) Z (hm.below hZ)
  by_cases hx : ¬ n < ask + tell
  · rw [decide_eq_false hx] at HX
    clear hc hn hk ha ht hx hm h250 HMv
    go_enter Try.func3, Try.ntmps3
    go_wp2_with fail
    refine (HSt.out _).mono ?_
    rintro e W2 ⟨rfl, hb2⟩
    obtain ⟨a0, a1, a2, a3, a4⟩ := HA.out W2 hb2
    have HB2 := hideIt hb2
    clear hb2
    go_wp2_with fail
    refine (HC.out _).mono ?_
    rintro e W3 ⟨rfl, hb3⟩
    obtain ⟨a0, a1, a2, a3, a4⟩ := HA.out W3 (belJ HB2.out hb3)
    have HB3 := hideIt (belJ HB2.out hb3)
    clear hb3 HC HB2
    go_wp2_with fail
    refine (HX.out _).mono ?_
    rintro e W4 ⟨rfl, hb4⟩
    have HB4 := hideIt (belJ HB0.out (belJ HB3.out hb4))
    clear hb4 a0 a1 a2 a3 a4 HX HB3
    go_wp2_with fail
    refine (HSt.out _).mono ?_
    rintro e W5 ⟨rfl, hb5⟩
    have HB5 := hideIt (belJ HB4.out hb5)
    clear hb5
    go_wp2
    go_ret
    exact ⟨rfl, HB5.out⟩
  replace hx : n < ask + tell := Classical.not_not.1 hx
  rw [decide_eq_true hx] at HX
  obtain ⟨S, hS, hAll, hbk⟩ := run_told back (show 1 ≤ n by omega) (show k ≤ 8 by omega) (show 1 ≤ ask by omega) (show 1 ≤ tell by omega) (show tell ≤ n by omega) hx l
  have hI := runP_inv (ask := ask) (tell := tell) back (show 1 ≤ n by omega) (show n ≤ 7 by omega) (show k ≤ 8 by omega) l (by omega) l.length (Nat.le_refl _)
  rw [List.take_length] at hI
  have hLe : (runP (pst0 n k ask tell back) l).evs.length ≤ 1000 := by have := hI.ev; omega
  have hLs : (runP (pst0 n k ask tell back) l).sts.length ≤ 1000 := by have := hI.st; omega
  have hLL := hS.lens
  generalize runP (pst0 n k ask tell back) l = P at *
  have HF : Hid (∀ i q b : Nat, i < b → b < q → q < P.evs.length → (evI P.evs i).t = 2 → ((evI P.evs i).d = 2 ∨ back = true) → (evI P.evs q).t = 2 → (evI P.evs q).k = (evI P.evs i).k → (evI P.evs b).p = (evI P.evs q).p → (∀ j : Nat, b < j → j < q → ¬ ((evI P.evs j).t = 1 ∧ (evI P.evs j).p = (evI P.evs q).p)) → ¬ (spI P.sts q).lt (spI P.sts i) ∧ ((evI P.evs q).d = 2 → (spI P.sts i).lt (spI P.sts q))) := fun i q b hib hbq hq h1 h2 h3 h4 h5 h6 =>
    hS.fresh hAll (evI_at (by omega)) (evI_at hq) (spI_at (by omega)) (spI_at (by omega)) h1 (by rw [hbk]; exact h2) h3 h4 (evI_at (by omega)) h5 hib hbq fun j e hj hjq he => by
      have := evI_at (l := P.evs) (i := j) (by omega)
      rw [this] at he
      cases he
      exact h6 j hj hjq
  clear hS hAll hbk hI hc hn hk ha ht hx hm h250 S
  go_enter Try.func3, Try.ntmps3
  go_wp2_with fail
  refine (HSt.out _).mono ?_
  rintro e W2 ⟨rfl, hb2⟩
  obtain ⟨a0, a1, a2, a3, a4⟩ := HA.out W2 hb2
  have HB2 := hideIt hb2
  clear hb2 HSt
  go_wp2_with fail
  refine (HC.out _).mono ?_
  rintro e W3 ⟨rfl, hb3⟩
  obtain ⟨a0, a1, a2, a3, a4⟩ := HA.out W3 (belJ HB2.out hb3)
  have HB3 := hideIt (belJ HB2.out hb3)
  clear hb3 HC HB2
  go_wp2_with fail
  refine (HX.out _).mono ?_
  rintro e W4 ⟨rfl, hb4⟩
  obtain ⟨a0, a1, a2, a3, a4⟩ := HA.out W4 (belJ HB3.out hb4)
  have HB4 := hideIt (belJ HB3.out hb4)
  clear hb4 HX HB3
  go_wp2_with fail
  refine (HMv.out _ (belJ HB0.out HB4.out)).mono ?_
  rintro e W5 ⟨w0, K, rfl, hP, hb5⟩
  have HB5 := hideIt (belJ HB4.out hb5)
  have HE := hideIt (events_any hP hLe)
  have HS5 : Hid (∀ Z, Below W5.heap.size W5 Z → Calls Try.prog 10 #[.pointer (some ⟨K.B, 0, none⟩)] Z fun e w' => ∃ v', e = .returned v' ∧ w'.ownsRow Z.heap.size 39 2 v' P.sts.length (spCs P.sts) ∧ Below Z.heap.size Z w') := fun Z hZ => stamps_any (hP.below hZ) hLs
  clear hb5 HMv HB4 hP a0 a1 a2 a3 a4
  go_wp2_with fail
  refine HE.out.mono ?_
  rintro e W6 ⟨ve, rfl, hoe, hb6⟩
  obtain ⟨ae, ce, rfl⟩ := ownsRow_slice hoe
  have HOe := hideIt hoe
  have HB6 := hideIt hb6
  clear hoe hb6 HE
  go_wp2_with fail
  refine (HS5.out _ HB6.out).mono ?_
  rintro e W7 ⟨vs, rfl, hos, hb7⟩
  obtain ⟨as_, cs, rfl⟩ := ownsRow_slice hos
  have HOs := hideIt hos
  have HB7 := hideIt (belJ HB5.out (belJ HB6.out hb7))
  have HOe7 : Hid (W7.ownsRow W5.heap.size 37 7 (.slice ae P.evs.length ce) P.evs.length (evCs P.evs)) := ownsRow_same HOe.out fun b hb => hb7.block b (ownsRow_block HOe.out b hb).2.1
  clear hos hb7 HS5 HB5 HB6 HOe
  have hne : ((P.evs.length : Int) != (P.sts.length : Int)) = false := by simp [hLL]
  go_upto_region 11 with fail
  have HEc : Hid (∀ Z, Below W7.heap.size W7 Z → ∀ i, i < P.evs.length → ∃ ge, ae = some ⟨ge, 0, none⟩ ∧ EvpAt Z ge (i * 7) (evI P.evs i)) := fun Z hZ i hi => ev_at (HOe7.out) hZ hi
  have HTc : Hid (∀ Z, Below W7.heap.size W7 Z → ∀ i, i < P.evs.length → ∃ gs, as_ = some ⟨gs, 0, none⟩ ∧ SpAt Z gs (i * 2) (spI P.sts i)) := fun Z hZ i hi => sp_at (HOs.out) hZ (by omega)
  have HAz : Hid (∀ Z, Below W7.heap.size W7 Z → Z.cell? ⟨w.heap.size, 4, none⟩ = some (.bool back)) := fun Z hZ => (HA.out Z (belJ HB7.out hZ)).2.2.2.2
  have HBz : Hid (∀ Z, Below W7.heap.size W7 Z → Below w.heap.size w Z) := fun Z hZ => belJ HB0.out (belJ HB7.out hZ)
  have hL31 : P.evs.length ≤ 1000 := hLe
  rw [← hLL] at *
  clear HOe7 HOs HA HB0 HB7 hLL hne hLe hLs
  generalize evI P.evs = E at *
  generalize spI P.sts = T at *
  generalize P.evs.length = L at *
  go_wp2
  go_loopw [8] (fun v wr => ∃ i : Nat, i ≤ L ∧ v = .int .i64 i ∧ Below W7.heap.size W7 wr) (fun v _ => L - (intOf v).toNat)
  case atStart => exact ⟨0, Nat.zero_le _, rfl, Below.refl _ _⟩
  case round =>
    obtain ⟨i, hi, rfl, hb⟩ := hrel
    have HB := hideIt hb
    clear hb
    by_cases hiL : i < L
    · have hiL' : (i : Int) < (L : Int) := by omega
      obtain ⟨ge, rfl, _, x1, x2, x3, _⟩ := HEc.out wr HB.out i hiL
      have xb := HAz.out wr HB.out
      have HEi : Hid (∀ Z, Below W7.heap.size W7 Z → ∀ q, q < L → EvpAt Z ge (q * 7) (E q)) := fun Z hZ q hq => by
        obtain ⟨g', e', h'⟩ := HEc.out Z hZ q hq
        cases e'
        exact h'
      obtain ⟨gs, rfl, _⟩ := HTc.out wr HB.out i hiL
      have HTi : Hid (∀ Z, Below W7.heap.size W7 Z → ∀ q, q < L → SpAt Z gs (q * 2) (T q)) := fun Z hZ q hq => by
        obtain ⟨g', e', h'⟩ := HTc.out Z hZ q hq
        cases e'
        exact h'
      cases g1 : ((E i).t != 2)
      · cases g2 : ((E i).d != 2 && !back)
        · have Ht2 := hideIt (show (E i).t = 2 by simpa using g1)
          have Hd2 : Hid ((E i).d = 2 ∨ back = true) := by
            have := g2
            cases back
            · left; simpa using this
            · right; rfl
          have hw1 : IntKind.i64.wrap ((i : Int) + 1) = ((i + 1 : Nat) : Int) := IntWalk.i64_in _ (by omega)
          have HS : Hid (∀ {P : Prop}, (((E i).d != 2) = false → P) → (((E i).d != 2) = true → back = true → P) → P) := fun {P} h1 h2 => by
            cases e : ((E i).d != 2)
            · exact h1 e
            · refine h2 e ?_
              rw [e] at g2
              cases back
              · cases g2
              · rfl
          clear g2
          refine HS.out (fun g2 => ?_) (fun g2 hbk => ?_)
          · clear HS
            go_wp2
            clear x1 x2 x3 xb g1 g2
            go_loopw [9] (fun v wz => ∃ q : Nat, i + 1 ≤ q ∧ q ≤ L ∧ v = .int .i64 q ∧ Below W7.heap.size W7 wz) (fun v _ => L - (intOf v).toNat)
            case atStart => exact ⟨i + 1, Nat.le_refl _, by omega, by go_num, HB.out⟩
            case round =>
              clear HB
              obtain ⟨q, hiq, hq, rfl, hb⟩ := hrel
              have HB := hideIt hb
              clear hb
              by_cases hqL : q < L
              · have hqL' : (q : Int) < (L : Int) := by omega
                obtain ⟨_, y1, y2, _⟩ := HEi.out wr HB.out q hqL
                obtain ⟨_, _, z2, _⟩ := HEi.out wr HB.out i hiL
                cases g3 : ((E q).t != 2)
                · cases g4 : ((E q).k != (E i).k)
                  · have Hq2 := hideIt (show (E q).t = 2 by simpa using g3)
                    have Hk2 := hideIt (show (E q).k = (E i).k by simpa using g4)
                    go_upto_region 18 with fail
                    go_quiet (fail)
                    go_wp2
                    clear y1 y2 z2 g3 g4
                    go_loopw [10] (fun v wy => ∃ b : Int, (-1 ≤ b ∧ b ≤ q) ∧ v = .int .i64 b ∧ (∀ j : Nat, b < j → j ≤ q → ¬ ((E j).t = 1 ∧ (E j).p = (E q).p)) ∧ Below W7.heap.size W7 wy) (fun v _ => (intOf v + 1).toNat)
                    case atStart => exact ⟨q, by omega, rfl, fun j h1 h2 => absurd h1 (by omega), below_drewN HB.out _⟩
                    case round =>
                      clear HB
                      obtain ⟨b, hbq, rfl, hno, hb⟩ := hrel
                      have HB := hideIt hb
                      have HNo := hideIt hno
                      clear hb hno
                      by_cases hb0 : 0 ≤ b
                      · obtain ⟨c, rfl⟩ : ∃ c : Nat, b = c := ⟨b.toNat, by omega⟩
                        have hcq : c ≤ q := by omega
                        have hcL' : (c : Int) < (L : Int) := by omega
                        have hge : decide ((c : Int) ≥ 0) = true := decide_eq_true (by omega)
                        obtain ⟨u0, u1, _⟩ := HEi.out wr HB.out c (by omega)
                        obtain ⟨v0, _, _, v3, _⟩ := HEi.out wr HB.out q hqL
                        have hws : IntKind.i64.wrap ((c : Int) - 1) = (c : Int) - 1 := IntWalk.i64_in _ (by omega)
                        cases g5 : ((E c).t != 1)
                        · cases g6 : ((E c).p != (E q).p)
                          · have hc1 : (E c).t = 1 := by simpa using g5
                            have hcp : (E c).p = (E q).p := by simpa using g6
                            have HTs : Hid (∀ Z, Below W7.heap.size W7 Z → Z.cell? ⟨gs, q * 2, none⟩ = some (.int .i64 (T q).t) ∧ Z.cell? ⟨gs, q * 2 + 1, none⟩ = some (.int .i64 (T q).c) ∧ Z.cell? ⟨gs, i * 2, none⟩ = some (.int .i64 (T i).t) ∧ Z.cell? ⟨gs, i * 2 + 1, none⟩ = some (.int .i64 (T i).c)) := fun Z hZ => ⟨(HTi.out Z hZ q hqL).1, (HTi.out Z hZ q hqL).2, (HTi.out Z hZ i hiL).1, (HTi.out Z hZ i hiL).2⟩
                            have HEq : Hid (∀ Z, Below W7.heap.size W7 Z → Z.cell? ⟨ge, q * 7 + 3, none⟩ = some (.int .i64 (E q).d)) := fun Z hZ => (HEi.out Z hZ q hqL).2.2.2.1
                            by_cases hic : i < c
                            · have hgt : decide ((c : Int) > (i : Int)) = true := decide_eq_true (by omega)
                              have hcq' : c < q := by
                                rcases Nat.lt_or_ge c q with h | h
                                · exact h
                                · exfalso
                                  have e : c = q := by omega
                                  have := Hq2.out
                                  rw [e, this] at hc1
                                  exact absurd hc1 (by decide)
                              obtain ⟨r1, r2⟩ := HF.out i q c hic hcq' hqL Ht2.out Hd2.out Hq2.out Hk2.out hcp fun j h1 h2 => HNo.out j (by omega) (by omega)
                              have HL1 : Hid (∀ Z, Calls Try.prog 11 #[.agg #[.int .i64 (T q).t, .int .i64 (T q).c], .agg #[.int .i64 (T i).t, .int .i64 (T i).c]] Z fun e w' => e = .returned (.bool false) ∧ Below Z.heap.size Z w') := fun Z => by
                                have := less_any (T q) (T i) Z
                                rw [decide_eq_false r1] at this
                                exact this
                              cases g7 : ((E q).d == 2)
                              · clear hc1 hcp r1 r2 HNo
                                go_upto_region 20 with fail
                                go_quiet (fail)
                                clear u0 u1 v0 v3 g5 g6
                                go_upto_region 22 with fail
                                refine wp_region_held_drew (S := (fun Z => Below W7.heap.size W7 Z)) (by kernel_rfl) (below_drewN HB.out _).drew (fun hHeld => ?_)
                                refine wpAnyH_take (i := 0) (v := ?_) rfl (by kernel_rfl) (by kernel_rfl) (by kernel_rfl) (fun _ _ _ h => h) (Or.inl ⟨by rfl, ?_⟩) (by assumption) ?_
                                rotate_left 1
                                · intro wz _
                                  go_simp
                                  all_goals with_reducible rfl
                                simp only [Act.put, List.setIfInBounds_toArray, List.set_cons_zero, List.set_cons_succ, List.getElem_toArray, List.getElem_cons_zero]
                                refine wpAnyH_take (i := 1) (v := ?_) rfl (by kernel_rfl) (by kernel_rfl) (by kernel_rfl) (fun _ _ _ h => h) (Or.inl ⟨by rfl, ?_⟩) (by assumption) ?_
                                rotate_left 1
                                · intro wz _
                                  go_simp
                                  all_goals with_reducible rfl
                                simp only [Act.put, List.setIfInBounds_toArray, List.set_cons_zero, List.set_cons_succ, List.getElem_toArray, List.getElem_cons_zero, List.getElem_cons_succ]
                                refine wpAnyH_take (i := 2) (v := ?_) rfl (by kernel_rfl) (by kernel_rfl) (by kernel_rfl) (fun _ _ _ h => h) (Or.inl ⟨by rfl, ?_⟩) (by assumption) ?_
                                rotate_left 1
                                · intro wz _
                                  go_simp
                                  all_goals with_reducible rfl
                                simp only [Act.put, List.setIfInBounds_toArray, List.set_cons_zero, List.set_cons_succ, List.getElem_toArray, List.getElem_cons_zero, List.getElem_cons_succ]
                                refine wpAnyH_take (i := 3) (v := ?_) rfl (by kernel_rfl) (by kernel_rfl) (by kernel_rfl) (fun _ _ _ h => h) (Or.inl ⟨by rfl, ?_⟩) (by assumption) ?_
                                rotate_left 1
                                · intro wz _
                                  go_simp
                                  all_goals with_reducible rfl
                                simp only [Act.put, List.setIfInBounds_toArray, List.set_cons_zero, List.set_cons_succ, List.getElem_toArray, List.getElem_cons_zero, List.getElem_cons_succ]
                                refine wpAnyH_take (i := 4) (v := ?_) rfl (by kernel_rfl) (by kernel_rfl) (by kernel_rfl) (fun _ _ _ h => h) (Or.inl ⟨by rfl, ?_⟩) (by assumption) ?_
                                rotate_left 1
                                · intro wz _
                                  go_simp
                                  all_goals with_reducible rfl
                                simp only [Act.put, List.setIfInBounds_toArray, List.set_cons_zero, List.set_cons_succ, List.getElem_toArray, List.getElem_cons_zero, List.getElem_cons_succ]
                                refine wpAnyH_take (i := 5) (v := ?_) rfl (by kernel_rfl) (by kernel_rfl) (by kernel_rfl) (fun _ _ _ h => h) (Or.inl ⟨by rfl, ?_⟩) (by assumption) ?_
                                rotate_left 1
                                · intro wz _
                                  go_simp
                                  all_goals with_reducible rfl
                                simp only [Act.put, List.setIfInBounds_toArray, List.set_cons_zero, List.set_cons_succ, List.getElem_toArray, List.getElem_cons_zero, List.getElem_cons_succ]
                                refine wpAnyH_take (i := 6) (v := ?_) rfl (by kernel_rfl) (by kernel_rfl) (by kernel_rfl) (fun _ _ _ h => h) (Or.inl ⟨by rfl, ?_⟩) (by assumption) ?_
                                rotate_left 1
                                · intro wz _
                                  go_simp
                                  all_goals with_reducible rfl
                                simp only [Act.put, List.setIfInBounds_toArray, List.set_cons_zero, List.set_cons_succ, List.getElem_toArray, List.getElem_cons_zero, List.getElem_cons_succ]
                                refine wpAnyH_take (i := 7) (v := ?_) rfl (by kernel_rfl) (by kernel_rfl) (by kernel_rfl) (fun _ _ _ h => h) (Or.inl ⟨by rfl, ?_⟩) (by assumption) ?_
                                rotate_left 1
                                · intro wz sb
                                  obtain ⟨t0, t1, t2, t3⟩ := HTs.out wz sb
                                  go_simp
                                  all_goals with_reducible rfl
                                simp only [Act.put, List.setIfInBounds_toArray, List.set_cons_zero, List.set_cons_succ, List.getElem_toArray, List.getElem_cons_zero, List.getElem_cons_succ]
                                refine wpAnyH_take (i := 8) (v := ?_) rfl (by kernel_rfl) (by kernel_rfl) (by kernel_rfl) (fun _ _ _ h => h) (Or.inl ⟨by rfl, ?_⟩) (by assumption) ?_
                                rotate_left 1
                                · intro wz _
                                  go_simp
                                  all_goals with_reducible rfl
                                simp only [Act.put, List.setIfInBounds_toArray, List.set_cons_zero, List.set_cons_succ, List.getElem_toArray, List.getElem_cons_zero, List.getElem_cons_succ]
                                refine wpAnyH_take (i := 9) (v := ?_) rfl (by kernel_rfl) (by kernel_rfl) (by kernel_rfl) (fun _ _ _ h => h) (Or.inl ⟨by rfl, ?_⟩) (by assumption) ?_
                                rotate_left 1
                                · intro wz _
                                  go_simp
                                  all_goals with_reducible rfl
                                simp only [Act.put, List.setIfInBounds_toArray, List.set_cons_zero, List.set_cons_succ, List.getElem_toArray, List.getElem_cons_zero, List.getElem_cons_succ]
                                refine wpAnyH_take (i := 10) (v := ?_) rfl (by kernel_rfl) (by kernel_rfl) (by kernel_rfl) (fun _ _ _ h => h) (Or.inl ⟨by rfl, ?_⟩) (by assumption) ?_
                                rotate_left 1
                                · intro wz _
                                  go_simp
                                  all_goals with_reducible rfl
                                simp only [Act.put, List.setIfInBounds_toArray, List.set_cons_zero, List.set_cons_succ, List.getElem_toArray, List.getElem_cons_zero, List.getElem_cons_succ]
                                refine wpAnyH_take (i := 11) (v := ?_) rfl (by kernel_rfl) (by kernel_rfl) (by kernel_rfl) (fun _ _ _ h => h) (Or.inl ⟨by rfl, ?_⟩) (by assumption) ?_
                                rotate_left 1
                                · intro wz sb
                                  obtain ⟨t0, t1, t2, t3⟩ := HTs.out wz sb
                                  go_simp
                                  all_goals with_reducible rfl
                                simp only [Act.put, List.setIfInBounds_toArray, List.set_cons_zero, List.set_cons_succ, List.getElem_toArray, List.getElem_cons_zero, List.getElem_cons_succ]
                                refine wpAnyH_ready (rs := [12]) (by kernel_rfl) (by simp) (AllReadyH.cons rfl (fun Q hQ => ?_) AllReadyH.nil)
                                go_simp
                                refine (HL1.out _).mono ?_
                                rintro e V3 ⟨rfl, hb3⟩
                                refine hQ.out _ _ (belJ hHeld hb3) (fun hHeld => ?_)
                                clear hQ Q hb3
                                refine wpAnyH_take (i := 13) (v := ?_) rfl (by kernel_rfl) (by kernel_rfl) (by kernel_rfl) (fun _ _ _ h => h) (Or.inl ⟨by rfl, ?_⟩) (by assumption) ?_
                                rotate_left 1
                                · intro wz _
                                  go_simp
                                  all_goals with_reducible rfl
                                simp only [Act.put, List.setIfInBounds_toArray, List.set_cons_zero, List.set_cons_succ, List.getElem_toArray, List.getElem_cons_zero, List.getElem_cons_succ]
                                refine wpAnyH_take (i := 14) (v := ?_) rfl (by kernel_rfl) (by kernel_rfl) (by kernel_rfl) (fun _ _ _ h => h) (Or.inl ⟨by rfl, ?_⟩) (by assumption) ?_
                                rotate_left 1
                                · intro wz _
                                  go_simp
                                  all_goals with_reducible rfl
                                simp only [Act.put, List.setIfInBounds_toArray, List.set_cons_zero, List.set_cons_succ, List.getElem_toArray, List.getElem_cons_zero, List.getElem_cons_succ]
                                refine wpAnyH_take (i := 15) (v := ?_) rfl (by kernel_rfl) (by kernel_rfl) (by kernel_rfl) (fun _ _ _ h => h) (Or.inl ⟨by rfl, ?_⟩) (by assumption) ?_
                                rotate_left 1
                                · intro wz _
                                  go_simp
                                  all_goals with_reducible rfl
                                simp only [Act.put, List.setIfInBounds_toArray, List.set_cons_zero, List.set_cons_succ, List.getElem_toArray, List.getElem_cons_zero, List.getElem_cons_succ]
                                refine wpAnyH_take (i := 16) (v := ?_) rfl (by kernel_rfl) (by kernel_rfl) (by kernel_rfl) (fun _ _ _ h => h) (Or.inl ⟨by rfl, ?_⟩) (by assumption) ?_
                                rotate_left 1
                                · intro wz _
                                  go_simp
                                  all_goals with_reducible rfl
                                simp only [Act.put, List.setIfInBounds_toArray, List.set_cons_zero, List.set_cons_succ, List.getElem_toArray, List.getElem_cons_zero, List.getElem_cons_succ]
                                refine wpAnyH_take (i := 17) (v := ?_) rfl (by kernel_rfl) (by kernel_rfl) (by kernel_rfl) (fun _ _ _ h => h) (Or.inl ⟨by rfl, ?_⟩) (by assumption) ?_
                                rotate_left 1
                                · intro wz _
                                  go_simp
                                  all_goals with_reducible rfl
                                simp only [Act.put, List.setIfInBounds_toArray, List.set_cons_zero, List.set_cons_succ, List.getElem_toArray, List.getElem_cons_zero, List.getElem_cons_succ]
                                refine wpAnyH_take (i := 18) (v := ?_) rfl (by kernel_rfl) (by kernel_rfl) (by kernel_rfl) (fun _ _ _ h => h) (Or.inl ⟨by rfl, ?_⟩) (by assumption) ?_
                                rotate_left 1
                                · intro wz sb
                                  have x3 := HEq.out wz sb
                                  go_simp
                                  all_goals with_reducible rfl
                                simp only [Act.put, List.setIfInBounds_toArray, List.set_cons_zero, List.set_cons_succ, List.getElem_toArray, List.getElem_cons_zero, List.getElem_cons_succ]
                                refine wpAnyH_take (i := 19) (v := ?_) rfl (by kernel_rfl) (by kernel_rfl) (by kernel_rfl) (fun _ _ _ h => h) (Or.inl ⟨by rfl, ?_⟩) (by assumption) ?_
                                rotate_left 1
                                · intro wz _
                                  go_simp
                                  all_goals with_reducible rfl
                                simp only [Act.put, List.setIfInBounds_toArray, List.set_cons_zero, List.set_cons_succ, List.getElem_toArray, List.getElem_cons_zero, List.getElem_cons_succ]
                                refine wpAnyH_take (i := 20) (v := ?_) rfl (by kernel_rfl) (by kernel_rfl) (by kernel_rfl) (fun _ _ _ h => h) (Or.inl ⟨by rfl, ?_⟩) (by assumption) ?_
                                rotate_left 1
                                · intro wz _
                                  go_simp
                                  all_goals with_reducible rfl
                                simp only [Act.put, List.setIfInBounds_toArray, List.set_cons_zero, List.set_cons_succ, List.getElem_toArray, List.getElem_cons_zero, List.getElem_cons_succ]
                                refine wpAnyH_take (i := 21) (v := undef) rfl (by kernel_rfl) (by kernel_rfl) (by kernel_rfl) (fun _ _ _ h => h) (Or.inr ⟨by rfl, rfl⟩) (by assumption) ?_
                                simp only [Act.put, List.setIfInBounds_toArray, List.set_cons_zero, List.set_cons_succ, List.getElem_toArray, List.getElem_cons_zero, List.getElem_cons_succ]
                                refine wpAnyH_take (i := 22) (v := undef) rfl (by kernel_rfl) (by kernel_rfl) (by kernel_rfl) (fun _ _ _ h => h) (Or.inr ⟨by rfl, rfl⟩) (by assumption) ?_
                                simp only [Act.put, List.setIfInBounds_toArray, List.set_cons_zero, List.set_cons_succ, List.getElem_toArray, List.getElem_cons_zero, List.getElem_cons_succ]
                                refine wpAnyH_take (i := 23) (v := undef) rfl (by kernel_rfl) (by kernel_rfl) (by kernel_rfl) (fun _ _ _ h => h) (Or.inr ⟨by rfl, rfl⟩) (by assumption) ?_
                                simp only [Act.put, List.setIfInBounds_toArray, List.set_cons_zero, List.set_cons_succ, List.getElem_toArray, List.getElem_cons_zero, List.getElem_cons_succ]
                                refine wpAnyH_take (i := 24) (v := undef) rfl (by kernel_rfl) (by kernel_rfl) (by kernel_rfl) (fun _ _ _ h => h) (Or.inr ⟨by rfl, rfl⟩) (by assumption) ?_
                                simp only [Act.put, List.setIfInBounds_toArray, List.set_cons_zero, List.set_cons_succ, List.getElem_toArray, List.getElem_cons_zero, List.getElem_cons_succ]
                                refine wpAnyH_take (i := 25) (v := undef) rfl (by kernel_rfl) (by kernel_rfl) (by kernel_rfl) (fun _ _ _ h => h) (Or.inr ⟨by rfl, rfl⟩) (by assumption) ?_
                                simp only [Act.put, List.setIfInBounds_toArray, List.set_cons_zero, List.set_cons_succ, List.getElem_toArray, List.getElem_cons_zero, List.getElem_cons_succ]
                                refine wpAnyH_take (i := 26) (v := undef) rfl (by kernel_rfl) (by kernel_rfl) (by kernel_rfl) (fun _ _ _ h => h) (Or.inr ⟨by rfl, rfl⟩) (by assumption) ?_
                                simp only [Act.put, List.setIfInBounds_toArray, List.set_cons_zero, List.set_cons_succ, List.getElem_toArray, List.getElem_cons_zero, List.getElem_cons_succ]
                                refine wpAnyH_take (i := 27) (v := undef) rfl (by kernel_rfl) (by kernel_rfl) (by kernel_rfl) (fun _ _ _ h => h) (Or.inr ⟨by rfl, rfl⟩) (by assumption) ?_
                                simp only [Act.put, List.setIfInBounds_toArray, List.set_cons_zero, List.set_cons_succ, List.getElem_toArray, List.getElem_cons_zero, List.getElem_cons_succ]
                                refine wpAnyH_take (i := 28) (v := undef) rfl (by kernel_rfl) (by kernel_rfl) (by kernel_rfl) (fun _ _ _ h => h) (Or.inr ⟨by rfl, rfl⟩) (by assumption) ?_
                                simp only [Act.put, List.setIfInBounds_toArray, List.set_cons_zero, List.set_cons_succ, List.getElem_toArray, List.getElem_cons_zero, List.getElem_cons_succ]
                                refine wpAnyH_take (i := 29) (v := undef) rfl (by kernel_rfl) (by kernel_rfl) (by kernel_rfl) (fun _ _ _ h => h) (Or.inr ⟨by rfl, rfl⟩) (by assumption) ?_
                                simp only [Act.put, List.setIfInBounds_toArray, List.set_cons_zero, List.set_cons_succ, List.getElem_toArray, List.getElem_cons_zero, List.getElem_cons_succ]
                                refine wpAnyH_take (i := 30) (v := undef) rfl (by kernel_rfl) (by kernel_rfl) (by kernel_rfl) (fun _ _ _ h => h) (Or.inr ⟨by rfl, rfl⟩) (by assumption) ?_
                                simp only [Act.put, List.setIfInBounds_toArray, List.set_cons_zero, List.set_cons_succ, List.getElem_toArray, List.getElem_cons_zero, List.getElem_cons_succ]
                                refine wpAnyH_take (i := 31) (v := ?_) rfl (by kernel_rfl) (by kernel_rfl) (by kernel_rfl) (fun _ _ _ h => h) (Or.inl ⟨by rfl, ?_⟩) (by assumption) ?_
                                rotate_left 1
                                · intro wz _
                                  go_simp
                                  all_goals with_reducible rfl
                                simp only [Act.put, List.setIfInBounds_toArray, List.set_cons_zero, List.set_cons_succ, List.getElem_toArray, List.getElem_cons_zero, List.getElem_cons_succ]
                                refine wpAnyH_take (i := 32) (v := ?_) rfl (by kernel_rfl) (by kernel_rfl) (by kernel_rfl) (fun _ _ _ h => h) (Or.inl ⟨by rfl, ?_⟩) (by assumption) ?_
                                rotate_left 1
                                · intro wz _
                                  go_simp
                                  all_goals with_reducible rfl
                                simp only [Act.put, List.setIfInBounds_toArray, List.set_cons_zero, List.set_cons_succ, List.getElem_toArray, List.getElem_cons_zero, List.getElem_cons_succ]
                                refine wpAnyH_take (i := 33) (v := ?_) rfl (by kernel_rfl) (by kernel_rfl) (by kernel_rfl) (fun _ _ _ h => h) (Or.inl ⟨by rfl, ?_⟩) (by assumption) ?_
                                rotate_left 1
                                · intro wz _
                                  go_simp
                                  all_goals with_reducible rfl
                                simp only [Act.put, List.setIfInBounds_toArray, List.set_cons_zero, List.set_cons_succ, List.getElem_toArray, List.getElem_cons_zero, List.getElem_cons_succ]
                                have HB9 := hideIt hHeld
                                clear hHeld
                                refine wpAnyH_done (by kernel_rfl) ?_ _
                                go_wp2
                                go_roundw
                                case rel => exact ⟨q + 1, by omega, by omega, by go_num, HB9.out⟩
                                case measure => simp [intOf]; omega
                              · have hl2 := r2 (by simpa using g7)
                                have HL2 : Hid (∀ Z, Calls Try.prog 11 #[.agg #[.int .i64 (T i).t, .int .i64 (T i).c], .agg #[.int .i64 (T q).t, .int .i64 (T q).c]] Z fun e w' => e = .returned (.bool true) ∧ Below Z.heap.size Z w') := fun Z => by
                                  have := less_any (T i) (T q) Z
                                  rw [decide_eq_true hl2] at this
                                  exact this
                                clear hc1 hcp r1 r2 HNo hl2
                                go_upto_region 20 with fail
                                go_quiet (fail)
                                clear u0 u1 v0 v3 g5 g6
                                go_upto_region 22 with fail
                                refine wp_region_held_drew (S := (fun Z => Below W7.heap.size W7 Z)) (by kernel_rfl) (below_drewN HB.out _).drew (fun hHeld => ?_)
                                refine wpAnyH_take (i := 0) (v := ?_) rfl (by kernel_rfl) (by kernel_rfl) (by kernel_rfl) (fun _ _ _ h => h) (Or.inl ⟨by rfl, ?_⟩) (by assumption) ?_
                                rotate_left 1
                                · intro wz _
                                  go_simp
                                  all_goals with_reducible rfl
                                simp only [Act.put, List.setIfInBounds_toArray, List.set_cons_zero, List.set_cons_succ, List.getElem_toArray, List.getElem_cons_zero]
                                refine wpAnyH_take (i := 1) (v := ?_) rfl (by kernel_rfl) (by kernel_rfl) (by kernel_rfl) (fun _ _ _ h => h) (Or.inl ⟨by rfl, ?_⟩) (by assumption) ?_
                                rotate_left 1
                                · intro wz _
                                  go_simp
                                  all_goals with_reducible rfl
                                simp only [Act.put, List.setIfInBounds_toArray, List.set_cons_zero, List.set_cons_succ, List.getElem_toArray, List.getElem_cons_zero, List.getElem_cons_succ]
                                refine wpAnyH_take (i := 2) (v := ?_) rfl (by kernel_rfl) (by kernel_rfl) (by kernel_rfl) (fun _ _ _ h => h) (Or.inl ⟨by rfl, ?_⟩) (by assumption) ?_
                                rotate_left 1
                                · intro wz _
                                  go_simp
                                  all_goals with_reducible rfl
                                simp only [Act.put, List.setIfInBounds_toArray, List.set_cons_zero, List.set_cons_succ, List.getElem_toArray, List.getElem_cons_zero, List.getElem_cons_succ]
                                refine wpAnyH_take (i := 3) (v := ?_) rfl (by kernel_rfl) (by kernel_rfl) (by kernel_rfl) (fun _ _ _ h => h) (Or.inl ⟨by rfl, ?_⟩) (by assumption) ?_
                                rotate_left 1
                                · intro wz _
                                  go_simp
                                  all_goals with_reducible rfl
                                simp only [Act.put, List.setIfInBounds_toArray, List.set_cons_zero, List.set_cons_succ, List.getElem_toArray, List.getElem_cons_zero, List.getElem_cons_succ]
                                refine wpAnyH_take (i := 4) (v := ?_) rfl (by kernel_rfl) (by kernel_rfl) (by kernel_rfl) (fun _ _ _ h => h) (Or.inl ⟨by rfl, ?_⟩) (by assumption) ?_
                                rotate_left 1
                                · intro wz _
                                  go_simp
                                  all_goals with_reducible rfl
                                simp only [Act.put, List.setIfInBounds_toArray, List.set_cons_zero, List.set_cons_succ, List.getElem_toArray, List.getElem_cons_zero, List.getElem_cons_succ]
                                refine wpAnyH_take (i := 5) (v := ?_) rfl (by kernel_rfl) (by kernel_rfl) (by kernel_rfl) (fun _ _ _ h => h) (Or.inl ⟨by rfl, ?_⟩) (by assumption) ?_
                                rotate_left 1
                                · intro wz _
                                  go_simp
                                  all_goals with_reducible rfl
                                simp only [Act.put, List.setIfInBounds_toArray, List.set_cons_zero, List.set_cons_succ, List.getElem_toArray, List.getElem_cons_zero, List.getElem_cons_succ]
                                refine wpAnyH_take (i := 6) (v := ?_) rfl (by kernel_rfl) (by kernel_rfl) (by kernel_rfl) (fun _ _ _ h => h) (Or.inl ⟨by rfl, ?_⟩) (by assumption) ?_
                                rotate_left 1
                                · intro wz _
                                  go_simp
                                  all_goals with_reducible rfl
                                simp only [Act.put, List.setIfInBounds_toArray, List.set_cons_zero, List.set_cons_succ, List.getElem_toArray, List.getElem_cons_zero, List.getElem_cons_succ]
                                refine wpAnyH_take (i := 7) (v := ?_) rfl (by kernel_rfl) (by kernel_rfl) (by kernel_rfl) (fun _ _ _ h => h) (Or.inl ⟨by rfl, ?_⟩) (by assumption) ?_
                                rotate_left 1
                                · intro wz sb
                                  obtain ⟨t0, t1, t2, t3⟩ := HTs.out wz sb
                                  go_simp
                                  all_goals with_reducible rfl
                                simp only [Act.put, List.setIfInBounds_toArray, List.set_cons_zero, List.set_cons_succ, List.getElem_toArray, List.getElem_cons_zero, List.getElem_cons_succ]
                                refine wpAnyH_take (i := 8) (v := ?_) rfl (by kernel_rfl) (by kernel_rfl) (by kernel_rfl) (fun _ _ _ h => h) (Or.inl ⟨by rfl, ?_⟩) (by assumption) ?_
                                rotate_left 1
                                · intro wz _
                                  go_simp
                                  all_goals with_reducible rfl
                                simp only [Act.put, List.setIfInBounds_toArray, List.set_cons_zero, List.set_cons_succ, List.getElem_toArray, List.getElem_cons_zero, List.getElem_cons_succ]
                                refine wpAnyH_take (i := 9) (v := ?_) rfl (by kernel_rfl) (by kernel_rfl) (by kernel_rfl) (fun _ _ _ h => h) (Or.inl ⟨by rfl, ?_⟩) (by assumption) ?_
                                rotate_left 1
                                · intro wz _
                                  go_simp
                                  all_goals with_reducible rfl
                                simp only [Act.put, List.setIfInBounds_toArray, List.set_cons_zero, List.set_cons_succ, List.getElem_toArray, List.getElem_cons_zero, List.getElem_cons_succ]
                                refine wpAnyH_take (i := 10) (v := ?_) rfl (by kernel_rfl) (by kernel_rfl) (by kernel_rfl) (fun _ _ _ h => h) (Or.inl ⟨by rfl, ?_⟩) (by assumption) ?_
                                rotate_left 1
                                · intro wz _
                                  go_simp
                                  all_goals with_reducible rfl
                                simp only [Act.put, List.setIfInBounds_toArray, List.set_cons_zero, List.set_cons_succ, List.getElem_toArray, List.getElem_cons_zero, List.getElem_cons_succ]
                                refine wpAnyH_take (i := 11) (v := ?_) rfl (by kernel_rfl) (by kernel_rfl) (by kernel_rfl) (fun _ _ _ h => h) (Or.inl ⟨by rfl, ?_⟩) (by assumption) ?_
                                rotate_left 1
                                · intro wz sb
                                  obtain ⟨t0, t1, t2, t3⟩ := HTs.out wz sb
                                  go_simp
                                  all_goals with_reducible rfl
                                simp only [Act.put, List.setIfInBounds_toArray, List.set_cons_zero, List.set_cons_succ, List.getElem_toArray, List.getElem_cons_zero, List.getElem_cons_succ]
                                refine wpAnyH_ready (rs := [12]) (by kernel_rfl) (by simp) (AllReadyH.cons rfl (fun Q hQ => ?_) AllReadyH.nil)
                                go_simp
                                refine (HL1.out _).mono ?_
                                rintro e V3 ⟨rfl, hb3⟩
                                refine hQ.out _ _ (belJ hHeld hb3) (fun hHeld => ?_)
                                clear hQ Q hb3
                                refine wpAnyH_take (i := 13) (v := ?_) rfl (by kernel_rfl) (by kernel_rfl) (by kernel_rfl) (fun _ _ _ h => h) (Or.inl ⟨by rfl, ?_⟩) (by assumption) ?_
                                rotate_left 1
                                · intro wz _
                                  go_simp
                                  all_goals with_reducible rfl
                                simp only [Act.put, List.setIfInBounds_toArray, List.set_cons_zero, List.set_cons_succ, List.getElem_toArray, List.getElem_cons_zero, List.getElem_cons_succ]
                                refine wpAnyH_take (i := 14) (v := ?_) rfl (by kernel_rfl) (by kernel_rfl) (by kernel_rfl) (fun _ _ _ h => h) (Or.inl ⟨by rfl, ?_⟩) (by assumption) ?_
                                rotate_left 1
                                · intro wz _
                                  go_simp
                                  all_goals with_reducible rfl
                                simp only [Act.put, List.setIfInBounds_toArray, List.set_cons_zero, List.set_cons_succ, List.getElem_toArray, List.getElem_cons_zero, List.getElem_cons_succ]
                                refine wpAnyH_take (i := 15) (v := ?_) rfl (by kernel_rfl) (by kernel_rfl) (by kernel_rfl) (fun _ _ _ h => h) (Or.inl ⟨by rfl, ?_⟩) (by assumption) ?_
                                rotate_left 1
                                · intro wz _
                                  go_simp
                                  all_goals with_reducible rfl
                                simp only [Act.put, List.setIfInBounds_toArray, List.set_cons_zero, List.set_cons_succ, List.getElem_toArray, List.getElem_cons_zero, List.getElem_cons_succ]
                                refine wpAnyH_take (i := 16) (v := ?_) rfl (by kernel_rfl) (by kernel_rfl) (by kernel_rfl) (fun _ _ _ h => h) (Or.inl ⟨by rfl, ?_⟩) (by assumption) ?_
                                rotate_left 1
                                · intro wz _
                                  go_simp
                                  all_goals with_reducible rfl
                                simp only [Act.put, List.setIfInBounds_toArray, List.set_cons_zero, List.set_cons_succ, List.getElem_toArray, List.getElem_cons_zero, List.getElem_cons_succ]
                                refine wpAnyH_take (i := 17) (v := ?_) rfl (by kernel_rfl) (by kernel_rfl) (by kernel_rfl) (fun _ _ _ h => h) (Or.inl ⟨by rfl, ?_⟩) (by assumption) ?_
                                rotate_left 1
                                · intro wz _
                                  go_simp
                                  all_goals with_reducible rfl
                                simp only [Act.put, List.setIfInBounds_toArray, List.set_cons_zero, List.set_cons_succ, List.getElem_toArray, List.getElem_cons_zero, List.getElem_cons_succ]
                                refine wpAnyH_take (i := 18) (v := ?_) rfl (by kernel_rfl) (by kernel_rfl) (by kernel_rfl) (fun _ _ _ h => h) (Or.inl ⟨by rfl, ?_⟩) (by assumption) ?_
                                rotate_left 1
                                · intro wz sb
                                  have x3 := HEq.out wz sb
                                  go_simp
                                  all_goals with_reducible rfl
                                simp only [Act.put, List.setIfInBounds_toArray, List.set_cons_zero, List.set_cons_succ, List.getElem_toArray, List.getElem_cons_zero, List.getElem_cons_succ]
                                refine wpAnyH_take (i := 19) (v := ?_) rfl (by kernel_rfl) (by kernel_rfl) (by kernel_rfl) (fun _ _ _ h => h) (Or.inl ⟨by rfl, ?_⟩) (by assumption) ?_
                                rotate_left 1
                                · intro wz _
                                  go_simp
                                  all_goals with_reducible rfl
                                simp only [Act.put, List.setIfInBounds_toArray, List.set_cons_zero, List.set_cons_succ, List.getElem_toArray, List.getElem_cons_zero, List.getElem_cons_succ]
                                refine wpAnyH_take (i := 20) (v := ?_) rfl (by kernel_rfl) (by kernel_rfl) (by kernel_rfl) (fun _ _ _ h => h) (Or.inl ⟨by rfl, ?_⟩) (by assumption) ?_
                                rotate_left 1
                                · intro wz _
                                  go_simp
                                  all_goals with_reducible rfl
                                simp only [Act.put, List.setIfInBounds_toArray, List.set_cons_zero, List.set_cons_succ, List.getElem_toArray, List.getElem_cons_zero, List.getElem_cons_succ]
                                refine wpAnyH_take (i := 21) (v := ?_) rfl (by kernel_rfl) (by kernel_rfl) (by kernel_rfl) (fun _ _ _ h => h) (Or.inl ⟨by rfl, ?_⟩) (by assumption) ?_
                                rotate_left 1
                                · intro wz _
                                  go_simp
                                  all_goals with_reducible rfl
                                simp only [Act.put, List.setIfInBounds_toArray, List.set_cons_zero, List.set_cons_succ, List.getElem_toArray, List.getElem_cons_zero, List.getElem_cons_succ]
                                refine wpAnyH_take (i := 22) (v := ?_) rfl (by kernel_rfl) (by kernel_rfl) (by kernel_rfl) (fun _ _ _ h => h) (Or.inl ⟨by rfl, ?_⟩) (by assumption) ?_
                                rotate_left 1
                                · intro wz _
                                  go_simp
                                  all_goals with_reducible rfl
                                simp only [Act.put, List.setIfInBounds_toArray, List.set_cons_zero, List.set_cons_succ, List.getElem_toArray, List.getElem_cons_zero, List.getElem_cons_succ]
                                refine wpAnyH_take (i := 23) (v := ?_) rfl (by kernel_rfl) (by kernel_rfl) (by kernel_rfl) (fun _ _ _ h => h) (Or.inl ⟨by rfl, ?_⟩) (by assumption) ?_
                                rotate_left 1
                                · intro wz _
                                  go_simp
                                  all_goals with_reducible rfl
                                simp only [Act.put, List.setIfInBounds_toArray, List.set_cons_zero, List.set_cons_succ, List.getElem_toArray, List.getElem_cons_zero, List.getElem_cons_succ]
                                refine wpAnyH_take (i := 24) (v := ?_) rfl (by kernel_rfl) (by kernel_rfl) (by kernel_rfl) (fun _ _ _ h => h) (Or.inl ⟨by rfl, ?_⟩) (by assumption) ?_
                                rotate_left 1
                                · intro wz sb
                                  obtain ⟨t0, t1, t2, t3⟩ := HTs.out wz sb
                                  go_simp
                                  all_goals with_reducible rfl
                                simp only [Act.put, List.setIfInBounds_toArray, List.set_cons_zero, List.set_cons_succ, List.getElem_toArray, List.getElem_cons_zero, List.getElem_cons_succ]
                                refine wpAnyH_take (i := 25) (v := ?_) rfl (by kernel_rfl) (by kernel_rfl) (by kernel_rfl) (fun _ _ _ h => h) (Or.inl ⟨by rfl, ?_⟩) (by assumption) ?_
                                rotate_left 1
                                · intro wz _
                                  go_simp
                                  all_goals with_reducible rfl
                                simp only [Act.put, List.setIfInBounds_toArray, List.set_cons_zero, List.set_cons_succ, List.getElem_toArray, List.getElem_cons_zero, List.getElem_cons_succ]
                                refine wpAnyH_take (i := 26) (v := ?_) rfl (by kernel_rfl) (by kernel_rfl) (by kernel_rfl) (fun _ _ _ h => h) (Or.inl ⟨by rfl, ?_⟩) (by assumption) ?_
                                rotate_left 1
                                · intro wz _
                                  go_simp
                                  all_goals with_reducible rfl
                                simp only [Act.put, List.setIfInBounds_toArray, List.set_cons_zero, List.set_cons_succ, List.getElem_toArray, List.getElem_cons_zero, List.getElem_cons_succ]
                                refine wpAnyH_take (i := 27) (v := ?_) rfl (by kernel_rfl) (by kernel_rfl) (by kernel_rfl) (fun _ _ _ h => h) (Or.inl ⟨by rfl, ?_⟩) (by assumption) ?_
                                rotate_left 1
                                · intro wz _
                                  go_simp
                                  all_goals with_reducible rfl
                                simp only [Act.put, List.setIfInBounds_toArray, List.set_cons_zero, List.set_cons_succ, List.getElem_toArray, List.getElem_cons_zero, List.getElem_cons_succ]
                                refine wpAnyH_take (i := 28) (v := ?_) rfl (by kernel_rfl) (by kernel_rfl) (by kernel_rfl) (fun _ _ _ h => h) (Or.inl ⟨by rfl, ?_⟩) (by assumption) ?_
                                rotate_left 1
                                · intro wz sb
                                  obtain ⟨t0, t1, t2, t3⟩ := HTs.out wz sb
                                  go_simp
                                  all_goals with_reducible rfl
                                simp only [Act.put, List.setIfInBounds_toArray, List.set_cons_zero, List.set_cons_succ, List.getElem_toArray, List.getElem_cons_zero, List.getElem_cons_succ]
                                refine wpAnyH_ready (rs := [29]) (by kernel_rfl) (by simp) (AllReadyH.cons rfl (fun Q hQ => ?_) AllReadyH.nil)
                                go_simp
                                refine (HL2.out _).mono ?_
                                rintro e V4 ⟨rfl, hb4⟩
                                refine hQ.out _ _ (belJ hHeld hb4) (fun hHeld => ?_)
                                clear hQ Q hb4
                                refine wpAnyH_take (i := 30) (v := ?_) rfl (by kernel_rfl) (by kernel_rfl) (by kernel_rfl) (fun _ _ _ h => h) (Or.inl ⟨by rfl, ?_⟩) (by assumption) ?_
                                rotate_left 1
                                · intro wz _
                                  go_simp
                                  all_goals with_reducible rfl
                                simp only [Act.put, List.setIfInBounds_toArray, List.set_cons_zero, List.set_cons_succ, List.getElem_toArray, List.getElem_cons_zero, List.getElem_cons_succ]
                                refine wpAnyH_take (i := 31) (v := ?_) rfl (by kernel_rfl) (by kernel_rfl) (by kernel_rfl) (fun _ _ _ h => h) (Or.inl ⟨by rfl, ?_⟩) (by assumption) ?_
                                rotate_left 1
                                · intro wz _
                                  go_simp
                                  all_goals with_reducible rfl
                                simp only [Act.put, List.setIfInBounds_toArray, List.set_cons_zero, List.set_cons_succ, List.getElem_toArray, List.getElem_cons_zero, List.getElem_cons_succ]
                                refine wpAnyH_take (i := 32) (v := ?_) rfl (by kernel_rfl) (by kernel_rfl) (by kernel_rfl) (fun _ _ _ h => h) (Or.inl ⟨by rfl, ?_⟩) (by assumption) ?_
                                rotate_left 1
                                · intro wz _
                                  go_simp
                                  all_goals with_reducible rfl
                                simp only [Act.put, List.setIfInBounds_toArray, List.set_cons_zero, List.set_cons_succ, List.getElem_toArray, List.getElem_cons_zero, List.getElem_cons_succ]
                                refine wpAnyH_take (i := 33) (v := ?_) rfl (by kernel_rfl) (by kernel_rfl) (by kernel_rfl) (fun _ _ _ h => h) (Or.inl ⟨by rfl, ?_⟩) (by assumption) ?_
                                rotate_left 1
                                · intro wz _
                                  go_simp
                                  all_goals with_reducible rfl
                                simp only [Act.put, List.setIfInBounds_toArray, List.set_cons_zero, List.set_cons_succ, List.getElem_toArray, List.getElem_cons_zero, List.getElem_cons_succ]
                                have HB9 := hideIt hHeld
                                clear hHeld
                                refine wpAnyH_done (by kernel_rfl) ?_ _
                                go_wp2
                                go_roundw
                                case rel => exact ⟨q + 1, by omega, by omega, by go_num, HB9.out⟩
                                case measure => simp [intOf]; omega
                            · have hgt : decide ((c : Int) > (i : Int)) = false := decide_eq_false (by omega)
                              clear hc1 hcp HNo
                              go_upto_region 20 with fail
                              go_quiet (fail)
                              go_upto_region 22 with fail
                              go_quiet (fail)
                              go_wp2
                              go_roundw
                              case rel => exact ⟨q + 1, by omega, by omega, by go_num, below_drewN HB.out _⟩
                              case measure => simp [intOf]; omega
                          · have HN2 : Hid (∀ j : Nat, (c : Int) - 1 < j → j ≤ q → ¬ ((E j).t = 1 ∧ (E j).p = (E q).p)) := fun j h1 h2 => by
                              rcases Nat.lt_or_ge c j with h | h
                              · exact HNo.out j (by omega) h2
                              · obtain rfl : j = c := by omega
                                have hne : (E j).p ≠ (E q).p := by simpa using g6
                                exact fun h => hne h.2
                            clear HNo
                            go_upto_region 20 with fail
                            go_quiet (fail)
                            go_wp2
                            go_roundw
                            case rel => exact ⟨(c : Int) - 1, by omega, by go_num, HN2.out, below_drewN HB.out _⟩
                            case measure => simp [intOf] <;> omega
                        · have HN2 : Hid (∀ j : Nat, (c : Int) - 1 < j → j ≤ q → ¬ ((E j).t = 1 ∧ (E j).p = (E q).p)) := fun j h1 h2 => by
                            rcases Nat.lt_or_ge c j with h | h
                            · exact HNo.out j (by omega) h2
                            · obtain rfl : j = c := by omega
                              have hne : (E j).t ≠ 1 := by simpa using g5
                              exact fun h => hne h.1
                          clear HNo
                          go_upto_region 20 with fail
                          go_quiet (fail)
                          go_wp2
                          go_roundw
                          case rel => exact ⟨(c : Int) - 1, by omega, by go_num, HN2.out, below_drewN HB.out _⟩
                          case measure => simp [intOf] <;> omega
                      · have hge : decide (b ≥ 0) = false := decide_eq_false hb0
                        have hgt : decide (b > (i : Int)) = false := decide_eq_false (by omega)
                        clear HNo
                        go_upto_region 20 with fail
                        go_quiet (fail)
                        go_upto_region 22 with fail
                        go_quiet (fail)
                        go_wp2
                        go_roundw
                        case rel => exact ⟨q + 1, by omega, by omega, by go_num, below_drewN HB.out _⟩
                        case measure => simp [intOf]; omega
                  · go_upto_region 18 with fail
                    go_quiet (fail)
                    go_wp2
                    go_roundw
                    case rel => exact ⟨q + 1, by omega, by omega, by go_num, below_drewN HB.out _⟩
                    case measure => simp [intOf]; omega
                · go_upto_region 18 with fail
                  go_quiet (fail)
                  go_wp2
                  go_roundw
                  case rel => exact ⟨q + 1, by omega, by omega, by go_num, below_drewN HB.out _⟩
                  case measure => simp [intOf]; omega
              · have hqL' : ¬ (q : Int) < (L : Int) := by omega
                go_wp2
                go_roundw
                case rel => exact ⟨i + 1, by omega, by go_num, HB.out⟩
                case measure => simp [intOf]; omega
          · subst hbk
            clear HS
            go_wp2
            clear x1 x2 x3 xb g1 g2
            go_loopw [9] (fun v wz => ∃ q : Nat, i + 1 ≤ q ∧ q ≤ L ∧ v = .int .i64 q ∧ Below W7.heap.size W7 wz) (fun v _ => L - (intOf v).toNat)
            case atStart => exact ⟨i + 1, Nat.le_refl _, by omega, by go_num, HB.out⟩
            case round =>
              clear HB
              obtain ⟨q, hiq, hq, rfl, hb⟩ := hrel
              have HB := hideIt hb
              clear hb
              by_cases hqL : q < L
              · have hqL' : (q : Int) < (L : Int) := by omega
                obtain ⟨_, y1, y2, _⟩ := HEi.out wr HB.out q hqL
                obtain ⟨_, _, z2, _⟩ := HEi.out wr HB.out i hiL
                cases g3 : ((E q).t != 2)
                · cases g4 : ((E q).k != (E i).k)
                  · have Hq2 := hideIt (show (E q).t = 2 by simpa using g3)
                    have Hk2 := hideIt (show (E q).k = (E i).k by simpa using g4)
                    go_upto_region 18 with fail
                    go_quiet (fail)
                    go_wp2
                    clear y1 y2 z2 g3 g4
                    go_loopw [10] (fun v wy => ∃ b : Int, (-1 ≤ b ∧ b ≤ q) ∧ v = .int .i64 b ∧ (∀ j : Nat, b < j → j ≤ q → ¬ ((E j).t = 1 ∧ (E j).p = (E q).p)) ∧ Below W7.heap.size W7 wy) (fun v _ => (intOf v + 1).toNat)
                    case atStart => exact ⟨q, by omega, rfl, fun j h1 h2 => absurd h1 (by omega), below_drewN HB.out _⟩
                    case round =>
                      clear HB
                      obtain ⟨b, hbq, rfl, hno, hb⟩ := hrel
                      have HB := hideIt hb
                      have HNo := hideIt hno
                      clear hb hno
                      by_cases hb0 : 0 ≤ b
                      · obtain ⟨c, rfl⟩ : ∃ c : Nat, b = c := ⟨b.toNat, by omega⟩
                        have hcq : c ≤ q := by omega
                        have hcL' : (c : Int) < (L : Int) := by omega
                        have hge : decide ((c : Int) ≥ 0) = true := decide_eq_true (by omega)
                        obtain ⟨u0, u1, _⟩ := HEi.out wr HB.out c (by omega)
                        obtain ⟨v0, _, _, v3, _⟩ := HEi.out wr HB.out q hqL
                        have hws : IntKind.i64.wrap ((c : Int) - 1) = (c : Int) - 1 := IntWalk.i64_in _ (by omega)
                        cases g5 : ((E c).t != 1)
                        · cases g6 : ((E c).p != (E q).p)
                          · have hc1 : (E c).t = 1 := by simpa using g5
                            have hcp : (E c).p = (E q).p := by simpa using g6
                            have HTs : Hid (∀ Z, Below W7.heap.size W7 Z → Z.cell? ⟨gs, q * 2, none⟩ = some (.int .i64 (T q).t) ∧ Z.cell? ⟨gs, q * 2 + 1, none⟩ = some (.int .i64 (T q).c) ∧ Z.cell? ⟨gs, i * 2, none⟩ = some (.int .i64 (T i).t) ∧ Z.cell? ⟨gs, i * 2 + 1, none⟩ = some (.int .i64 (T i).c)) := fun Z hZ => ⟨(HTi.out Z hZ q hqL).1, (HTi.out Z hZ q hqL).2, (HTi.out Z hZ i hiL).1, (HTi.out Z hZ i hiL).2⟩
                            have HEq : Hid (∀ Z, Below W7.heap.size W7 Z → Z.cell? ⟨ge, q * 7 + 3, none⟩ = some (.int .i64 (E q).d)) := fun Z hZ => (HEi.out Z hZ q hqL).2.2.2.1
                            by_cases hic : i < c
                            · have hgt : decide ((c : Int) > (i : Int)) = true := decide_eq_true (by omega)
                              have hcq' : c < q := by
                                rcases Nat.lt_or_ge c q with h | h
                                · exact h
                                · exfalso
                                  have e : c = q := by omega
                                  have := Hq2.out
                                  rw [e, this] at hc1
                                  exact absurd hc1 (by decide)
                              obtain ⟨r1, r2⟩ := HF.out i q c hic hcq' hqL Ht2.out Hd2.out Hq2.out Hk2.out hcp fun j h1 h2 => HNo.out j (by omega) (by omega)
                              have HL1 : Hid (∀ Z, Calls Try.prog 11 #[.agg #[.int .i64 (T q).t, .int .i64 (T q).c], .agg #[.int .i64 (T i).t, .int .i64 (T i).c]] Z fun e w' => e = .returned (.bool false) ∧ Below Z.heap.size Z w') := fun Z => by
                                have := less_any (T q) (T i) Z
                                rw [decide_eq_false r1] at this
                                exact this
                              cases g7 : ((E q).d == 2)
                              · clear hc1 hcp r1 r2 HNo
                                go_upto_region 20 with fail
                                go_quiet (fail)
                                clear u0 u1 v0 v3 g5 g6
                                go_upto_region 22 with fail
                                refine wp_region_held_drew (S := (fun Z => Below W7.heap.size W7 Z)) (by kernel_rfl) (below_drewN HB.out _).drew (fun hHeld => ?_)
                                refine wpAnyH_take (i := 0) (v := ?_) rfl (by kernel_rfl) (by kernel_rfl) (by kernel_rfl) (fun _ _ _ h => h) (Or.inl ⟨by rfl, ?_⟩) (by assumption) ?_
                                rotate_left 1
                                · intro wz _
                                  go_simp
                                  all_goals with_reducible rfl
                                simp only [Act.put, List.setIfInBounds_toArray, List.set_cons_zero, List.set_cons_succ, List.getElem_toArray, List.getElem_cons_zero]
                                refine wpAnyH_take (i := 1) (v := ?_) rfl (by kernel_rfl) (by kernel_rfl) (by kernel_rfl) (fun _ _ _ h => h) (Or.inl ⟨by rfl, ?_⟩) (by assumption) ?_
                                rotate_left 1
                                · intro wz _
                                  go_simp
                                  all_goals with_reducible rfl
                                simp only [Act.put, List.setIfInBounds_toArray, List.set_cons_zero, List.set_cons_succ, List.getElem_toArray, List.getElem_cons_zero, List.getElem_cons_succ]
                                refine wpAnyH_take (i := 2) (v := ?_) rfl (by kernel_rfl) (by kernel_rfl) (by kernel_rfl) (fun _ _ _ h => h) (Or.inl ⟨by rfl, ?_⟩) (by assumption) ?_
                                rotate_left 1
                                · intro wz _
                                  go_simp
                                  all_goals with_reducible rfl
                                simp only [Act.put, List.setIfInBounds_toArray, List.set_cons_zero, List.set_cons_succ, List.getElem_toArray, List.getElem_cons_zero, List.getElem_cons_succ]
                                refine wpAnyH_take (i := 3) (v := ?_) rfl (by kernel_rfl) (by kernel_rfl) (by kernel_rfl) (fun _ _ _ h => h) (Or.inl ⟨by rfl, ?_⟩) (by assumption) ?_
                                rotate_left 1
                                · intro wz _
                                  go_simp
                                  all_goals with_reducible rfl
                                simp only [Act.put, List.setIfInBounds_toArray, List.set_cons_zero, List.set_cons_succ, List.getElem_toArray, List.getElem_cons_zero, List.getElem_cons_succ]
                                refine wpAnyH_take (i := 4) (v := ?_) rfl (by kernel_rfl) (by kernel_rfl) (by kernel_rfl) (fun _ _ _ h => h) (Or.inl ⟨by rfl, ?_⟩) (by assumption) ?_
                                rotate_left 1
                                · intro wz _
                                  go_simp
                                  all_goals with_reducible rfl
                                simp only [Act.put, List.setIfInBounds_toArray, List.set_cons_zero, List.set_cons_succ, List.getElem_toArray, List.getElem_cons_zero, List.getElem_cons_succ]
                                refine wpAnyH_take (i := 5) (v := ?_) rfl (by kernel_rfl) (by kernel_rfl) (by kernel_rfl) (fun _ _ _ h => h) (Or.inl ⟨by rfl, ?_⟩) (by assumption) ?_
                                rotate_left 1
                                · intro wz _
                                  go_simp
                                  all_goals with_reducible rfl
                                simp only [Act.put, List.setIfInBounds_toArray, List.set_cons_zero, List.set_cons_succ, List.getElem_toArray, List.getElem_cons_zero, List.getElem_cons_succ]
                                refine wpAnyH_take (i := 6) (v := ?_) rfl (by kernel_rfl) (by kernel_rfl) (by kernel_rfl) (fun _ _ _ h => h) (Or.inl ⟨by rfl, ?_⟩) (by assumption) ?_
                                rotate_left 1
                                · intro wz _
                                  go_simp
                                  all_goals with_reducible rfl
                                simp only [Act.put, List.setIfInBounds_toArray, List.set_cons_zero, List.set_cons_succ, List.getElem_toArray, List.getElem_cons_zero, List.getElem_cons_succ]
                                refine wpAnyH_take (i := 7) (v := ?_) rfl (by kernel_rfl) (by kernel_rfl) (by kernel_rfl) (fun _ _ _ h => h) (Or.inl ⟨by rfl, ?_⟩) (by assumption) ?_
                                rotate_left 1
                                · intro wz sb
                                  obtain ⟨t0, t1, t2, t3⟩ := HTs.out wz sb
                                  go_simp
                                  all_goals with_reducible rfl
                                simp only [Act.put, List.setIfInBounds_toArray, List.set_cons_zero, List.set_cons_succ, List.getElem_toArray, List.getElem_cons_zero, List.getElem_cons_succ]
                                refine wpAnyH_take (i := 8) (v := ?_) rfl (by kernel_rfl) (by kernel_rfl) (by kernel_rfl) (fun _ _ _ h => h) (Or.inl ⟨by rfl, ?_⟩) (by assumption) ?_
                                rotate_left 1
                                · intro wz _
                                  go_simp
                                  all_goals with_reducible rfl
                                simp only [Act.put, List.setIfInBounds_toArray, List.set_cons_zero, List.set_cons_succ, List.getElem_toArray, List.getElem_cons_zero, List.getElem_cons_succ]
                                refine wpAnyH_take (i := 9) (v := ?_) rfl (by kernel_rfl) (by kernel_rfl) (by kernel_rfl) (fun _ _ _ h => h) (Or.inl ⟨by rfl, ?_⟩) (by assumption) ?_
                                rotate_left 1
                                · intro wz _
                                  go_simp
                                  all_goals with_reducible rfl
                                simp only [Act.put, List.setIfInBounds_toArray, List.set_cons_zero, List.set_cons_succ, List.getElem_toArray, List.getElem_cons_zero, List.getElem_cons_succ]
                                refine wpAnyH_take (i := 10) (v := ?_) rfl (by kernel_rfl) (by kernel_rfl) (by kernel_rfl) (fun _ _ _ h => h) (Or.inl ⟨by rfl, ?_⟩) (by assumption) ?_
                                rotate_left 1
                                · intro wz _
                                  go_simp
                                  all_goals with_reducible rfl
                                simp only [Act.put, List.setIfInBounds_toArray, List.set_cons_zero, List.set_cons_succ, List.getElem_toArray, List.getElem_cons_zero, List.getElem_cons_succ]
                                refine wpAnyH_take (i := 11) (v := ?_) rfl (by kernel_rfl) (by kernel_rfl) (by kernel_rfl) (fun _ _ _ h => h) (Or.inl ⟨by rfl, ?_⟩) (by assumption) ?_
                                rotate_left 1
                                · intro wz sb
                                  obtain ⟨t0, t1, t2, t3⟩ := HTs.out wz sb
                                  go_simp
                                  all_goals with_reducible rfl
                                simp only [Act.put, List.setIfInBounds_toArray, List.set_cons_zero, List.set_cons_succ, List.getElem_toArray, List.getElem_cons_zero, List.getElem_cons_succ]
                                refine wpAnyH_ready (rs := [12]) (by kernel_rfl) (by simp) (AllReadyH.cons rfl (fun Q hQ => ?_) AllReadyH.nil)
                                go_simp
                                refine (HL1.out _).mono ?_
                                rintro e V3 ⟨rfl, hb3⟩
                                refine hQ.out _ _ (belJ hHeld hb3) (fun hHeld => ?_)
                                clear hQ Q hb3
                                refine wpAnyH_take (i := 13) (v := ?_) rfl (by kernel_rfl) (by kernel_rfl) (by kernel_rfl) (fun _ _ _ h => h) (Or.inl ⟨by rfl, ?_⟩) (by assumption) ?_
                                rotate_left 1
                                · intro wz _
                                  go_simp
                                  all_goals with_reducible rfl
                                simp only [Act.put, List.setIfInBounds_toArray, List.set_cons_zero, List.set_cons_succ, List.getElem_toArray, List.getElem_cons_zero, List.getElem_cons_succ]
                                refine wpAnyH_take (i := 14) (v := ?_) rfl (by kernel_rfl) (by kernel_rfl) (by kernel_rfl) (fun _ _ _ h => h) (Or.inl ⟨by rfl, ?_⟩) (by assumption) ?_
                                rotate_left 1
                                · intro wz _
                                  go_simp
                                  all_goals with_reducible rfl
                                simp only [Act.put, List.setIfInBounds_toArray, List.set_cons_zero, List.set_cons_succ, List.getElem_toArray, List.getElem_cons_zero, List.getElem_cons_succ]
                                refine wpAnyH_take (i := 15) (v := ?_) rfl (by kernel_rfl) (by kernel_rfl) (by kernel_rfl) (fun _ _ _ h => h) (Or.inl ⟨by rfl, ?_⟩) (by assumption) ?_
                                rotate_left 1
                                · intro wz _
                                  go_simp
                                  all_goals with_reducible rfl
                                simp only [Act.put, List.setIfInBounds_toArray, List.set_cons_zero, List.set_cons_succ, List.getElem_toArray, List.getElem_cons_zero, List.getElem_cons_succ]
                                refine wpAnyH_take (i := 16) (v := ?_) rfl (by kernel_rfl) (by kernel_rfl) (by kernel_rfl) (fun _ _ _ h => h) (Or.inl ⟨by rfl, ?_⟩) (by assumption) ?_
                                rotate_left 1
                                · intro wz _
                                  go_simp
                                  all_goals with_reducible rfl
                                simp only [Act.put, List.setIfInBounds_toArray, List.set_cons_zero, List.set_cons_succ, List.getElem_toArray, List.getElem_cons_zero, List.getElem_cons_succ]
                                refine wpAnyH_take (i := 17) (v := ?_) rfl (by kernel_rfl) (by kernel_rfl) (by kernel_rfl) (fun _ _ _ h => h) (Or.inl ⟨by rfl, ?_⟩) (by assumption) ?_
                                rotate_left 1
                                · intro wz _
                                  go_simp
                                  all_goals with_reducible rfl
                                simp only [Act.put, List.setIfInBounds_toArray, List.set_cons_zero, List.set_cons_succ, List.getElem_toArray, List.getElem_cons_zero, List.getElem_cons_succ]
                                refine wpAnyH_take (i := 18) (v := ?_) rfl (by kernel_rfl) (by kernel_rfl) (by kernel_rfl) (fun _ _ _ h => h) (Or.inl ⟨by rfl, ?_⟩) (by assumption) ?_
                                rotate_left 1
                                · intro wz sb
                                  have x3 := HEq.out wz sb
                                  go_simp
                                  all_goals with_reducible rfl
                                simp only [Act.put, List.setIfInBounds_toArray, List.set_cons_zero, List.set_cons_succ, List.getElem_toArray, List.getElem_cons_zero, List.getElem_cons_succ]
                                refine wpAnyH_take (i := 19) (v := ?_) rfl (by kernel_rfl) (by kernel_rfl) (by kernel_rfl) (fun _ _ _ h => h) (Or.inl ⟨by rfl, ?_⟩) (by assumption) ?_
                                rotate_left 1
                                · intro wz _
                                  go_simp
                                  all_goals with_reducible rfl
                                simp only [Act.put, List.setIfInBounds_toArray, List.set_cons_zero, List.set_cons_succ, List.getElem_toArray, List.getElem_cons_zero, List.getElem_cons_succ]
                                refine wpAnyH_take (i := 20) (v := ?_) rfl (by kernel_rfl) (by kernel_rfl) (by kernel_rfl) (fun _ _ _ h => h) (Or.inl ⟨by rfl, ?_⟩) (by assumption) ?_
                                rotate_left 1
                                · intro wz _
                                  go_simp
                                  all_goals with_reducible rfl
                                simp only [Act.put, List.setIfInBounds_toArray, List.set_cons_zero, List.set_cons_succ, List.getElem_toArray, List.getElem_cons_zero, List.getElem_cons_succ]
                                refine wpAnyH_take (i := 21) (v := undef) rfl (by kernel_rfl) (by kernel_rfl) (by kernel_rfl) (fun _ _ _ h => h) (Or.inr ⟨by rfl, rfl⟩) (by assumption) ?_
                                simp only [Act.put, List.setIfInBounds_toArray, List.set_cons_zero, List.set_cons_succ, List.getElem_toArray, List.getElem_cons_zero, List.getElem_cons_succ]
                                refine wpAnyH_take (i := 22) (v := undef) rfl (by kernel_rfl) (by kernel_rfl) (by kernel_rfl) (fun _ _ _ h => h) (Or.inr ⟨by rfl, rfl⟩) (by assumption) ?_
                                simp only [Act.put, List.setIfInBounds_toArray, List.set_cons_zero, List.set_cons_succ, List.getElem_toArray, List.getElem_cons_zero, List.getElem_cons_succ]
                                refine wpAnyH_take (i := 23) (v := undef) rfl (by kernel_rfl) (by kernel_rfl) (by kernel_rfl) (fun _ _ _ h => h) (Or.inr ⟨by rfl, rfl⟩) (by assumption) ?_
                                simp only [Act.put, List.setIfInBounds_toArray, List.set_cons_zero, List.set_cons_succ, List.getElem_toArray, List.getElem_cons_zero, List.getElem_cons_succ]
                                refine wpAnyH_take (i := 24) (v := undef) rfl (by kernel_rfl) (by kernel_rfl) (by kernel_rfl) (fun _ _ _ h => h) (Or.inr ⟨by rfl, rfl⟩) (by assumption) ?_
                                simp only [Act.put, List.setIfInBounds_toArray, List.set_cons_zero, List.set_cons_succ, List.getElem_toArray, List.getElem_cons_zero, List.getElem_cons_succ]
                                refine wpAnyH_take (i := 25) (v := undef) rfl (by kernel_rfl) (by kernel_rfl) (by kernel_rfl) (fun _ _ _ h => h) (Or.inr ⟨by rfl, rfl⟩) (by assumption) ?_
                                simp only [Act.put, List.setIfInBounds_toArray, List.set_cons_zero, List.set_cons_succ, List.getElem_toArray, List.getElem_cons_zero, List.getElem_cons_succ]
                                refine wpAnyH_take (i := 26) (v := undef) rfl (by kernel_rfl) (by kernel_rfl) (by kernel_rfl) (fun _ _ _ h => h) (Or.inr ⟨by rfl, rfl⟩) (by assumption) ?_
                                simp only [Act.put, List.setIfInBounds_toArray, List.set_cons_zero, List.set_cons_succ, List.getElem_toArray, List.getElem_cons_zero, List.getElem_cons_succ]
                                refine wpAnyH_take (i := 27) (v := undef) rfl (by kernel_rfl) (by kernel_rfl) (by kernel_rfl) (fun _ _ _ h => h) (Or.inr ⟨by rfl, rfl⟩) (by assumption) ?_
                                simp only [Act.put, List.setIfInBounds_toArray, List.set_cons_zero, List.set_cons_succ, List.getElem_toArray, List.getElem_cons_zero, List.getElem_cons_succ]
                                refine wpAnyH_take (i := 28) (v := undef) rfl (by kernel_rfl) (by kernel_rfl) (by kernel_rfl) (fun _ _ _ h => h) (Or.inr ⟨by rfl, rfl⟩) (by assumption) ?_
                                simp only [Act.put, List.setIfInBounds_toArray, List.set_cons_zero, List.set_cons_succ, List.getElem_toArray, List.getElem_cons_zero, List.getElem_cons_succ]
                                refine wpAnyH_take (i := 29) (v := undef) rfl (by kernel_rfl) (by kernel_rfl) (by kernel_rfl) (fun _ _ _ h => h) (Or.inr ⟨by rfl, rfl⟩) (by assumption) ?_
                                simp only [Act.put, List.setIfInBounds_toArray, List.set_cons_zero, List.set_cons_succ, List.getElem_toArray, List.getElem_cons_zero, List.getElem_cons_succ]
                                refine wpAnyH_take (i := 30) (v := undef) rfl (by kernel_rfl) (by kernel_rfl) (by kernel_rfl) (fun _ _ _ h => h) (Or.inr ⟨by rfl, rfl⟩) (by assumption) ?_
                                simp only [Act.put, List.setIfInBounds_toArray, List.set_cons_zero, List.set_cons_succ, List.getElem_toArray, List.getElem_cons_zero, List.getElem_cons_succ]
                                refine wpAnyH_take (i := 31) (v := ?_) rfl (by kernel_rfl) (by kernel_rfl) (by kernel_rfl) (fun _ _ _ h => h) (Or.inl ⟨by rfl, ?_⟩) (by assumption) ?_
                                rotate_left 1
                                · intro wz _
                                  go_simp
                                  all_goals with_reducible rfl
                                simp only [Act.put, List.setIfInBounds_toArray, List.set_cons_zero, List.set_cons_succ, List.getElem_toArray, List.getElem_cons_zero, List.getElem_cons_succ]
                                refine wpAnyH_take (i := 32) (v := ?_) rfl (by kernel_rfl) (by kernel_rfl) (by kernel_rfl) (fun _ _ _ h => h) (Or.inl ⟨by rfl, ?_⟩) (by assumption) ?_
                                rotate_left 1
                                · intro wz _
                                  go_simp
                                  all_goals with_reducible rfl
                                simp only [Act.put, List.setIfInBounds_toArray, List.set_cons_zero, List.set_cons_succ, List.getElem_toArray, List.getElem_cons_zero, List.getElem_cons_succ]
                                refine wpAnyH_take (i := 33) (v := ?_) rfl (by kernel_rfl) (by kernel_rfl) (by kernel_rfl) (fun _ _ _ h => h) (Or.inl ⟨by rfl, ?_⟩) (by assumption) ?_
                                rotate_left 1
                                · intro wz _
                                  go_simp
                                  all_goals with_reducible rfl
                                simp only [Act.put, List.setIfInBounds_toArray, List.set_cons_zero, List.set_cons_succ, List.getElem_toArray, List.getElem_cons_zero, List.getElem_cons_succ]
                                have HB9 := hideIt hHeld
                                clear hHeld
                                refine wpAnyH_done (by kernel_rfl) ?_ _
                                go_wp2
                                go_roundw
                                case rel => exact ⟨q + 1, by omega, by omega, by go_num, HB9.out⟩
                                case measure => simp [intOf]; omega
                              · have hl2 := r2 (by simpa using g7)
                                have HL2 : Hid (∀ Z, Calls Try.prog 11 #[.agg #[.int .i64 (T i).t, .int .i64 (T i).c], .agg #[.int .i64 (T q).t, .int .i64 (T q).c]] Z fun e w' => e = .returned (.bool true) ∧ Below Z.heap.size Z w') := fun Z => by
                                  have := less_any (T i) (T q) Z
                                  rw [decide_eq_true hl2] at this
                                  exact this
                                clear hc1 hcp r1 r2 HNo hl2
                                go_upto_region 20 with fail
                                go_quiet (fail)
                                clear u0 u1 v0 v3 g5 g6
                                go_upto_region 22 with fail
                                refine wp_region_held_drew (S := (fun Z => Below W7.heap.size W7 Z)) (by kernel_rfl) (below_drewN HB.out _).drew (fun hHeld => ?_)
                                refine wpAnyH_take (i := 0) (v := ?_) rfl (by kernel_rfl) (by kernel_rfl) (by kernel_rfl) (fun _ _ _ h => h) (Or.inl ⟨by rfl, ?_⟩) (by assumption) ?_
                                rotate_left 1
                                · intro wz _
                                  go_simp
                                  all_goals with_reducible rfl
                                simp only [Act.put, List.setIfInBounds_toArray, List.set_cons_zero, List.set_cons_succ, List.getElem_toArray, List.getElem_cons_zero]
                                refine wpAnyH_take (i := 1) (v := ?_) rfl (by kernel_rfl) (by kernel_rfl) (by kernel_rfl) (fun _ _ _ h => h) (Or.inl ⟨by rfl, ?_⟩) (by assumption) ?_
                                rotate_left 1
                                · intro wz _
                                  go_simp
                                  all_goals with_reducible rfl
                                simp only [Act.put, List.setIfInBounds_toArray, List.set_cons_zero, List.set_cons_succ, List.getElem_toArray, List.getElem_cons_zero, List.getElem_cons_succ]
                                refine wpAnyH_take (i := 2) (v := ?_) rfl (by kernel_rfl) (by kernel_rfl) (by kernel_rfl) (fun _ _ _ h => h) (Or.inl ⟨by rfl, ?_⟩) (by assumption) ?_
                                rotate_left 1
                                · intro wz _
                                  go_simp
                                  all_goals with_reducible rfl
                                simp only [Act.put, List.setIfInBounds_toArray, List.set_cons_zero, List.set_cons_succ, List.getElem_toArray, List.getElem_cons_zero, List.getElem_cons_succ]
                                refine wpAnyH_take (i := 3) (v := ?_) rfl (by kernel_rfl) (by kernel_rfl) (by kernel_rfl) (fun _ _ _ h => h) (Or.inl ⟨by rfl, ?_⟩) (by assumption) ?_
                                rotate_left 1
                                · intro wz _
                                  go_simp
                                  all_goals with_reducible rfl
                                simp only [Act.put, List.setIfInBounds_toArray, List.set_cons_zero, List.set_cons_succ, List.getElem_toArray, List.getElem_cons_zero, List.getElem_cons_succ]
                                refine wpAnyH_take (i := 4) (v := ?_) rfl (by kernel_rfl) (by kernel_rfl) (by kernel_rfl) (fun _ _ _ h => h) (Or.inl ⟨by rfl, ?_⟩) (by assumption) ?_
                                rotate_left 1
                                · intro wz _
                                  go_simp
                                  all_goals with_reducible rfl
                                simp only [Act.put, List.setIfInBounds_toArray, List.set_cons_zero, List.set_cons_succ, List.getElem_toArray, List.getElem_cons_zero, List.getElem_cons_succ]
                                refine wpAnyH_take (i := 5) (v := ?_) rfl (by kernel_rfl) (by kernel_rfl) (by kernel_rfl) (fun _ _ _ h => h) (Or.inl ⟨by rfl, ?_⟩) (by assumption) ?_
                                rotate_left 1
                                · intro wz _
                                  go_simp
                                  all_goals with_reducible rfl
                                simp only [Act.put, List.setIfInBounds_toArray, List.set_cons_zero, List.set_cons_succ, List.getElem_toArray, List.getElem_cons_zero, List.getElem_cons_succ]
                                refine wpAnyH_take (i := 6) (v := ?_) rfl (by kernel_rfl) (by kernel_rfl) (by kernel_rfl) (fun _ _ _ h => h) (Or.inl ⟨by rfl, ?_⟩) (by assumption) ?_
                                rotate_left 1
                                · intro wz _
                                  go_simp
                                  all_goals with_reducible rfl
                                simp only [Act.put, List.setIfInBounds_toArray, List.set_cons_zero, List.set_cons_succ, List.getElem_toArray, List.getElem_cons_zero, List.getElem_cons_succ]
                                refine wpAnyH_take (i := 7) (v := ?_) rfl (by kernel_rfl) (by kernel_rfl) (by kernel_rfl) (fun _ _ _ h => h) (Or.inl ⟨by rfl, ?_⟩) (by assumption) ?_
                                rotate_left 1
                                · intro wz sb
                                  obtain ⟨t0, t1, t2, t3⟩ := HTs.out wz sb
                                  go_simp
                                  all_goals with_reducible rfl
                                simp only [Act.put, List.setIfInBounds_toArray, List.set_cons_zero, List.set_cons_succ, List.getElem_toArray, List.getElem_cons_zero, List.getElem_cons_succ]
                                refine wpAnyH_take (i := 8) (v := ?_) rfl (by kernel_rfl) (by kernel_rfl) (by kernel_rfl) (fun _ _ _ h => h) (Or.inl ⟨by rfl, ?_⟩) (by assumption) ?_
                                rotate_left 1
                                · intro wz _
                                  go_simp
                                  all_goals with_reducible rfl
                                simp only [Act.put, List.setIfInBounds_toArray, List.set_cons_zero, List.set_cons_succ, List.getElem_toArray, List.getElem_cons_zero, List.getElem_cons_succ]
                                refine wpAnyH_take (i := 9) (v := ?_) rfl (by kernel_rfl) (by kernel_rfl) (by kernel_rfl) (fun _ _ _ h => h) (Or.inl ⟨by rfl, ?_⟩) (by assumption) ?_
                                rotate_left 1
                                · intro wz _
                                  go_simp
                                  all_goals with_reducible rfl
                                simp only [Act.put, List.setIfInBounds_toArray, List.set_cons_zero, List.set_cons_succ, List.getElem_toArray, List.getElem_cons_zero, List.getElem_cons_succ]
                                refine wpAnyH_take (i := 10) (v := ?_) rfl (by kernel_rfl) (by kernel_rfl) (by kernel_rfl) (fun _ _ _ h => h) (Or.inl ⟨by rfl, ?_⟩) (by assumption) ?_
                                rotate_left 1
                                · intro wz _
                                  go_simp
                                  all_goals with_reducible rfl
                                simp only [Act.put, List.setIfInBounds_toArray, List.set_cons_zero, List.set_cons_succ, List.getElem_toArray, List.getElem_cons_zero, List.getElem_cons_succ]
                                refine wpAnyH_take (i := 11) (v := ?_) rfl (by kernel_rfl) (by kernel_rfl) (by kernel_rfl) (fun _ _ _ h => h) (Or.inl ⟨by rfl, ?_⟩) (by assumption) ?_
                                rotate_left 1
                                · intro wz sb
                                  obtain ⟨t0, t1, t2, t3⟩ := HTs.out wz sb
                                  go_simp
                                  all_goals with_reducible rfl
                                simp only [Act.put, List.setIfInBounds_toArray, List.set_cons_zero, List.set_cons_succ, List.getElem_toArray, List.getElem_cons_zero, List.getElem_cons_succ]
                                refine wpAnyH_ready (rs := [12]) (by kernel_rfl) (by simp) (AllReadyH.cons rfl (fun Q hQ => ?_) AllReadyH.nil)
                                go_simp
                                refine (HL1.out _).mono ?_
                                rintro e V3 ⟨rfl, hb3⟩
                                refine hQ.out _ _ (belJ hHeld hb3) (fun hHeld => ?_)
                                clear hQ Q hb3
                                refine wpAnyH_take (i := 13) (v := ?_) rfl (by kernel_rfl) (by kernel_rfl) (by kernel_rfl) (fun _ _ _ h => h) (Or.inl ⟨by rfl, ?_⟩) (by assumption) ?_
                                rotate_left 1
                                · intro wz _
                                  go_simp
                                  all_goals with_reducible rfl
                                simp only [Act.put, List.setIfInBounds_toArray, List.set_cons_zero, List.set_cons_succ, List.getElem_toArray, List.getElem_cons_zero, List.getElem_cons_succ]
                                refine wpAnyH_take (i := 14) (v := ?_) rfl (by kernel_rfl) (by kernel_rfl) (by kernel_rfl) (fun _ _ _ h => h) (Or.inl ⟨by rfl, ?_⟩) (by assumption) ?_
                                rotate_left 1
                                · intro wz _
                                  go_simp
                                  all_goals with_reducible rfl
                                simp only [Act.put, List.setIfInBounds_toArray, List.set_cons_zero, List.set_cons_succ, List.getElem_toArray, List.getElem_cons_zero, List.getElem_cons_succ]
                                refine wpAnyH_take (i := 15) (v := ?_) rfl (by kernel_rfl) (by kernel_rfl) (by kernel_rfl) (fun _ _ _ h => h) (Or.inl ⟨by rfl, ?_⟩) (by assumption) ?_
                                rotate_left 1
                                · intro wz _
                                  go_simp
                                  all_goals with_reducible rfl
                                simp only [Act.put, List.setIfInBounds_toArray, List.set_cons_zero, List.set_cons_succ, List.getElem_toArray, List.getElem_cons_zero, List.getElem_cons_succ]
                                refine wpAnyH_take (i := 16) (v := ?_) rfl (by kernel_rfl) (by kernel_rfl) (by kernel_rfl) (fun _ _ _ h => h) (Or.inl ⟨by rfl, ?_⟩) (by assumption) ?_
                                rotate_left 1
                                · intro wz _
                                  go_simp
                                  all_goals with_reducible rfl
                                simp only [Act.put, List.setIfInBounds_toArray, List.set_cons_zero, List.set_cons_succ, List.getElem_toArray, List.getElem_cons_zero, List.getElem_cons_succ]
                                refine wpAnyH_take (i := 17) (v := ?_) rfl (by kernel_rfl) (by kernel_rfl) (by kernel_rfl) (fun _ _ _ h => h) (Or.inl ⟨by rfl, ?_⟩) (by assumption) ?_
                                rotate_left 1
                                · intro wz _
                                  go_simp
                                  all_goals with_reducible rfl
                                simp only [Act.put, List.setIfInBounds_toArray, List.set_cons_zero, List.set_cons_succ, List.getElem_toArray, List.getElem_cons_zero, List.getElem_cons_succ]
                                refine wpAnyH_take (i := 18) (v := ?_) rfl (by kernel_rfl) (by kernel_rfl) (by kernel_rfl) (fun _ _ _ h => h) (Or.inl ⟨by rfl, ?_⟩) (by assumption) ?_
                                rotate_left 1
                                · intro wz sb
                                  have x3 := HEq.out wz sb
                                  go_simp
                                  all_goals with_reducible rfl
                                simp only [Act.put, List.setIfInBounds_toArray, List.set_cons_zero, List.set_cons_succ, List.getElem_toArray, List.getElem_cons_zero, List.getElem_cons_succ]
                                refine wpAnyH_take (i := 19) (v := ?_) rfl (by kernel_rfl) (by kernel_rfl) (by kernel_rfl) (fun _ _ _ h => h) (Or.inl ⟨by rfl, ?_⟩) (by assumption) ?_
                                rotate_left 1
                                · intro wz _
                                  go_simp
                                  all_goals with_reducible rfl
                                simp only [Act.put, List.setIfInBounds_toArray, List.set_cons_zero, List.set_cons_succ, List.getElem_toArray, List.getElem_cons_zero, List.getElem_cons_succ]
                                refine wpAnyH_take (i := 20) (v := ?_) rfl (by kernel_rfl) (by kernel_rfl) (by kernel_rfl) (fun _ _ _ h => h) (Or.inl ⟨by rfl, ?_⟩) (by assumption) ?_
                                rotate_left 1
                                · intro wz _
                                  go_simp
                                  all_goals with_reducible rfl
                                simp only [Act.put, List.setIfInBounds_toArray, List.set_cons_zero, List.set_cons_succ, List.getElem_toArray, List.getElem_cons_zero, List.getElem_cons_succ]
                                refine wpAnyH_take (i := 21) (v := ?_) rfl (by kernel_rfl) (by kernel_rfl) (by kernel_rfl) (fun _ _ _ h => h) (Or.inl ⟨by rfl, ?_⟩) (by assumption) ?_
                                rotate_left 1
                                · intro wz _
                                  go_simp
                                  all_goals with_reducible rfl
                                simp only [Act.put, List.setIfInBounds_toArray, List.set_cons_zero, List.set_cons_succ, List.getElem_toArray, List.getElem_cons_zero, List.getElem_cons_succ]
                                refine wpAnyH_take (i := 22) (v := ?_) rfl (by kernel_rfl) (by kernel_rfl) (by kernel_rfl) (fun _ _ _ h => h) (Or.inl ⟨by rfl, ?_⟩) (by assumption) ?_
                                rotate_left 1
                                · intro wz _
                                  go_simp
                                  all_goals with_reducible rfl
                                simp only [Act.put, List.setIfInBounds_toArray, List.set_cons_zero, List.set_cons_succ, List.getElem_toArray, List.getElem_cons_zero, List.getElem_cons_succ]
                                refine wpAnyH_take (i := 23) (v := ?_) rfl (by kernel_rfl) (by kernel_rfl) (by kernel_rfl) (fun _ _ _ h => h) (Or.inl ⟨by rfl, ?_⟩) (by assumption) ?_
                                rotate_left 1
                                · intro wz _
                                  go_simp
                                  all_goals with_reducible rfl
                                simp only [Act.put, List.setIfInBounds_toArray, List.set_cons_zero, List.set_cons_succ, List.getElem_toArray, List.getElem_cons_zero, List.getElem_cons_succ]
                                refine wpAnyH_take (i := 24) (v := ?_) rfl (by kernel_rfl) (by kernel_rfl) (by kernel_rfl) (fun _ _ _ h => h) (Or.inl ⟨by rfl, ?_⟩) (by assumption) ?_
                                rotate_left 1
                                · intro wz sb
                                  obtain ⟨t0, t1, t2, t3⟩ := HTs.out wz sb
                                  go_simp
                                  all_goals with_reducible rfl
                                simp only [Act.put, List.setIfInBounds_toArray, List.set_cons_zero, List.set_cons_succ, List.getElem_toArray, List.getElem_cons_zero, List.getElem_cons_succ]
                                refine wpAnyH_take (i := 25) (v := ?_) rfl (by kernel_rfl) (by kernel_rfl) (by kernel_rfl) (fun _ _ _ h => h) (Or.inl ⟨by rfl, ?_⟩) (by assumption) ?_
                                rotate_left 1
                                · intro wz _
                                  go_simp
                                  all_goals with_reducible rfl
                                simp only [Act.put, List.setIfInBounds_toArray, List.set_cons_zero, List.set_cons_succ, List.getElem_toArray, List.getElem_cons_zero, List.getElem_cons_succ]
                                refine wpAnyH_take (i := 26) (v := ?_) rfl (by kernel_rfl) (by kernel_rfl) (by kernel_rfl) (fun _ _ _ h => h) (Or.inl ⟨by rfl, ?_⟩) (by assumption) ?_
                                rotate_left 1
                                · intro wz _
                                  go_simp
                                  all_goals with_reducible rfl
                                simp only [Act.put, List.setIfInBounds_toArray, List.set_cons_zero, List.set_cons_succ, List.getElem_toArray, List.getElem_cons_zero, List.getElem_cons_succ]
                                refine wpAnyH_take (i := 27) (v := ?_) rfl (by kernel_rfl) (by kernel_rfl) (by kernel_rfl) (fun _ _ _ h => h) (Or.inl ⟨by rfl, ?_⟩) (by assumption) ?_
                                rotate_left 1
                                · intro wz _
                                  go_simp
                                  all_goals with_reducible rfl
                                simp only [Act.put, List.setIfInBounds_toArray, List.set_cons_zero, List.set_cons_succ, List.getElem_toArray, List.getElem_cons_zero, List.getElem_cons_succ]
                                refine wpAnyH_take (i := 28) (v := ?_) rfl (by kernel_rfl) (by kernel_rfl) (by kernel_rfl) (fun _ _ _ h => h) (Or.inl ⟨by rfl, ?_⟩) (by assumption) ?_
                                rotate_left 1
                                · intro wz sb
                                  obtain ⟨t0, t1, t2, t3⟩ := HTs.out wz sb
                                  go_simp
                                  all_goals with_reducible rfl
                                simp only [Act.put, List.setIfInBounds_toArray, List.set_cons_zero, List.set_cons_succ, List.getElem_toArray, List.getElem_cons_zero, List.getElem_cons_succ]
                                refine wpAnyH_ready (rs := [29]) (by kernel_rfl) (by simp) (AllReadyH.cons rfl (fun Q hQ => ?_) AllReadyH.nil)
                                go_simp
                                refine (HL2.out _).mono ?_
                                rintro e V4 ⟨rfl, hb4⟩
                                refine hQ.out _ _ (belJ hHeld hb4) (fun hHeld => ?_)
                                clear hQ Q hb4
                                refine wpAnyH_take (i := 30) (v := ?_) rfl (by kernel_rfl) (by kernel_rfl) (by kernel_rfl) (fun _ _ _ h => h) (Or.inl ⟨by rfl, ?_⟩) (by assumption) ?_
                                rotate_left 1
                                · intro wz _
                                  go_simp
                                  all_goals with_reducible rfl
                                simp only [Act.put, List.setIfInBounds_toArray, List.set_cons_zero, List.set_cons_succ, List.getElem_toArray, List.getElem_cons_zero, List.getElem_cons_succ]
                                refine wpAnyH_take (i := 31) (v := ?_) rfl (by kernel_rfl) (by kernel_rfl) (by kernel_rfl) (fun _ _ _ h => h) (Or.inl ⟨by rfl, ?_⟩) (by assumption) ?_
                                rotate_left 1
                                · intro wz _
                                  go_simp
                                  all_goals with_reducible rfl
                                simp only [Act.put, List.setIfInBounds_toArray, List.set_cons_zero, List.set_cons_succ, List.getElem_toArray, List.getElem_cons_zero, List.getElem_cons_succ]
                                refine wpAnyH_take (i := 32) (v := ?_) rfl (by kernel_rfl) (by kernel_rfl) (by kernel_rfl) (fun _ _ _ h => h) (Or.inl ⟨by rfl, ?_⟩) (by assumption) ?_
                                rotate_left 1
                                · intro wz _
                                  go_simp
                                  all_goals with_reducible rfl
                                simp only [Act.put, List.setIfInBounds_toArray, List.set_cons_zero, List.set_cons_succ, List.getElem_toArray, List.getElem_cons_zero, List.getElem_cons_succ]
                                refine wpAnyH_take (i := 33) (v := ?_) rfl (by kernel_rfl) (by kernel_rfl) (by kernel_rfl) (fun _ _ _ h => h) (Or.inl ⟨by rfl, ?_⟩) (by assumption) ?_
                                rotate_left 1
                                · intro wz _
                                  go_simp
                                  all_goals with_reducible rfl
                                simp only [Act.put, List.setIfInBounds_toArray, List.set_cons_zero, List.set_cons_succ, List.getElem_toArray, List.getElem_cons_zero, List.getElem_cons_succ]
                                have HB9 := hideIt hHeld
                                clear hHeld
                                refine wpAnyH_done (by kernel_rfl) ?_ _
                                go_wp2
                                go_roundw
                                case rel => exact ⟨q + 1, by omega, by omega, by go_num, HB9.out⟩
                                case measure => simp [intOf]; omega
                            · have hgt : decide ((c : Int) > (i : Int)) = false := decide_eq_false (by omega)
                              clear hc1 hcp HNo
                              go_upto_region 20 with fail
                              go_quiet (fail)
                              go_upto_region 22 with fail
                              go_quiet (fail)
                              go_wp2
                              go_roundw
                              case rel => exact ⟨q + 1, by omega, by omega, by go_num, below_drewN HB.out _⟩
                              case measure => simp [intOf]; omega
                          · have HN2 : Hid (∀ j : Nat, (c : Int) - 1 < j → j ≤ q → ¬ ((E j).t = 1 ∧ (E j).p = (E q).p)) := fun j h1 h2 => by
                              rcases Nat.lt_or_ge c j with h | h
                              · exact HNo.out j (by omega) h2
                              · obtain rfl : j = c := by omega
                                have hne : (E j).p ≠ (E q).p := by simpa using g6
                                exact fun h => hne h.2
                            clear HNo
                            go_upto_region 20 with fail
                            go_quiet (fail)
                            go_wp2
                            go_roundw
                            case rel => exact ⟨(c : Int) - 1, by omega, by go_num, HN2.out, below_drewN HB.out _⟩
                            case measure => simp [intOf] <;> omega
                        · have HN2 : Hid (∀ j : Nat, (c : Int) - 1 < j → j ≤ q → ¬ ((E j).t = 1 ∧ (E j).p = (E q).p)) := fun j h1 h2 => by
                            rcases Nat.lt_or_ge c j with h | h
                            · exact HNo.out j (by omega) h2
                            · obtain rfl : j = c := by omega
                              have hne : (E j).t ≠ 1 := by simpa using g5
                              exact fun h => hne h.1
                          clear HNo
                          go_upto_region 20 with fail
                          go_quiet (fail)
                          go_wp2
                          go_roundw
                          case rel => exact ⟨(c : Int) - 1, by omega, by go_num, HN2.out, below_drewN HB.out _⟩
                          case measure => simp [intOf] <;> omega
                      · have hge : decide (b ≥ 0) = false := decide_eq_false hb0
                        have hgt : decide (b > (i : Int)) = false := decide_eq_false (by omega)
                        clear HNo
                        go_upto_region 20 with fail
                        go_quiet (fail)
                        go_upto_region 22 with fail
                        go_quiet (fail)
                        go_wp2
                        go_roundw
                        case rel => exact ⟨q + 1, by omega, by omega, by go_num, below_drewN HB.out _⟩
                        case measure => simp [intOf]; omega
                  · go_upto_region 18 with fail
                    go_quiet (fail)
                    go_wp2
                    go_roundw
                    case rel => exact ⟨q + 1, by omega, by omega, by go_num, below_drewN HB.out _⟩
                    case measure => simp [intOf]; omega
                · go_upto_region 18 with fail
                  go_quiet (fail)
                  go_wp2
                  go_roundw
                  case rel => exact ⟨q + 1, by omega, by omega, by go_num, below_drewN HB.out _⟩
                  case measure => simp [intOf]; omega
              · have hqL' : ¬ (q : Int) < (L : Int) := by omega
                go_wp2
                go_roundw
                case rel => exact ⟨i + 1, by omega, by go_num, HB.out⟩
                case measure => simp [intOf]; omega
        · have g2' : ((E i).d != 2) = true ∧ back = false := by
            cases e : ((E i).d != 2)
            · rw [e] at g2; cases g2
            · rw [e] at g2; cases back
              · exact ⟨rfl, rfl⟩
              · cases g2
          obtain ⟨g2a, rfl⟩ := g2'
          clear g2
          go_wp2
          go_roundw
          case rel => exact ⟨i + 1, by omega, by go_num, HB.out⟩
          case measure => simp [intOf]; omega
      · go_wp2
        go_roundw
        case rel => exact ⟨i + 1, by omega, by go_num, HB.out⟩
        case measure => simp [intOf]; omega
    · have hiL' : ¬ (i : Int) < (L : Int) := by omega
      go_wp2
      go_ret
      exact ⟨rfl, HBz.out _ HB.out⟩
end Go.Proofs.Ytncnojgemmcplaa
