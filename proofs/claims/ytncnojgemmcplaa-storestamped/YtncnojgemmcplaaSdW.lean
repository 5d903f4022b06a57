/-
  The statement StoreStamped, walked.
-/
import Derived.Test.YtncnojgemmcplaaFrA
import Derived.Deep.RegionHeld3
import Derived.BigQuiet
namespace Go.Proofs.Ytncnojgemmcplaa
open Go.RowKit

theorem stampSame (s : Smp) (w : World) : (binOp .neq 39 (.agg #[.int .i64 s.t, .int .i64 s.c]) (.agg #[.int .i64 s.t, .int .i64 s.c])).run Try.prog w = .ok (.bool false) w := by
  go_simp
theorem stampNe {s t : Smp} (h : ¬ s = t) (w : World) : (binOp .neq 39 (.agg #[.int .i64 s.t, .int .i64 s.c]) (.agg #[.int .i64 t.t, .int .i64 t.c])).run Try.prog w = .ok (.bool true) w := by
  have h' : s.t = t.t → ¬ s.c = t.c := fun e1 e2 => h (Smp.ext' e1 e2)
  clear h
  go_simp
  by_cases e1 : s.t = t.t
  · simp [e1, h' e1]
  · simp [e1]
set_option maxRecDepth 100000 in
set_option maxHeartbeats 16000000 in
theorem stamped_walk (n k ask tell : Int) (back : Bool) (l : List Mvs) (a : Option Addr) (cap : Nat) (w : World) (hm : MvsQ w a l) : Calls Try.prog 4 #[.agg #[.int .i64 n, .int .i64 k, .int .i64 ask, .int .i64 tell, .bool back], .slice a l.length cap] w fun e w' => e = .returned (.bool true) ∧ Below w.heap.size w w' := by
  have HB0 := hideIt (belA (Below.refl _ w) (.cells #[.int .i64 n, .int .i64 k, .int .i64 ask, .int .i64 tell, .bool back] 23))
  by_cases h250 : 250 < l.length
  · have hd : decide ((l.length : Int) > 250) = true := decide_eq_true (by omega)
    clear h250 hm
    go_enter Try.func4, Try.ntmps4
    go_wp2
    go_ret
    exact ⟨rfl, HB0.out⟩
  have hd : decide ((l.length : Int) > 250) = false := decide_eq_false (by omega)
  have HSt := hideIt stores_any
  have HA : Hid (∀ Z, Below (w.alloc (.cells #[.int .i64 n, .int .i64 k, .int .i64 ask, .int .i64 tell, .bool back] 23)).heap.size (w.alloc (.cells #[.int .i64 n, .int .i64 k, .int .i64 ask, .int .i64 tell, .bool back] 23)) Z → Z.cell? ⟨w.heap.size, 0, none⟩ = some (.int .i64 n) ∧ Z.cell? ⟨w.heap.size, 1, none⟩ = some (.int .i64 k) ∧ Z.cell? ⟨w.heap.size, 2, none⟩ = some (.int .i64 ask) ∧ Z.cell? ⟨w.heap.size, 3, none⟩ = some (.int .i64 tell) ∧ Z.cell? ⟨w.heap.size, 4, none⟩ = some (.bool back)) := fun Z hZ => by
    have hblk := (hZ.block w.heap.size (by simp)).trans (heap_alloc_new w (.cells #[.int .i64 n, .int .i64 k, .int .i64 ask, .int .i64 tell, .bool back] 23))
    exact ⟨by rw [cell_of_row _ _ _ _ 23 _ hblk]; rfl, by rw [cell_of_row _ _ _ _ 23 _ hblk]; rfl, by rw [cell_of_row _ _ _ _ 23 _ hblk]; rfl, by rw [cell_of_row _ _ _ _ 23 _ hblk]; rfl, by rw [cell_of_row _ _ _ _ 23 _ hblk]; rfl⟩
  by_cases hc : ¬ checkC n k ask tell = 0
  · have HC : Hid (∀ Z, Calls Try.prog 6 #[.agg #[.int .i64 n, .int .i64 k, .int .i64 ask, .int .i64 tell, .bool back]] Z fun e w' => e = .returned (.iface 46 (.int .i64 (checkC n k ask tell))) ∧ Below Z.heap.size Z w') := fun Z => by
      have := check_any n k ask tell back Z
      unfold toldE at this
      rw [if_neg hc] at this
      exact this
    generalize checkC n k ask tell = c at *
    clear hc hm h250
    go_enter Try.func4, Try.ntmps4
    go_wp2_with fail
    refine (HSt.out _).mono ?_
    rintro e W2 ⟨rfl, hb2⟩
    obtain ⟨a0, a1, a2, a3, a4⟩ := HA.out W2 hb2
    have HB2 := hideIt hb2
    clear hb2
    go_wp2_with fail
    refine (HC.out _).mono ?_
    rintro e W3 ⟨rfl, hb3⟩
    have HB3 := hideIt (belJ HB0.out (belJ HB2.out hb3))
    clear hb3 a0 a1 a2 a3 a4 HB2 HC
    go_wp2_with fail
    refine (HSt.out _).mono ?_
    rintro e W4 ⟨rfl, hb4⟩
    have HB4 := hideIt (belJ HB3.out hb4)
    clear hb4
    go_wp2
    go_ret
    exact ⟨rfl, HB4.out⟩
  replace hc : checkC n k ask tell = 0 := Classical.not_not.1 hc
  obtain ⟨hn, hk, ha, ht⟩ := checkC_ok hc
  obtain ⟨n, rfl⟩ : ∃ x : Nat, n = x := ⟨n.toNat, by omega⟩
  obtain ⟨k, rfl⟩ : ∃ x : Nat, k = x := ⟨k.toNat, by omega⟩
  obtain ⟨ask, rfl⟩ : ∃ x : Nat, ask = x := ⟨ask.toNat, by omega⟩
  obtain ⟨tell, rfl⟩ : ∃ x : Nat, tell = x := ⟨tell.toNat, by omega⟩
  have HC : Hid (∀ Z, Calls Try.prog 6 #[.agg #[.int .i64 (n : Int), .int .i64 (k : Int), .int .i64 (ask : Int), .int .i64 (tell : Int), .bool back]] Z fun e w' => e = .returned .nilIface ∧ Below Z.heap.size Z w') := fun Z => by
    have := check_any (n : Int) (k : Int) (ask : Int) (tell : Int) back Z
    rw [hc] at this
    exact this
  have HX : Hid (∀ Z, Calls Try.prog 7 #[.agg #[.int .i64 (n : Int), .int .i64 (k : Int), .int .i64 (ask : Int), .int .i64 (tell : Int), .bool back]] Z fun e w' => e = .returned (.bool (decide (n < ask + tell))) ∧ Below Z.heap.size Z w') := fun Z => crossing_any n k ask tell back (by omega) (by omega) Z
  have HMv : Hid (∀ Z, Below w.heap.size w Z → Calls Try.prog 8 #[.agg #[.int .i64 (n : Int), .int .i64 (k : Int), .int .i64 (ask : Int), .int .i64 (tell : Int), .bool back], .slice a l.length cap] Z fun e w' => ∃ w0 K, e = .returned (.pointer (some ⟨K.B, 0, none⟩)) ∧ StoP w0 w' K (runP (pst0 n k ask tell back) l) ∧ Below Z.heap.size Z w') := fun Z hZ => moved_any n k ask tell back hc a cap l (by omega) Z (hm.below hZ)
  by_cases hx : ¬ n < ask + tell
  · rw [decide_eq_false hx] at HX
    clear hc hn hk ha ht hx hm h250 HMv
    go_enter Try.func4, Try.ntmps4
    go_wp2_with fail
    refine (HSt.out _).mono ?_
    rintro e W2 ⟨rfl, hb2⟩
    obtain ⟨a0, a1, a2, a3, a4⟩ := HA.out W2 hb2
    have HB2 := hideIt hb2
    clear hb2
    go_wp2_with fail
    refine (HC.out _).mono ?_
    rintro e W3 ⟨rfl, hb3⟩
    obtain ⟨a0, a1, a2, a3, a4⟩ := HA.out W3 (belJ HB2.out hb3)
    have HB3 := hideIt (belJ HB2.out hb3)
    clear hb3 HC HB2
    go_wp2_with fail
    refine (HX.out _).mono ?_
    rintro e W4 ⟨rfl, hb4⟩
    have HB4 := hideIt (belJ HB0.out (belJ HB3.out hb4))
    clear hb4 a0 a1 a2 a3 a4 HX HB3
    go_wp2_with fail
    refine (HSt.out _).mono ?_
    rintro e W5 ⟨rfl, hb5⟩
    have HB5 := hideIt (belJ HB4.out hb5)
    clear hb5
    go_wp2
    go_ret
    exact ⟨rfl, HB5.out⟩
  replace hx : n < ask + tell := Classical.not_not.1 hx
  rw [decide_eq_true hx] at HX
  obtain ⟨S, hS, hAll, hbk⟩ := run_told back (show 1 ≤ n by omega) (show k ≤ 8 by omega) (show 1 ≤ ask by omega) (show 1 ≤ tell by omega) (show tell ≤ n by omega) hx l
  have hI := runP_inv (ask := ask) (tell := tell) back (show 1 ≤ n by omega) (show n ≤ 7 by omega) (show k ≤ 8 by omega) l (by omega) l.length (Nat.le_refl _)
  rw [List.take_length] at hI
  have hLe : (runP (pst0 n k ask tell back) l).evs.length ≤ 1000 := by have := hI.ev; omega
  have hLs : (runP (pst0 n k ask tell back) l).sts.length ≤ 1000 := by have := hI.st; omega
  have hLL := hS.lens
  generalize runP (pst0 n k ask tell back) l = P at *
  have HF : Hid (∀ i q : Nat, i ≠ q → i < P.evs.length → q < P.evs.length → (evI P.evs i).t = 2 → (evI P.evs q).t = 2 → (evI P.evs i).k = (evI P.evs q).k → (evI P.evs i).d = 2 → spI P.sts i = spI P.sts q → (evI P.evs q).d ≠ 2 ∧ (evI P.evs q).r = (evI P.evs i).a) := fun i q hne hi hq h1 h2 h3 h4 h5 =>
    hS.stamped hAll hne (evI_at hi) (evI_at hq) (spI_at (by omega)) (by rw [h5]; exact spI_at (by omega)) h1 h2 h3 h4
  clear hS hAll hbk hI hc hn hk ha ht hx hm h250 S
  go_enter Try.func4, Try.ntmps4
  go_wp2_with fail
  refine (HSt.out _).mono ?_
  rintro e W2 ⟨rfl, hb2⟩
  obtain ⟨a0, a1, a2, a3, a4⟩ := HA.out W2 hb2
  have HB2 := hideIt hb2
  clear hb2 HSt
  go_wp2_with fail
  refine (HC.out _).mono ?_
  rintro e W3 ⟨rfl, hb3⟩
  obtain ⟨a0, a1, a2, a3, a4⟩ := HA.out W3 (belJ HB2.out hb3)
  have HB3 := hideIt (belJ HB2.out hb3)
  clear hb3 HC HB2
  go_wp2_with fail
  refine (HX.out _).mono ?_
  rintro e W4 ⟨rfl, hb4⟩
  obtain ⟨a0, a1, a2, a3, a4⟩ := HA.out W4 (belJ HB3.out hb4)
  have HB4 := hideIt (belJ HB3.out hb4)
  clear hb4 HX HB3
  go_wp2_with fail
  refine (HMv.out _ (belJ HB0.out HB4.out)).mono ?_
  rintro e W5 ⟨w0, K, rfl, hP, hb5⟩
  have HB5 := hideIt (belJ HB4.out hb5)
  have HE := hideIt (events_any hP hLe)
  have HS5 : Hid (∀ Z, Below W5.heap.size W5 Z → Calls Try.prog 10 #[.pointer (some ⟨K.B, 0, none⟩)] Z fun e w' => ∃ v', e = .returned v' ∧ w'.ownsRow Z.heap.size 39 2 v' P.sts.length (spCs P.sts) ∧ Below Z.heap.size Z w') := fun Z hZ => stamps_any (hP.below hZ) hLs
  clear hb5 HMv HB4 hP a0 a1 a2 a3 a4
  go_wp2_with fail
  refine HE.out.mono ?_
  rintro e W6 ⟨ve, rfl, hoe, hb6⟩
  obtain ⟨ae, ce, rfl⟩ := ownsRow_slice hoe
  have HOe := hideIt hoe
  have HB6 := hideIt hb6
  clear hoe hb6 HE
  go_wp2_with fail
  refine (HS5.out _ HB6.out).mono ?_
  rintro e W7 ⟨vs, rfl, hos, hb7⟩
  obtain ⟨as_, cs, rfl⟩ := ownsRow_slice hos
  have HOs := hideIt hos
  have HB7 := hideIt (belJ HB5.out (belJ HB6.out hb7))
  have HOe7 : Hid (W7.ownsRow W5.heap.size 37 7 (.slice ae P.evs.length ce) P.evs.length (evCs P.evs)) := ownsRow_same HOe.out fun b hb => hb7.block b (ownsRow_block HOe.out b hb).2.1
  clear hos hb7 HS5 HB5 HB6 HOe
  have hne : ((P.evs.length : Int) != (P.sts.length : Int)) = false := by simp [hLL]
  go_upto_region 11 with fail
  have HEc : Hid (∀ Z, Below W7.heap.size W7 Z → ∀ i, i < P.evs.length → ∃ ge, ae = some ⟨ge, 0, none⟩ ∧ EvpAt Z ge (i * 7) (evI P.evs i)) := fun Z hZ i hi => ev_at (HOe7.out) hZ hi
  have HTc : Hid (∀ Z, Below W7.heap.size W7 Z → ∀ i, i < P.evs.length → ∃ gs, as_ = some ⟨gs, 0, none⟩ ∧ SpAt Z gs (i * 2) (spI P.sts i)) := fun Z hZ i hi => sp_at (HOs.out) hZ (by omega)
  have HAz : Hid (∀ Z, Below W7.heap.size W7 Z → Z.cell? ⟨w.heap.size, 4, none⟩ = some (.bool back)) := fun Z hZ => (HA.out Z (belJ HB7.out hZ)).2.2.2.2
  have HBz : Hid (∀ Z, Below W7.heap.size W7 Z → Below w.heap.size w Z) := fun Z hZ => belJ HB0.out (belJ HB7.out hZ)
  have hL31 : P.evs.length ≤ 1000 := hLe
  rw [← hLL] at *
  clear HOe7 HOs HA HB0 HB7 hLL hne hLe hLs
  generalize evI P.evs = E at *
  generalize spI P.sts = T at *
  generalize P.evs.length = L at *
  go_wp2
  go_loopw [8] (fun v wr => ∃ i : Nat, i ≤ L ∧ v = .int .i64 i ∧ Below W7.heap.size W7 wr) (fun v _ => L - (intOf v).toNat)
  case atStart => exact ⟨0, Nat.zero_le _, rfl, Below.refl _ _⟩
  case round =>
    obtain ⟨i, hi, rfl, hb⟩ := hrel
    have HB := hideIt hb
    clear hb
    by_cases hiL : i < L
    · have hiL' : (i : Int) < (L : Int) := by omega
      obtain ⟨ge, rfl, _⟩ := HEc.out wr HB.out i hiL
      have HEi : Hid (∀ Z, Below W7.heap.size W7 Z → ∀ q, q < L → EvpAt Z ge (q * 7) (E q)) := fun Z hZ q hq => by
        obtain ⟨g', e', h'⟩ := HEc.out Z hZ q hq
        cases e'
        exact h'
      obtain ⟨gs, rfl, _⟩ := HTc.out wr HB.out i hiL
      have HTi : Hid (∀ Z, Below W7.heap.size W7 Z → ∀ q, q < L → SpAt Z gs (q * 2) (T q)) := fun Z hZ q hq => by
        obtain ⟨g', e', h'⟩ := HTc.out Z hZ q hq
        cases e'
        exact h'
      clear HEc HTc HAz
      go_wp2
      go_loopw [9] (fun v wz => ∃ q : Nat, q ≤ L ∧ v = .int .i64 q ∧ Below W7.heap.size W7 wz) (fun v _ => L - (intOf v).toNat)
      case atStart => exact ⟨0, Nat.zero_le _, rfl, HB.out⟩
      case round =>
        clear HB
        obtain ⟨q, hq, rfl, hb⟩ := hrel
        have HB := hideIt hb
        clear hb
        by_cases hqL : q < L
        · have hqL' : (q : Int) < (L : Int) := by omega
          obtain ⟨_, x1, x2, x3, x4, _, _⟩ := HEi.out wr HB.out i hiL
          obtain ⟨_, y1, y2, y3, _, _, y6⟩ := HEi.out wr HB.out q hqL
          obtain ⟨s0, s1⟩ := HTi.out wr HB.out i hiL
          obtain ⟨r0, r1⟩ := HTi.out wr HB.out q hqL
          cases g0 : ((i : Int) == (q : Int))
          · cases g1 : ((E i).t != 2)
            · cases g2 : ((E q).t != 2)
              · cases g3 : ((E i).k != (E q).k)
                · cases g4 : ((E i).d != 2)
                  · by_cases hs : T i = T q
                    · have hiq : i ≠ q := by
                        intro e
                        subst e
                        simp at g0
                      obtain ⟨f1, f2⟩ := HF.out i q hiq hiL hqL (by simpa using g1) (by simpa using g2) (by simpa using g3) (by simpa using g4) hs
                      have g5 : ((E q).d == 2) = false := by simp [f1]
                      have g6 : ((E q).r != (E i).a) = false := by simp [f2]
                      clear hiq f1 f2
                      rw [← hs] at r0 r1
                      clear hs
                      have hnq := stampSame (T i)
                      go_upto_region 17 with fail
                      go_quiet (fail)
                      go_upto_region 18 with fail
                      go_quiet (fail)
                      go_wp2
                      go_roundw
                      case rel => exact ⟨q + 1, by omega, by go_num, below_drewN HB.out _⟩
                      case measure => simp [intOf]; omega
                    · have hnq := stampNe hs
                      clear hs
                      go_upto_region 17 with fail
                      go_quiet (fail)
                      go_wp2
                      go_roundw
                      case rel => exact ⟨q + 1, by omega, by go_num, below_drewN HB.out _⟩
                      case measure => simp [intOf]; omega
                  · skip
                    go_upto_region 17 with fail
                    go_quiet (fail)
                    go_wp2
                    go_roundw
                    case rel => exact ⟨q + 1, by omega, by go_num, below_drewN HB.out _⟩
                    case measure => simp [intOf]; omega
                · skip
                  go_upto_region 17 with fail
                  go_quiet (fail)
                  go_wp2
                  go_roundw
                  case rel => exact ⟨q + 1, by omega, by go_num, below_drewN HB.out _⟩
                  case measure => simp [intOf]; omega
              · skip
                go_upto_region 17 with fail
                go_quiet (fail)
                go_wp2
                go_roundw
                case rel => exact ⟨q + 1, by omega, by go_num, below_drewN HB.out _⟩
                case measure => simp [intOf]; omega
            · skip
              go_upto_region 17 with fail
              go_quiet (fail)
              go_wp2
              go_roundw
              case rel => exact ⟨q + 1, by omega, by go_num, below_drewN HB.out _⟩
              case measure => simp [intOf]; omega
          · skip
            go_upto_region 17 with fail
            go_quiet (fail)
            go_wp2
            go_roundw
            case rel => exact ⟨q + 1, by omega, by go_num, below_drewN HB.out _⟩
            case measure => simp [intOf]; omega
        · have hqL' : ¬ (q : Int) < (L : Int) := by omega
          go_wp2
          go_roundw
          case rel => exact ⟨i + 1, by omega, by go_num, HB.out⟩
          case measure => simp [intOf]; omega
    · have hiL' : ¬ (i : Int) < (L : Int) := by omega
      go_wp2
      go_ret
      exact ⟨rfl, HBz.out _ HB.out⟩
end Go.Proofs.Ytncnojgemmcplaa
