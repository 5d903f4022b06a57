/-
  The document's own ZoneCheck, walked.
-/
import Derived.Test.YtelndpbkheoeaaaDoorCkZ
import Derived.Deep.DeepCutAuto
import Derived.BigQuiet
namespace Go.Proofs.YtelndpbkheoeaaaDoor
open Go.RowKit

def okB (form : Opn → Bool) (k0 : Int) (x : Opn) : Bool := x.k == k0 && form x
theorem cFault_no {form : Opn → Bool} {d0 : Int} {l : List Opn} {k : Nat} (h : okB form (opZ l 0).k (opZ l k) = false) : cFaultAt form d0 l k = 3 := by
  unfold okB at h
  unfold cFaultAt cFaultN
  rw [if_neg (by rw [h]; simp)]
theorem cFault_yes {form : Opn → Bool} {d0 : Int} {l : List Opn} {k : Nat} (h : okB form (opZ l 0).k (opZ l k) = true) : cFaultAt form d0 l k = if (opZ l k).d == d0 && (l.take k).any (fun y => y.d == d0 && y.a == (opZ l k).a) then 9 else 0 := by
  unfold okB at h
  unfold cFaultAt cFaultN
  rw [if_pos h]

set_option maxRecDepth 100000 in
set_option maxHeartbeats 2000000 in
theorem rCheck_some (l : List Opn) (b off cap : Nat) (w : World) (hlen : l.length ≤ 60) (h0 : 0 < l.length) (hcap : l.length ≤ cap) (hl : OpsAt w b off l) (hb : b < w.heap.size) :
    Calls Tryd.prog 11 #[.slice (some ⟨b, off, none⟩) l.length cap] w fun e w' => ∃ n, e = .returned (.int .i64 n) ∧ CTold zFormB 2 l n ∧ Below w.heap.size w w' := by
  have HL : Hid (OpsAt w b off l) := hl
  have HC := hideIt (opsCheck_any l b off cap w hlen hcap hl hb)
  clear hl
  go_enter Tryd.func11, Tryd.ntmps11
  go_wp2_with fail
  refine HC.out.mono ?_
  rintro e w1 ⟨n, rfl, ht, hb1⟩
  by_cases hn : n = 0
  · subst hn
    have HT : Hid (Told l 0) := ht
    have HB1 := hideIt hb1
    clear ht hb1 HC
    go_wp2
    go_loopw [16] (fun i wr => ∃ k : Nat, k ≤ l.length ∧ i = .int .i64 k ∧ (∀ j, j < k → cFaultAt zFormB 2 l j = 0) ∧ Below w1.heap.size w1 wr) (fun i _ => l.length - (intOf i).toNat)
    case atStart => exact ⟨0, Nat.zero_le _, rfl, fun j hj => absurd hj (by omega), Below.refl _ _⟩
    case round =>
      obtain ⟨k, hk, rfl, ha, hnx⟩ := hrel
      have HA : Hid (∀ j, j < k → cFaultAt zFormB 2 l j = 0) := ha
      have HNX := hideIt hnx
      have hbw : b < w1.heap.size := Nat.lt_of_lt_of_le hb HB1.out.size
      clear ha
      by_cases hkl : k < l.length
      · obtain ⟨c0, c1, c2, c3, c4, c5, c6, c7⟩ := ((HL.out.below hb HB1.out) k hkl).below hbw hnx
        have g1 : wr.cell? ⟨b, off + 1, none⟩ = some (.int .i64 l[0].k) := by have := (((HL.out.below hb HB1.out) 0 h0).below hbw hnx).2.1; rwa [Nat.zero_mul, Nat.add_zero] at this
        have hpos : (0 : Int) < (l.length : Int) := by omega
        have hbl : b < wr.heap.size := Nat.lt_of_lt_of_le hbw hnx.size
        have g1' : ∀ o : Obj, (wr.alloc o).cell? ⟨b, off + 1, none⟩ = some (.int .i64 l[0].k) := fun o => by rw [World.cell?_alloc_lt _ _ ⟨b, off + 1, none⟩ hbl]; exact g1
        have HX : Hid (opZ l k = l[k]) := opZ_at hkl
        have HX0 : Hid (opZ l 0 = l[0]) := opZ_at h0
        have HK0 : Hid ((opZ l 0).k = l[0].k) := congrArg Opn.k HX0.out
        rw [← HK0.out] at g1 g1'
        clear HX0
        generalize l[k] = x at c0 c1 c2 c3 c4 c5 c6 c7 HX
        obtain ⟨k0, HK⟩ : ∃ k0, Hid ((opZ l 0).k = k0) := ⟨_, hideIt rfl⟩
        rw [HK.out] at g1 g1'
        obtain ⟨wb, hw⟩ : ∃ wb, (x.d == 2) = wb := ⟨_, rfl⟩
        go_upto_region 8 with fail
        have HW := hideIt hw
        clear hw
        go_cut [57] (fun c wx => c = .bool (!okB zFormB k0 x) ∧ Below wr.heap.size wr wx ∧ OpAt wx wr.heap.size 0 x)
        case first =>
          clear HL HT HB1 HA HX HK HK0 c0 c1 c2 c3 c4 c5 c6 c7
          by_cases hd1 : x.d = 1
          · have hd1' : (x.d != 1) = false := by simp [hd1]
            obtain rfl : wb = false := by rw [← HW.out]; simp [hd1]
            by_cases he : x.e < 0
            · have he' : decide (x.e < 0) = true := by simp [he]
              have HO : Hid ((!okB zFormB k0 x) = true) := hideIt (by simp [okB, zFormB, hd1, he])
              clear he
              go_big_quiet (fail)
              go_wp2
              go_meet
              exact ⟨by rw [HO.out], below_drewN (belA (Below.refl _ _) _) _, (opAt_new wr x).below (Nat.lt_succ_self _) (below_drewN (Below.refl _ _) _)⟩
            · have he' : decide (x.e < 0) = false := by simp [he]
              by_cases hq : x.k = k0
              · have hq' : (x.k != k0) = false := by simp [hq]
                have HO : Hid ((!okB zFormB k0 x) = false) := hideIt (by simp [okB, zFormB, hd1, hq]; omega)
                clear he hq
                go_big_quiet (fail)
                go_wp2
                go_meet
                exact ⟨by rw [HO.out], below_drewN (belA (Below.refl _ _) _) _, (opAt_new wr x).below (Nat.lt_succ_self _) (below_drewN (Below.refl _ _) _)⟩
              · have hq' : (x.k != k0) = true := by simp [hq]
                have HO : Hid ((!okB zFormB k0 x) = true) := hideIt (by simp [okB, zFormB, hq])
                clear he hq
                go_big_quiet (fail)
                go_wp2
                go_meet
                exact ⟨by rw [HO.out], below_drewN (belA (Below.refl _ _) _) _, (opAt_new wr x).below (Nat.lt_succ_self _) (below_drewN (Below.refl _ _) _)⟩
          · have hd1' : (x.d != 1) = true := by simp [hd1]
            by_cases hd2 : x.d = 2
            · obtain rfl : wb = true := by rw [← HW.out]; simp [hd2]
              by_cases he : x.e < 0
              · have he' : decide (x.e < 0) = true := by simp [he]
                have HO : Hid ((!okB zFormB k0 x) = true) := hideIt (by simp [okB, zFormB, hd2, he])
                clear he
                go_big_quiet (fail)
                go_wp2
                go_meet
                exact ⟨by rw [HO.out], below_drewN (belA (Below.refl _ _) _) _, (opAt_new wr x).below (Nat.lt_succ_self _) (below_drewN (Below.refl _ _) _)⟩
              · have he' : decide (x.e < 0) = false := by simp [he]
                by_cases hq : x.k = k0
                · have hq' : (x.k != k0) = false := by simp [hq]
                  by_cases ha : x.a = 0
                  · have ha' : (x.a == 0) = true := by simp [ha]
                    have HO : Hid ((!okB zFormB k0 x) = true) := hideIt (by simp [okB, zFormB, hd2, ha])
                    clear he hq ha
                    go_big_quiet (fail)
                    go_wp2
                    go_meet
                    exact ⟨by rw [HO.out], below_drewN (belA (Below.refl _ _) _) _, (opAt_new wr x).below (Nat.lt_succ_self _) (below_drewN (Below.refl _ _) _)⟩
                  · have ha' : (x.a == 0) = false := by simp [ha]
                    by_cases hr : x.r = 0
                    · have hr' : (x.r != 0) = false := by simp [hr]
                      have HO : Hid ((!okB zFormB k0 x) = false) := hideIt (by simp [okB, zFormB, hd2, hq, ha, hr]; omega)
                      clear he hq ha hr
                      go_big_quiet (fail)
                      go_wp2
                      go_meet
                      exact ⟨by rw [HO.out], below_drewN (belA (Below.refl _ _) _) _, (opAt_new wr x).below (Nat.lt_succ_self _) (below_drewN (Below.refl _ _) _)⟩
                    · have hr' : (x.r != 0) = true := by simp [hr]
                      have HO : Hid ((!okB zFormB k0 x) = true) := hideIt (by simp [okB, zFormB, hd2, hr])
                      clear he hq ha hr
                      go_big_quiet (fail)
                      go_wp2
                      go_meet
                      exact ⟨by rw [HO.out], below_drewN (belA (Below.refl _ _) _) _, (opAt_new wr x).below (Nat.lt_succ_self _) (below_drewN (Below.refl _ _) _)⟩
                · have hq' : (x.k != k0) = true := by simp [hq]
                  have HO : Hid ((!okB zFormB k0 x) = true) := hideIt (by simp [okB, zFormB, hq])
                  clear he hq
                  go_big_quiet (fail)
                  go_wp2
                  go_meet
                  exact ⟨by rw [HO.out], below_drewN (belA (Below.refl _ _) _) _, (opAt_new wr x).below (Nat.lt_succ_self _) (below_drewN (Below.refl _ _) _)⟩
            · obtain rfl : wb = false := by rw [← HW.out]; simp [hd2]
              have HO : Hid ((!okB zFormB k0 x) = true) := hideIt (by simp [okB, zFormB, hd1, hd2])
              clear hd1 hd2
              go_big_quiet (fail)
              go_wp2
              go_meet
              exact ⟨by rw [HO.out], below_drewN (belA (Below.refl _ _) _) _, (opAt_new wr x).below (Nat.lt_succ_self _) (below_drewN (Below.refl _ _) _)⟩
        case rest =>
          obtain ⟨rfl, hbx, hox⟩ := hcut
          have HBX := hideIt (HNX.out.trans (hbx.mono HNX.out.size))
          cases ho : okB zFormB k0 x
          · have R1 : Hid (CTold zFormB 2 l 3) := cTold_at HT.out hkl HA.out (cFault_no (by rw [HX.out, HK.out]; exact ho)) (by decide)
            clear ho
            go_wp2
            go_ret
            exact ⟨3, rfl, R1.out, belJ HB1.out HBX.out⟩
          · have HF := hideIt (cFault_yes (d0 := 2) (l := l) (k := k) (by rw [HX.out, HK.out]; exact ho))
            rw [HX.out] at HF
            have HOX := hideIt hox
            have hoxl := hox.lt
            have hblc : b < wc.heap.size := by have := hbx.size; omega
            have HLc : Hid (OpsAt wc b off l) := (HL.out.below hb HB1.out).below hbw HBX.out
            have hkI : (k : Int) ≤ (l.length : Int) := by omega
            clear ho hox g1 g1' c0 c1 c2 c3 c4 c5 c6 c7
            rw [HW.out] at HF
            go_wp2
            go_loopw [62] (fun j wy => ∃ i : Nat, i ≤ k ∧ j = .int .i64 i ∧ (wb = true → ((l.take k).take i).any (fun y => y.d == 2 && y.a == x.a) = false) ∧ Below wc.heap.size wc wy) (fun j _ => k - (intOf j).toNat)
            case atStart => exact ⟨0, Nat.zero_le _, rfl, fun _ => rfl, Below.refl _ _⟩
            case round =>
              obtain ⟨i, hi, rfl, hany, hny⟩ := hrel
              have HANY := hideIt hany
              have HNY := hideIt hny
              clear hany
              by_cases hil : i < k
              · obtain ⟨d0, d1, d2, d3, d4, d5, d6, d7⟩ := ((HLc.out) i (by omega)).below hblc hny
                obtain ⟨x0, x1, x2, x3, x4, x5, x6, x7⟩ := HOX.out.below hoxl hny
                rw [Nat.zero_add] at x1 x2 x3 x4 x5 x6 x7
                have hxl := Nat.lt_of_lt_of_le hoxl hny.size
                cases wb
                · clear HF
                  go_wp2
                  go_roundw
                  case rel => exact ⟨i + 1, by omega, by go_num, fun h => (by cases h), belA HNY.out _⟩
                  case measure => simp [intOf]; omega
                · obtain ⟨y, HY⟩ : ∃ y, Hid (l[i]'(by omega) = y) := ⟨_, hideIt rfl⟩
                  rw [HY.out] at d0 d1 d2 d3 d4 d5 d6 d7
                  cases hyd : y.d == 2
                  · have R1 := hideIt (take_take_succ l (fun y => y.d == 2 && y.a == x.a) k i hk hil (HANY.out rfl) (by rw [HY.out, hyd]; rfl))
                    clear HF
                    go_wp2
                    go_roundw
                    case rel => exact ⟨i + 1, by omega, by go_num, fun _ => R1.out, belA HNY.out _⟩
                    case measure => simp [intOf]; omega
                  · cases hya : y.a == x.a
                    · have R1 := hideIt (take_take_succ l (fun y => y.d == 2 && y.a == x.a) k i hk hil (HANY.out rfl) (by rw [HY.out, hyd, hya]; rfl))
                      clear HF
                      go_wp2
                      go_roundw
                      case rel => exact ⟨i + 1, by omega, by go_num, fun _ => R1.out, belA HNY.out _⟩
                      case measure => simp [intOf]; omega
                    · have R1 := take_any_of l (fun y => y.d == 2 && y.a == x.a) k i hk hil (by rw [HY.out, hyd, hya]; rfl)
                      have R2 : Hid (CTold zFormB 2 l 9) := cTold_at HT.out hkl HA.out (by rw [HF.out, R1]; rfl) (by decide)
                      clear HF R1
                      go_wp2
                      go_ret
                      exact ⟨9, rfl, R2.out, belJ HB1.out (HBX.out.trans ((belA HNY.out _).mono HBX.out.size))⟩
              · have R1 : Hid (∀ j, j < k + 1 → cFaultAt zFormB 2 l j = 0) := fine_succ HA.out (by
                  rw [HF.out]
                  cases wb
                  · rfl
                  · rw [take_all_done l _ k i (by omega) (HANY.out rfl)]; rfl)
                clear HF
                go_wp2
                go_roundw
                case rel => exact ⟨k + 1, by omega, by go_num, R1.out, HBX.out.trans (HNY.out.mono HBX.out.size)⟩
                case measure => simp [intOf]; omega
      · have R1 : Hid (CTold zFormB 2 l 0) := cTold_all HT.out fun j hj => HA.out j (by omega)
        have R2 := hideIt (belJ HB1.out HNX.out)
        go_wp2
        go_ret
        exact ⟨0, by simp, R1.out, R2.out⟩
  · have HT := hideIt (cTold_err (form := zFormB) (d0 := 2) ht hn)
    have hn' : (n != 0) = true := by simp [hn]
    go_wp2
    go_ret
    exact ⟨n, rfl, HT.out, hb1⟩

end Go.Proofs.YtelndpbkheoeaaaDoor
