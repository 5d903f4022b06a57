/-
  The document's own ZoneCheck, walked.
  The document's own CausalCheck, walked.
-/
import Derived.Test.YtfojmbbhcmeejaaDoorMapVZ
import Derived.Deep.DeepCutAuto
import Derived.BigQuiet
namespace Go.Proofs.YtfojmbbhcmeejaaDoor
open Go.RowKit

def okB (form : Opn → Bool) (k0 : Int) (x : Opn) : Bool := x.k == k0 && form x
theorem cFault_no {form : Opn → Bool} {d0 : Int} {l : List Opn} {k : Nat} (h : okB form (opZ l 0).k (opZ l k) = false) : cFaultAt form d0 l k = 3 := by
  unfold okB at h
  unfold cFaultAt cFaultN
  rw [if_neg (by rw [h]; simp)]
theorem cFault_yes {form : Opn → Bool} {d0 : Int} {l : List Opn} {k : Nat} (h : okB form (opZ l 0).k (opZ l k) = true) : cFaultAt form d0 l k = if (opZ l k).d == d0 && (l.take k).any (fun y => y.d == d0 && y.a == (opZ l k).a) then 9 else 0 := by
  unfold okB at h
  unfold cFaultAt cFaultN
  rw [if_pos h]

end Go.Proofs.YtfojmbbhcmeejaaDoor

namespace Go.Proofs.YtfojmbbhcmeejaaDoor
open Go.RowKit

theorem kFault_yes {l : List Opn} {k : Nat} (h : zFormB (opZ l k) = true) : kFaultAt l k = if (opZ l k).d == 2 && (l.take k).any (fun y => y.d == 2 && (y.k == (opZ l k).k && y.a == (opZ l k).a)) then 9 else 0 := by
  unfold kFaultAt kFaultN
  rw [h, if_pos rfl]

set_option maxRecDepth 100000 in
set_option maxHeartbeats 2000000 in
theorem rkCheck_some (l : List Opn) (b off cap : Nat) (w : World) (hlen : l.length ≤ 60) (hcap : l.length ≤ cap) (hl : OpsAt w b off l) (hb : b < w.heap.size) :
    Calls Tryd.prog 9 #[.slice (some ⟨b, off, none⟩) l.length cap] w fun e w' => ∃ n, e = .returned (.int .i64 n) ∧ KTold l n ∧ Below w.heap.size w w' := by
  have HL : Hid (OpsAt w b off l) := hl
  have HC := hideIt (opsCheck_any l b off cap w hlen hcap hl hb)
  clear hl
  go_enter Tryd.func9, Tryd.ntmps9
  go_wp2_with fail
  refine HC.out.mono ?_
  rintro e w1 ⟨n, rfl, ht, hb1⟩
  by_cases hn : n = 0
  · subst hn
    have HT : Hid (Told l 0) := ht
    have HB1 := hideIt hb1
    clear ht hb1 HC
    go_wp2
    go_loopw [16] (fun i wr => ∃ k : Nat, k ≤ l.length ∧ i = .int .i64 k ∧ (∀ j, j < k → kFaultAt l j = 0) ∧ Below w1.heap.size w1 wr) (fun i _ => l.length - (intOf i).toNat)
    case atStart => exact ⟨0, Nat.zero_le _, rfl, fun j hj => absurd hj (by omega), Below.refl _ _⟩
    case round =>
      obtain ⟨k, hk, rfl, ha, hnx⟩ := hrel
      have HA : Hid (∀ j, j < k → kFaultAt l j = 0) := ha
      have HNX := hideIt hnx
      have hbw : b < w1.heap.size := Nat.lt_of_lt_of_le hb HB1.out.size
      clear ha
      by_cases hkl : k < l.length
      · obtain ⟨c0, c1, c2, c3, c4, c5, c6, c7⟩ := ((HL.out.below hb HB1.out) k hkl).below hbw hnx
        have hbl : b < wr.heap.size := Nat.lt_of_lt_of_le hbw hnx.size
        have HX : Hid (opZ l k = l[k]) := opZ_at hkl
        generalize l[k] = x at c0 c1 c2 c3 c4 c5 c6 c7 HX
        obtain ⟨wb, hw⟩ : ∃ wb, (x.d == 2) = wb := ⟨_, rfl⟩
        go_upto_region 8 with fail
        have HW := hideIt hw
        clear hw
        go_cut [48] (fun c wx => c = .bool (!zFormB x) ∧ Below wr.heap.size wr wx ∧ OpAt wx wr.heap.size 0 x)
        case first =>
          clear HL HT HB1 HA HX c0 c1 c2 c3 c4 c5 c6 c7
          have hnew := opAt_new wr x
          by_cases he : x.e < 0
          · have he' : decide (x.e < 0) = true := by simp [he]
            have HO : Hid ((!zFormB x) = true) := hideIt (by unfold zFormB; split <;> (try split) <;> simp <;> omega)
            cases wb
            · by_cases hd : x.d = 1
              · have hd' : (x.d != 1) = false := by simp [hd]
                clear he hd
                go_wp2
                go_meet
                exact ⟨by rw [HO.out], belA (Below.refl _ _) _, hnew⟩
              · have hd' : (x.d != 1) = true := by simp [hd]
                clear he hd
                go_wp2
                go_meet
                exact ⟨by rw [HO.out], belA (Below.refl _ _) _, hnew⟩
            · clear he
              go_wp2
              go_meet
              exact ⟨by rw [HO.out], belA (Below.refl _ _) _, hnew⟩
          · have he' : decide (x.e < 0) = false := by simp [he]
            cases wb
            · have hd2 : ¬ x.d = 2 := by have := HW.out; simpa using this
              by_cases hd : x.d = 1
              · have hd' : (x.d != 1) = false := by simp [hd]
                have HO : Hid ((!zFormB x) = false) := hideIt (by simp [zFormB, hd]; omega)
                clear he hd hd2
                go_wp2
                go_meet
                exact ⟨by rw [HO.out], belA (Below.refl _ _) _, hnew⟩
              · have hd' : (x.d != 1) = true := by simp [hd]
                have HO : Hid ((!zFormB x) = true) := hideIt (by simp [zFormB, hd, hd2])
                clear he hd hd2
                go_wp2
                go_meet
                exact ⟨by rw [HO.out], belA (Below.refl _ _) _, hnew⟩
            · have hd2 : x.d = 2 := by have := HW.out; simpa using this
              by_cases ha : x.a = 0
              · have ha' : (x.a == 0) = true := by simp [ha]
                have HO : Hid ((!zFormB x) = true) := hideIt (by simp [zFormB, hd2, ha])
                clear he hd2 ha
                go_wp2
                go_meet
                exact ⟨by rw [HO.out], belA (Below.refl _ _) _, hnew⟩
              · have ha' : (x.a == 0) = false := by simp [ha]
                by_cases hr : x.r = 0
                · have hr' : (x.r != 0) = false := by simp [hr]
                  have HO : Hid ((!zFormB x) = false) := hideIt (by simp [zFormB, hd2, ha, hr]; omega)
                  clear he hd2 ha hr
                  go_wp2
                  go_meet
                  exact ⟨by rw [HO.out], belA (Below.refl _ _) _, hnew⟩
                · have hr' : (x.r != 0) = true := by simp [hr]
                  have HO : Hid ((!zFormB x) = true) := hideIt (by simp [zFormB, hd2, hr])
                  clear he hd2 ha hr
                  go_wp2
                  go_meet
                  exact ⟨by rw [HO.out], belA (Below.refl _ _) _, hnew⟩
        case rest =>
          obtain ⟨rfl, hbx, hox⟩ := hcut
          have HBX := hideIt (HNX.out.trans (hbx.mono HNX.out.size))
          cases ho : zFormB x
          · have R1 : Hid (KTold l 3) := kTold_at HT.out hkl HA.out (kFault_form (by rw [HX.out]; exact ho)) (by decide)
            clear ho
            go_wp2
            go_ret
            exact ⟨3, rfl, R1.out, belJ HB1.out HBX.out⟩
          · have HF := hideIt (kFault_yes (l := l) (k := k) (by rw [HX.out]; exact ho))
            rw [HX.out] at HF
            have HOX := hideIt hox
            have hoxl := hox.lt
            have hblc : b < wc.heap.size := by have := hbx.size; omega
            have HLc : Hid (OpsAt wc b off l) := (HL.out.below hb HB1.out).below hbw HBX.out
            have hkI : (k : Int) ≤ (l.length : Int) := by omega
            clear ho hox c0 c1 c2 c3 c4 c5 c6 c7
            rw [HW.out] at HF
            go_wp2
            go_loopw [53] (fun j wy => ∃ i : Nat, i ≤ k ∧ j = .int .i64 i ∧ (wb = true → ((l.take k).take i).any (fun y => y.d == 2 && (y.k == x.k && y.a == x.a)) = false) ∧ Below wc.heap.size wc wy) (fun j _ => k - (intOf j).toNat)
            case atStart => exact ⟨0, Nat.zero_le _, rfl, fun _ => rfl, Below.refl _ _⟩
            case round =>
              obtain ⟨i, hi, rfl, hany, hny⟩ := hrel
              have HANY := hideIt hany
              have HNY := hideIt hny
              clear hany
              by_cases hil : i < k
              · obtain ⟨d0, d1, d2, d3, d4, d5, d6, d7⟩ := ((HLc.out) i (by omega)).below hblc hny
                obtain ⟨x0, x1, x2, x3, x4, x5, x6, x7⟩ := HOX.out.below hoxl hny
                rw [Nat.zero_add] at x1 x2 x3 x4 x5 x6 x7
                have hxl := Nat.lt_of_lt_of_le hoxl hny.size
                cases wb
                · clear HF
                  go_wp2
                  go_roundw
                  case rel => exact ⟨i + 1, by omega, by go_num, fun h => (by cases h), belA HNY.out _⟩
                  case measure => simp [intOf]; omega
                · obtain ⟨y, HY⟩ : ∃ y, Hid (l[i]'(by omega) = y) := ⟨_, hideIt rfl⟩
                  rw [HY.out] at d0 d1 d2 d3 d4 d5 d6 d7
                  cases hyd : y.d == 2
                  · have R1 := hideIt (take_take_succ l (fun y => y.d == 2 && (y.k == x.k && y.a == x.a)) k i hk hil (HANY.out rfl) (by rw [HY.out, hyd]; rfl))
                    clear HF
                    go_wp2
                    go_roundw
                    case rel => exact ⟨i + 1, by omega, by go_num, fun _ => R1.out, belA HNY.out _⟩
                    case measure => simp [intOf]; omega
                  · cases hya : y.a == x.a
                    · have R1 := hideIt (take_take_succ l (fun y => y.d == 2 && (y.k == x.k && y.a == x.a)) k i hk hil (HANY.out rfl) (by rw [HY.out, hyd, hya]; simp))
                      clear HF
                      go_wp2
                      go_roundw
                      case rel => exact ⟨i + 1, by omega, by go_num, fun _ => R1.out, belA HNY.out _⟩
                      case measure => simp [intOf]; omega
                    · cases hyk : y.k == x.k
                      · have R1 := hideIt (take_take_succ l (fun y => y.d == 2 && (y.k == x.k && y.a == x.a)) k i hk hil (HANY.out rfl) (by rw [HY.out, hyd, hyk]; rfl))
                        clear HF
                        go_wp2
                        go_roundw
                        case rel => exact ⟨i + 1, by omega, by go_num, fun _ => R1.out, belA HNY.out _⟩
                        case measure => simp [intOf]; omega
                      · have R1 := take_any_of l (fun y => y.d == 2 && (y.k == x.k && y.a == x.a)) k i hk hil (by rw [HY.out, hyd, hya, hyk]; rfl)
                        have R2 : Hid (KTold l 9) := kTold_at HT.out hkl HA.out (by rw [HF.out, R1]; rfl) (by decide)
                        clear HF R1
                        go_wp2
                        go_ret
                        exact ⟨9, rfl, R2.out, belJ HB1.out (HBX.out.trans ((belA HNY.out _).mono HBX.out.size))⟩
              · have R1 : Hid (∀ j, j < k + 1 → kFaultAt l j = 0) := fine_succ HA.out (by
                  rw [HF.out]
                  cases wb
                  · rfl
                  · rw [take_all_done l _ k i (by omega) (HANY.out rfl)]; rfl)
                clear HF
                go_wp2
                go_roundw
                case rel => exact ⟨k + 1, by omega, by go_num, R1.out, HBX.out.trans (HNY.out.mono HBX.out.size)⟩
                case measure => simp [intOf]; omega
      · have R1 : Hid (KTold l 0) := kTold_all HT.out fun j hj => HA.out j (by omega)
        have R2 := hideIt (belJ HB1.out HNX.out)
        go_wp2
        go_ret
        exact ⟨0, by simp, R1.out, R2.out⟩
  · have HT := hideIt (kTold_err ht hn)
    have hn' : (n != 0) = true := by simp [hn]
    go_wp2
    go_ret
    exact ⟨n, rfl, HT.out, hb1⟩

end Go.Proofs.YtfojmbbhcmeejaaDoor
