/-
  The document's own ZoneCheck, walked.
  The document's own CausalCheck, walked.
  The document's own Reads, walked.
  The document's own Ahead7: the roads, walked.
-/
import Derived.Test.YtfojmbbhcmeejaaDoorMapVZ
import Derived.Deep.DeepCutAuto
import Derived.BigQuiet
namespace Go.Proofs.YtfojmbbhcmeejaaDoor
open Go.RowKit

def okB (form : Opn → Bool) (k0 : Int) (x : Opn) : Bool := x.k == k0 && form x
theorem cFault_no {form : Opn → Bool} {d0 : Int} {l : List Opn} {k : Nat} (h : okB form (opZ l 0).k (opZ l k) = false) : cFaultAt form d0 l k = 3 := by
  unfold okB at h
  unfold cFaultAt cFaultN
  rw [if_neg (by rw [h]; simp)]
theorem cFault_yes {form : Opn → Bool} {d0 : Int} {l : List Opn} {k : Nat} (h : okB form (opZ l 0).k (opZ l k) = true) : cFaultAt form d0 l k = if (opZ l k).d == d0 && (l.take k).any (fun y => y.d == d0 && y.a == (opZ l k).a) then 9 else 0 := by
  unfold okB at h
  unfold cFaultAt cFaultN
  rw [if_pos h]

end Go.Proofs.YtfojmbbhcmeejaaDoor

namespace Go.Proofs.YtfojmbbhcmeejaaDoor
open Go.RowKit

theorem kFault_yes {l : List Opn} {k : Nat} (h : zFormB (opZ l k) = true) : kFaultAt l k = if (opZ l k).d == 2 && (l.take k).any (fun y => y.d == 2 && (y.k == (opZ l k).k && y.a == (opZ l k).a)) then 9 else 0 := by
  unfold kFaultAt kFaultN
  rw [h, if_pos rfl]

set_option maxRecDepth 100000 in
set_option maxHeartbeats 2000000 in
theorem rkCheck_some (l : List Opn) (b off cap : Nat) (w : World) (hlen : l.length ≤ 60) (hcap : l.length ≤ cap) (hl : OpsAt w b off l) (hb : b < w.heap.size) :
    Calls Tryd.prog 9 #[.slice (some ⟨b, off, none⟩) l.length cap] w fun e w' => ∃ n, e = .returned (.int .i64 n) ∧ KTold l n ∧ Below w.heap.size w w' := by
  have HL : Hid (OpsAt w b off l) := hl
  have HC := hideIt (opsCheck_any l b off cap w hlen hcap hl hb)
  clear hl
  go_enter Tryd.func9, Tryd.ntmps9
  go_wp2_with fail
  refine HC.out.mono ?_
  rintro e w1 ⟨n, rfl, ht, hb1⟩
  by_cases hn : n = 0
  · subst hn
    have HT : Hid (Told l 0) := ht
    have HB1 := hideIt hb1
    clear ht hb1 HC
    go_wp2
    go_loopw [16] (fun i wr => ∃ k : Nat, k ≤ l.length ∧ i = .int .i64 k ∧ (∀ j, j < k → kFaultAt l j = 0) ∧ Below w1.heap.size w1 wr) (fun i _ => l.length - (intOf i).toNat)
    case atStart => exact ⟨0, Nat.zero_le _, rfl, fun j hj => absurd hj (by omega), Below.refl _ _⟩
    case round =>
      obtain ⟨k, hk, rfl, ha, hnx⟩ := hrel
      have HA : Hid (∀ j, j < k → kFaultAt l j = 0) := ha
      have HNX := hideIt hnx
      have hbw : b < w1.heap.size := Nat.lt_of_lt_of_le hb HB1.out.size
      clear ha
      by_cases hkl : k < l.length
      · obtain ⟨c0, c1, c2, c3, c4, c5, c6, c7⟩ := ((HL.out.below hb HB1.out) k hkl).below hbw hnx
        have hbl : b < wr.heap.size := Nat.lt_of_lt_of_le hbw hnx.size
        have HX : Hid (opZ l k = l[k]) := opZ_at hkl
        generalize l[k] = x at c0 c1 c2 c3 c4 c5 c6 c7 HX
        obtain ⟨wb, hw⟩ : ∃ wb, (x.d == 2) = wb := ⟨_, rfl⟩
        go_upto_region 8 with fail
        have HW := hideIt hw
        clear hw
        go_cut [48] (fun c wx => c = .bool (!zFormB x) ∧ Below wr.heap.size wr wx ∧ OpAt wx wr.heap.size 0 x)
        case first =>
          clear HL HT HB1 HA HX c0 c1 c2 c3 c4 c5 c6 c7
          have hnew := opAt_new wr x
          by_cases he : x.e < 0
          · have he' : decide (x.e < 0) = true := by simp [he]
            have HO : Hid ((!zFormB x) = true) := hideIt (by unfold zFormB; split <;> (try split) <;> simp <;> omega)
            cases wb
            · by_cases hd : x.d = 1
              · have hd' : (x.d != 1) = false := by simp [hd]
                clear he hd
                go_wp2
                go_meet
                exact ⟨by rw [HO.out], belA (Below.refl _ _) _, hnew⟩
              · have hd' : (x.d != 1) = true := by simp [hd]
                clear he hd
                go_wp2
                go_meet
                exact ⟨by rw [HO.out], belA (Below.refl _ _) _, hnew⟩
            · clear he
              go_wp2
              go_meet
              exact ⟨by rw [HO.out], belA (Below.refl _ _) _, hnew⟩
          · have he' : decide (x.e < 0) = false := by simp [he]
            cases wb
            · have hd2 : ¬ x.d = 2 := by have := HW.out; simpa using this
              by_cases hd : x.d = 1
              · have hd' : (x.d != 1) = false := by simp [hd]
                have HO : Hid ((!zFormB x) = false) := hideIt (by simp [zFormB, hd]; omega)
                clear he hd hd2
                go_wp2
                go_meet
                exact ⟨by rw [HO.out], belA (Below.refl _ _) _, hnew⟩
              · have hd' : (x.d != 1) = true := by simp [hd]
                have HO : Hid ((!zFormB x) = true) := hideIt (by simp [zFormB, hd, hd2])
                clear he hd hd2
                go_wp2
                go_meet
                exact ⟨by rw [HO.out], belA (Below.refl _ _) _, hnew⟩
            · have hd2 : x.d = 2 := by have := HW.out; simpa using this
              by_cases ha : x.a = 0
              · have ha' : (x.a == 0) = true := by simp [ha]
                have HO : Hid ((!zFormB x) = true) := hideIt (by simp [zFormB, hd2, ha])
                clear he hd2 ha
                go_wp2
                go_meet
                exact ⟨by rw [HO.out], belA (Below.refl _ _) _, hnew⟩
              · have ha' : (x.a == 0) = false := by simp [ha]
                by_cases hr : x.r = 0
                · have hr' : (x.r != 0) = false := by simp [hr]
                  have HO : Hid ((!zFormB x) = false) := hideIt (by simp [zFormB, hd2, ha, hr]; omega)
                  clear he hd2 ha hr
                  go_wp2
                  go_meet
                  exact ⟨by rw [HO.out], belA (Below.refl _ _) _, hnew⟩
                · have hr' : (x.r != 0) = true := by simp [hr]
                  have HO : Hid ((!zFormB x) = true) := hideIt (by simp [zFormB, hd2, hr])
                  clear he hd2 ha hr
                  go_wp2
                  go_meet
                  exact ⟨by rw [HO.out], belA (Below.refl _ _) _, hnew⟩
        case rest =>
          obtain ⟨rfl, hbx, hox⟩ := hcut
          have HBX := hideIt (HNX.out.trans (hbx.mono HNX.out.size))
          cases ho : zFormB x
          · have R1 : Hid (KTold l 3) := kTold_at HT.out hkl HA.out (kFault_form (by rw [HX.out]; exact ho)) (by decide)
            clear ho
            go_wp2
            go_ret
            exact ⟨3, rfl, R1.out, belJ HB1.out HBX.out⟩
          · have HF := hideIt (kFault_yes (l := l) (k := k) (by rw [HX.out]; exact ho))
            rw [HX.out] at HF
            have HOX := hideIt hox
            have hoxl := hox.lt
            have hblc : b < wc.heap.size := by have := hbx.size; omega
            have HLc : Hid (OpsAt wc b off l) := (HL.out.below hb HB1.out).below hbw HBX.out
            have hkI : (k : Int) ≤ (l.length : Int) := by omega
            clear ho hox c0 c1 c2 c3 c4 c5 c6 c7
            rw [HW.out] at HF
            go_wp2
            go_loopw [53] (fun j wy => ∃ i : Nat, i ≤ k ∧ j = .int .i64 i ∧ (wb = true → ((l.take k).take i).any (fun y => y.d == 2 && (y.k == x.k && y.a == x.a)) = false) ∧ Below wc.heap.size wc wy) (fun j _ => k - (intOf j).toNat)
            case atStart => exact ⟨0, Nat.zero_le _, rfl, fun _ => rfl, Below.refl _ _⟩
            case round =>
              obtain ⟨i, hi, rfl, hany, hny⟩ := hrel
              have HANY := hideIt hany
              have HNY := hideIt hny
              clear hany
              by_cases hil : i < k
              · obtain ⟨d0, d1, d2, d3, d4, d5, d6, d7⟩ := ((HLc.out) i (by omega)).below hblc hny
                obtain ⟨x0, x1, x2, x3, x4, x5, x6, x7⟩ := HOX.out.below hoxl hny
                rw [Nat.zero_add] at x1 x2 x3 x4 x5 x6 x7
                have hxl := Nat.lt_of_lt_of_le hoxl hny.size
                cases wb
                · clear HF
                  go_wp2
                  go_roundw
                  case rel => exact ⟨i + 1, by omega, by go_num, fun h => (by cases h), belA HNY.out _⟩
                  case measure => simp [intOf]; omega
                · obtain ⟨y, HY⟩ : ∃ y, Hid (l[i]'(by omega) = y) := ⟨_, hideIt rfl⟩
                  rw [HY.out] at d0 d1 d2 d3 d4 d5 d6 d7
                  cases hyd : y.d == 2
                  · have R1 := hideIt (take_take_succ l (fun y => y.d == 2 && (y.k == x.k && y.a == x.a)) k i hk hil (HANY.out rfl) (by rw [HY.out, hyd]; rfl))
                    clear HF
                    go_wp2
                    go_roundw
                    case rel => exact ⟨i + 1, by omega, by go_num, fun _ => R1.out, belA HNY.out _⟩
                    case measure => simp [intOf]; omega
                  · cases hya : y.a == x.a
                    · have R1 := hideIt (take_take_succ l (fun y => y.d == 2 && (y.k == x.k && y.a == x.a)) k i hk hil (HANY.out rfl) (by rw [HY.out, hyd, hya]; simp))
                      clear HF
                      go_wp2
                      go_roundw
                      case rel => exact ⟨i + 1, by omega, by go_num, fun _ => R1.out, belA HNY.out _⟩
                      case measure => simp [intOf]; omega
                    · cases hyk : y.k == x.k
                      · have R1 := hideIt (take_take_succ l (fun y => y.d == 2 && (y.k == x.k && y.a == x.a)) k i hk hil (HANY.out rfl) (by rw [HY.out, hyd, hyk]; rfl))
                        clear HF
                        go_wp2
                        go_roundw
                        case rel => exact ⟨i + 1, by omega, by go_num, fun _ => R1.out, belA HNY.out _⟩
                        case measure => simp [intOf]; omega
                      · have R1 := take_any_of l (fun y => y.d == 2 && (y.k == x.k && y.a == x.a)) k i hk hil (by rw [HY.out, hyd, hya, hyk]; rfl)
                        have R2 : Hid (KTold l 9) := kTold_at HT.out hkl HA.out (by rw [HF.out, R1]; rfl) (by decide)
                        clear HF R1
                        go_wp2
                        go_ret
                        exact ⟨9, rfl, R2.out, belJ HB1.out (HBX.out.trans ((belA HNY.out _).mono HBX.out.size))⟩
              · have R1 : Hid (∀ j, j < k + 1 → kFaultAt l j = 0) := fine_succ HA.out (by
                  rw [HF.out]
                  cases wb
                  · rfl
                  · rw [take_all_done l _ k i (by omega) (HANY.out rfl)]; rfl)
                clear HF
                go_wp2
                go_roundw
                case rel => exact ⟨k + 1, by omega, by go_num, R1.out, HBX.out.trans (HNY.out.mono HBX.out.size)⟩
                case measure => simp [intOf]; omega
      · have R1 : Hid (KTold l 0) := kTold_all HT.out fun j hj => HA.out j (by omega)
        have R2 := hideIt (belJ HB1.out HNX.out)
        go_wp2
        go_ret
        exact ⟨0, by simp, R1.out, R2.out⟩
  · have HT := hideIt (kTold_err ht hn)
    have hn' : (n != 0) = true := by simp [hn]
    go_wp2
    go_ret
    exact ⟨n, rfl, HT.out, hb1⟩

end Go.Proofs.YtfojmbbhcmeejaaDoor

namespace Go.Proofs.YtfojmbbhcmeejaaDoor
open Go.RowKit

def readB (l : List Opn) (i k : Nat) : Bool := (opZ l k).d == 2 && ((opZ l k).k == (opZ l i).k && (opZ l k).a == (opZ l i).r)
theorem readsD_zero {l : List Opn} {i : Nat} (h : (opZ l i).d ≠ 1 ∨ (opZ l i).r = 0) : readsD l i = -1 := by unfold readsD; rw [if_pos h]
theorem readsD_some {l : List Opn} {i k : Nat} (h : ¬ ((opZ l i).d ≠ 1 ∨ (opZ l i).r = 0)) (hk : firstN (readB l i) l.length = some k) : readsD l i = k := by unfold readsD; rw [if_neg h]; unfold readB at hk; rw [hk]; rfl
theorem readsD_none {l : List Opn} {i : Nat} (h : ¬ ((opZ l i).d ≠ 1 ∨ (opZ l i).r = 0)) (hk : firstN (readB l i) l.length = none) : readsD l i = -2 := by unfold readsD; rw [if_neg h]; unfold readB at hk; rw [hk]; rfl

set_option maxRecDepth 100000 in
set_option maxHeartbeats 2000000 in
theorem reads_any (l : List Opn) (a : Option Addr) (cap i : Nat) (w : World) (hlen : l.length ≤ 60) (hl : OpsQ w a l) (hi : i < l.length) :
    Calls Tryd.prog 12 #[.slice a l.length cap, .int .i64 (i : Nat)] w fun e w' => e = .returned (.int .i64 (readsD l i)) ∧ Below w.heap.size w w' := by
  obtain ⟨b, off, rfl, hlt, hops⟩ : ∃ b off, a = some ⟨b, off, none⟩ ∧ b < w.heap.size ∧ OpsAt w b off l := by
    rcases hl with h | h
    · subst h; simp at hi
    · exact h
  have HO := hideIt hops
  obtain ⟨c0, c1, c2, c3, c4, c5, c6, c7⟩ := hops i hi
  have HX : Hid (opZ l i = l[i]) := opZ_at hi
  have HXA : Hid (∀ wr, Below w.heap.size w wr → OpAt wr b (off + i * 8) l[i]) := fun wr hW => (hops i hi).below hlt hW
  generalize l[i] = x at c0 c1 c2 c3 c4 c5 c6 c7 HX HXA
  clear hops hl
  by_cases hd : x.d = 1
  · have hd' : (x.d != 1) = false := by simp [hd]
    by_cases hr : x.r = 0
    · have hr' : (x.r == 0) = true := by simp [hr]
      have R : Hid (readsD l i = -1) := readsD_zero (.inr (by rw [HX.out]; exact hr))
      clear hd hr
      go_enter Tryd.func12, Tryd.ntmps12
      go_wp2
      go_ret
      exact ⟨ret_intK R.out.symm, Below.refl _ _⟩
    · have hr' : (x.r == 0) = false := by simp [hr]
      have HZ : Hid (¬ ((opZ l i).d ≠ 1 ∨ (opZ l i).r = 0)) := by
        show ¬ ((opZ l i).d ≠ 1 ∨ (opZ l i).r = 0)
        rw [HX.out]; exact fun h => h.elim (fun h => h hd) (fun h => hr h)
      clear hd hr
      go_enter Tryd.func12, Tryd.ntmps12
      go_wp2
      clear c0 c1 c2 c3 c4 c5 c6 c7 hd' hr'
      go_loopw [23] (fun v wr => ∃ k : Nat, k ≤ l.length ∧ v = .int .i64 k ∧ (∀ j, j < k → readB l i j = false) ∧ Below w.heap.size w wr) (fun v _ => l.length - (intOf v).toNat)
      case atStart => exact ⟨0, Nat.zero_le _, rfl, fun j hj => absurd hj (by omega), Below.refl _ _⟩
      case round =>
        obtain ⟨k, hk, rfl, ha, hb⟩ := hrel
        have HA := hideIt ha
        have HB := hideIt hb
        clear ha hb
        by_cases hkl : k < l.length
        · obtain ⟨c0, c1, c2, c3, c4, c5, c6, c7⟩ := (HO.out k hkl).below hlt HB.out
          obtain ⟨_, d1, _, _, _, d5, _, _⟩ := HXA.out _ HB.out
          have hbl : b < wr.heap.size := Nat.lt_of_lt_of_le hlt HB.out.size
          have d1' : ∀ o : Obj, (wr.alloc o).cell? ⟨b, off + i * 8 + 1, none⟩ = some (.int .i64 x.k) := fun o => by rw [World.cell?_alloc_lt _ _ ⟨b, off + i * 8 + 1, none⟩ hbl]; exact d1
          have d5' : ∀ o : Obj, (wr.alloc o).cell? ⟨b, off + i * 8 + 5, none⟩ = some (.int .i64 x.r) := fun o => by rw [World.cell?_alloc_lt _ _ ⟨b, off + i * 8 + 5, none⟩ hbl]; exact d5
          have HY : Hid (opZ l k = l[k]) := opZ_at hkl
          generalize l[k] = y at c0 c1 c2 c3 c4 c5 c6 c7 HY
          have HRB : Hid (readB l i k = (y.d == 2 && (y.k == x.k && y.a == x.r))) := by show readB l i k = _; unfold readB; rw [HX.out, HY.out]
          have HNext : Hid (readB l i k = false → ∀ j, j < k + 1 → readB l i j = false) := fun h j hj => by
            by_cases e : j = k
            · subst e; exact h
            · exact HA.out j (by omega)
          cases hyd : y.d == 2
          · have R1 := hideIt (HNext.out (by rw [HRB.out, hyd]; rfl))
            go_wp2_with fail
            go_big_quiet (fail)
            go_wp2
            go_roundw
            case rel => exact ⟨k + 1, by omega, by go_num, R1.out, below_drewN (belA HB.out _) _⟩
            case measure => simp [intOf]; omega
          · cases hyk : y.k == x.k
            · have R1 := hideIt (HNext.out (by rw [HRB.out, hyk]; simp))
              go_wp2_with fail
              go_big_quiet (fail)
              go_wp2
              go_roundw
              case rel => exact ⟨k + 1, by omega, by go_num, R1.out, below_drewN (belA HB.out _) _⟩
              case measure => simp [intOf]; omega
            · cases hya : y.a == x.r
              · have R1 := hideIt (HNext.out (by rw [HRB.out, hya]; simp))
                go_wp2_with fail
                go_big_quiet (fail)
                go_wp2
                go_roundw
                case rel => exact ⟨k + 1, by omega, by go_num, R1.out, below_drewN (belA HB.out _) _⟩
                case measure => simp [intOf]; omega
              · have R1 : Hid (readsD l i = k) := readsD_some HZ.out (firstN_at hkl HA.out (by rw [HRB.out, hyd, hyk, hya]; rfl))
                go_wp2_with fail
                go_big_quiet (fail)
                go_wp2
                go_ret
                exact ⟨ret_intK R1.out.symm, below_drewN (belA HB.out _) _⟩
        · have R1 : Hid (readsD l i = -2) := readsD_none HZ.out (firstN_none fun j hj => HA.out j (by omega))
          go_wp2
          go_ret
          exact ⟨ret_intK R1.out.symm, HB.out⟩
  · have hd' : (x.d != 1) = true := by simp [hd]
    have R : Hid (readsD l i = -1) := readsD_zero (.inl (by rw [HX.out]; exact hd))
    clear hd
    go_enter Tryd.func12, Tryd.ntmps12
    go_wp2
    go_ret
    exact ⟨ret_intK R.out.symm, Below.refl _ _⟩

end Go.Proofs.YtfojmbbhcmeejaaDoor

namespace Go.Proofs.YtfojmbbhcmeejaaDoor
open Go.RowKit

set_option maxRecDepth 100000 in
set_option maxHeartbeats 4000000 in
theorem roads_any (l : List Opn) (a : Option Addr) (cap Bx : Nat) (w : World) (hlen : l.length ≤ 60) (hl : OpsQ w a l) (bx : w.cell? ⟨Bx, 0, none⟩ = some (.slice a l.length cap)) (i k : Nat) (hi : i < l.length) (hk : k < l.length) :
    Calls Tryd.prog 28 #[.int .i64 (i : Nat), .int .i64 (k : Nat), .pointer (some ⟨Bx, 0, none⟩)] w fun e w' => e = .returned (.bool (roadD l i k)) ∧ Below w.heap.size w w' := by
  have HRd := hideIt (reads_any l a cap k w.drew hlen (hl.below (Below.refl _ _).drew) hk)
  obtain ⟨b, off, rfl, hlt, hops⟩ : ∃ b off, a = some ⟨b, off, none⟩ ∧ b < w.heap.size ∧ OpsAt w b off l := by
    rcases hl with h | h
    · subst h; simp at hi
    · exact h
  have hBx : Bx < w.heap.size := World.block_lt_of_cell? w _ bx
  have HX : Hid (opZ l i = l[i]) := opZ_at hi
  have HY : Hid (opZ l k = l[k]) := opZ_at hk
  have hx := hops i hi
  have hy := hops k hk
  generalize l[i] = x at hx HX
  generalize l[k] = y at hy HY
  have HS : Hid (∀ w1, Below w.heap.size w w1 → w1.cell? ⟨Bx, 0, none⟩ = some (.slice (some ⟨b, off, none⟩) l.length cap) ∧ w1.cell? ⟨b, off + i * 8, none⟩ = some (.int .i64 x.p) ∧ w1.cell? ⟨b, off + i * 8 + 6, none⟩ = some (.int .i64 x.c) ∧ w1.cell? ⟨b, off + k * 8, none⟩ = some (.int .i64 y.p) ∧ w1.cell? ⟨b, off + k * 8 + 6, none⟩ = some (.int .i64 y.c)) := fun w1 h1 => by
    obtain ⟨p0, _, _, _, _, _, p6, _⟩ := hx.below hlt h1
    obtain ⟨q0, _, _, _, _, _, q6, _⟩ := hy.below hlt h1
    exact ⟨(h1.cell (p := ⟨Bx, 0, none⟩) hBx).trans bx, p0, p6, q0, q6⟩
  have HR : Hid (roadD l i k = ((x.p == y.p && decide (x.c < y.c)) || readsD l k == (i : Int))) := by show roadD l i k = _; unfold roadD; rw [HX.out, HY.out]
  clear hops hx hy hl bx HX HY
  obtain ⟨s0, s1, s2, s3, s4⟩ := HS.out w (Below.refl _ _)
  generalize readsD l k = rd at HRd HR
  have HF := HRd
  clear HRd
  by_cases hp : x.p = y.p
  · have hp' : (x.p == y.p) = true := by simp [hp]
    by_cases hc : x.c < y.c
    · have hc' : decide (x.c < y.c) = true := by simp [hc]
      have R : Hid (roadD l i k = true) := by show roadD l i k = true; rw [HR.out, hp', hc']; rfl
      clear hp hc
      go_enter Tryd.func28, Tryd.ntmps28
      go_wp2_with fail
      go_big_quiet (fail)
      go_wp2
      go_ret
      exact ⟨ret_boolZ R.out.symm, below_drewN (Below.refl _ _) _⟩
    · have hc' : decide (x.c < y.c) = false := by simp [hc]
      have R : Hid (roadD l i k = (rd == (i : Int))) := by show roadD l i k = _; rw [HR.out, hp', hc']; rfl
      clear hp hc
      go_enter Tryd.func28, Tryd.ntmps28
      go_wp2_with fail
      refine wp_region_held_drew (S := (fun w' => w'.cell? ⟨Bx, 0, none⟩ = some (.slice (some ⟨b, off, none⟩) l.length cap) ∧ w'.cell? ⟨b, off + i * 8, none⟩ = some (.int .i64 x.p) ∧ w'.cell? ⟨b, off + i * 8 + 6, none⟩ = some (.int .i64 x.c) ∧ w'.cell? ⟨b, off + k * 8, none⟩ = some (.int .i64 y.p) ∧ w'.cell? ⟨b, off + k * 8 + 6, none⟩ = some (.int .i64 y.c))) (by kernel_rfl) ⟨by simpa using s0, by simpa using s1, by simpa using s2, by simpa using s3, by simpa using s4⟩ (fun hHeld => ?_)
      refine wpAnyH_take (i := 0) (v := ?_) rfl (by kernel_rfl) (by kernel_rfl) (by kernel_rfl) (fun _ _ _ h => h) (Or.inl ⟨by rfl, ?_⟩) (by assumption) ?_
      rotate_left 1
      · intro w ⟨s0, s1, s2, s3, s4⟩
        go_simp
        all_goals with_reducible rfl
      simp only [Act.put, List.setIfInBounds_toArray, List.set_cons_zero, List.set_cons_succ, List.getElem_toArray, List.getElem_cons_zero]
      refine wpAnyH_take (i := 1) (v := ?_) rfl (by kernel_rfl) (by kernel_rfl) (by kernel_rfl) (fun _ _ _ h => h) (Or.inl ⟨by rfl, ?_⟩) (by assumption) ?_
      rotate_left 1
      · intro w ⟨s0, s1, s2, s3, s4⟩
        go_simp
        all_goals with_reducible rfl
      simp only [Act.put, List.setIfInBounds_toArray, List.set_cons_zero, List.set_cons_succ, List.getElem_toArray, List.getElem_cons_zero, List.getElem_cons_succ]
      refine wpAnyH_take (i := 2) (v := ?_) rfl (by kernel_rfl) (by kernel_rfl) (by kernel_rfl) (fun _ _ _ h => h) (Or.inl ⟨by rfl, ?_⟩) (by assumption) ?_
      rotate_left 1
      · intro w ⟨s0, s1, s2, s3, s4⟩
        go_simp
        all_goals with_reducible rfl
      simp only [Act.put, List.setIfInBounds_toArray, List.set_cons_zero, List.set_cons_succ, List.getElem_toArray, List.getElem_cons_zero, List.getElem_cons_succ]
      refine wpAnyH_take (i := 3) (v := ?_) rfl (by kernel_rfl) (by kernel_rfl) (by kernel_rfl) (fun _ _ _ h => h) (Or.inl ⟨by rfl, ?_⟩) (by assumption) ?_
      rotate_left 1
      · intro w ⟨s0, s1, s2, s3, s4⟩
        go_simp
        all_goals with_reducible rfl
      simp only [Act.put, List.setIfInBounds_toArray, List.set_cons_zero, List.set_cons_succ, List.getElem_toArray, List.getElem_cons_zero, List.getElem_cons_succ]
      refine wpAnyH_take (i := 4) (v := ?_) rfl (by kernel_rfl) (by kernel_rfl) (by kernel_rfl) (fun _ _ _ h => h) (Or.inl ⟨by rfl, ?_⟩) (by assumption) ?_
      rotate_left 1
      · intro w ⟨s0, s1, s2, s3, s4⟩
        go_simp
        all_goals with_reducible rfl
      simp only [Act.put, List.setIfInBounds_toArray, List.set_cons_zero, List.set_cons_succ, List.getElem_toArray, List.getElem_cons_zero, List.getElem_cons_succ]
      refine wpAnyH_take (i := 5) (v := ?_) rfl (by kernel_rfl) (by kernel_rfl) (by kernel_rfl) (fun _ _ _ h => h) (Or.inl ⟨by rfl, ?_⟩) (by assumption) ?_
      rotate_left 1
      · intro w ⟨s0, s1, s2, s3, s4⟩
        go_simp
        all_goals with_reducible rfl
      simp only [Act.put, List.setIfInBounds_toArray, List.set_cons_zero, List.set_cons_succ, List.getElem_toArray, List.getElem_cons_zero, List.getElem_cons_succ]
      refine wpAnyH_take (i := 6) (v := ?_) rfl (by kernel_rfl) (by kernel_rfl) (by kernel_rfl) (fun _ _ _ h => h) (Or.inl ⟨by rfl, ?_⟩) (by assumption) ?_
      rotate_left 1
      · intro w ⟨s0, s1, s2, s3, s4⟩
        go_simp
        all_goals with_reducible rfl
      simp only [Act.put, List.setIfInBounds_toArray, List.set_cons_zero, List.set_cons_succ, List.getElem_toArray, List.getElem_cons_zero, List.getElem_cons_succ]
      refine wpAnyH_take (i := 7) (v := ?_) rfl (by kernel_rfl) (by kernel_rfl) (by kernel_rfl) (fun _ _ _ h => h) (Or.inl ⟨by rfl, ?_⟩) (by assumption) ?_
      rotate_left 1
      · intro w ⟨s0, s1, s2, s3, s4⟩
        go_simp
        all_goals with_reducible rfl
      simp only [Act.put, List.setIfInBounds_toArray, List.set_cons_zero, List.set_cons_succ, List.getElem_toArray, List.getElem_cons_zero, List.getElem_cons_succ]
      refine wpAnyH_take (i := 8) (v := ?_) rfl (by kernel_rfl) (by kernel_rfl) (by kernel_rfl) (fun _ _ _ h => h) (Or.inl ⟨by rfl, ?_⟩) (by assumption) ?_
      rotate_left 1
      · intro w ⟨s0, s1, s2, s3, s4⟩
        go_simp
        all_goals with_reducible rfl
      simp only [Act.put, List.setIfInBounds_toArray, List.set_cons_zero, List.set_cons_succ, List.getElem_toArray, List.getElem_cons_zero, List.getElem_cons_succ]
      refine wpAnyH_take (i := 9) (v := ?_) rfl (by kernel_rfl) (by kernel_rfl) (by kernel_rfl) (fun _ _ _ h => h) (Or.inl ⟨by rfl, ?_⟩) (by assumption) ?_
      rotate_left 1
      · intro w ⟨s0, s1, s2, s3, s4⟩
        go_simp
        all_goals with_reducible rfl
      simp only [Act.put, List.setIfInBounds_toArray, List.set_cons_zero, List.set_cons_succ, List.getElem_toArray, List.getElem_cons_zero, List.getElem_cons_succ]
      refine wpAnyH_take (i := 10) (v := ?_) rfl (by kernel_rfl) (by kernel_rfl) (by kernel_rfl) (fun _ _ _ h => h) (Or.inl ⟨by rfl, ?_⟩) (by assumption) ?_
      rotate_left 1
      · intro w ⟨s0, s1, s2, s3, s4⟩
        go_simp
        all_goals with_reducible rfl
      simp only [Act.put, List.setIfInBounds_toArray, List.set_cons_zero, List.set_cons_succ, List.getElem_toArray, List.getElem_cons_zero, List.getElem_cons_succ]
      refine wpAnyH_take (i := 11) (v := ?_) rfl (by kernel_rfl) (by kernel_rfl) (by kernel_rfl) (fun _ _ _ h => h) (Or.inl ⟨by rfl, ?_⟩) (by assumption) ?_
      rotate_left 1
      · intro w ⟨s0, s1, s2, s3, s4⟩
        go_simp
        all_goals with_reducible rfl
      simp only [Act.put, List.setIfInBounds_toArray, List.set_cons_zero, List.set_cons_succ, List.getElem_toArray, List.getElem_cons_zero, List.getElem_cons_succ]
      refine wpAnyH_take (i := 12) (v := ?_) rfl (by kernel_rfl) (by kernel_rfl) (by kernel_rfl) (fun _ _ _ h => h) (Or.inl ⟨by rfl, ?_⟩) (by assumption) ?_
      rotate_left 1
      · intro w ⟨s0, s1, s2, s3, s4⟩
        go_simp
        all_goals with_reducible rfl
      simp only [Act.put, List.setIfInBounds_toArray, List.set_cons_zero, List.set_cons_succ, List.getElem_toArray, List.getElem_cons_zero, List.getElem_cons_succ]
      refine wpAnyH_take (i := 13) (v := ?_) rfl (by kernel_rfl) (by kernel_rfl) (by kernel_rfl) (fun _ _ _ h => h) (Or.inl ⟨by rfl, ?_⟩) (by assumption) ?_
      rotate_left 1
      · intro w ⟨s0, s1, s2, s3, s4⟩
        go_simp
        all_goals with_reducible rfl
      simp only [Act.put, List.setIfInBounds_toArray, List.set_cons_zero, List.set_cons_succ, List.getElem_toArray, List.getElem_cons_zero, List.getElem_cons_succ]
      refine wpAnyH_take (i := 14) (v := ?_) rfl (by kernel_rfl) (by kernel_rfl) (by kernel_rfl) (fun _ _ _ h => h) (Or.inl ⟨by rfl, ?_⟩) (by assumption) ?_
      rotate_left 1
      · intro w ⟨s0, s1, s2, s3, s4⟩
        go_simp
        all_goals with_reducible rfl
      simp only [Act.put, List.setIfInBounds_toArray, List.set_cons_zero, List.set_cons_succ, List.getElem_toArray, List.getElem_cons_zero, List.getElem_cons_succ]
      refine wpAnyH_take (i := 15) (v := ?_) rfl (by kernel_rfl) (by kernel_rfl) (by kernel_rfl) (fun _ _ _ h => h) (Or.inl ⟨by rfl, ?_⟩) (by assumption) ?_
      rotate_left 1
      · intro w ⟨s0, s1, s2, s3, s4⟩
        go_simp
        all_goals with_reducible rfl
      simp only [Act.put, List.setIfInBounds_toArray, List.set_cons_zero, List.set_cons_succ, List.getElem_toArray, List.getElem_cons_zero, List.getElem_cons_succ]
      refine wpAnyH_take (i := 16) (v := ?_) rfl (by kernel_rfl) (by kernel_rfl) (by kernel_rfl) (fun _ _ _ h => h) (Or.inl ⟨by rfl, ?_⟩) (by assumption) ?_
      rotate_left 1
      · intro w ⟨s0, s1, s2, s3, s4⟩
        go_simp
        all_goals with_reducible rfl
      simp only [Act.put, List.setIfInBounds_toArray, List.set_cons_zero, List.set_cons_succ, List.getElem_toArray, List.getElem_cons_zero, List.getElem_cons_succ]
      refine wpAnyH_take (i := 17) (v := ?_) rfl (by kernel_rfl) (by kernel_rfl) (by kernel_rfl) (fun _ _ _ h => h) (Or.inl ⟨by rfl, ?_⟩) (by assumption) ?_
      rotate_left 1
      · intro w ⟨s0, s1, s2, s3, s4⟩
        go_simp
        all_goals with_reducible rfl
      simp only [Act.put, List.setIfInBounds_toArray, List.set_cons_zero, List.set_cons_succ, List.getElem_toArray, List.getElem_cons_zero, List.getElem_cons_succ]
      refine wpAnyH_take (i := 18) (v := ?_) rfl (by kernel_rfl) (by kernel_rfl) (by kernel_rfl) (fun _ _ _ h => h) (Or.inl ⟨by rfl, ?_⟩) (by assumption) ?_
      rotate_left 1
      · intro w ⟨s0, s1, s2, s3, s4⟩
        go_simp
        all_goals with_reducible rfl
      simp only [Act.put, List.setIfInBounds_toArray, List.set_cons_zero, List.set_cons_succ, List.getElem_toArray, List.getElem_cons_zero, List.getElem_cons_succ]
      refine wpAnyH_take (i := 19) (v := ?_) rfl (by kernel_rfl) (by kernel_rfl) (by kernel_rfl) (fun _ _ _ h => h) (Or.inl ⟨by rfl, ?_⟩) (by assumption) ?_
      rotate_left 1
      · intro w ⟨s0, s1, s2, s3, s4⟩
        go_simp
        all_goals with_reducible rfl
      simp only [Act.put, List.setIfInBounds_toArray, List.set_cons_zero, List.set_cons_succ, List.getElem_toArray, List.getElem_cons_zero, List.getElem_cons_succ]
      refine wpAnyH_take (i := 20) (v := ?_) rfl (by kernel_rfl) (by kernel_rfl) (by kernel_rfl) (fun _ _ _ h => h) (Or.inl ⟨by rfl, ?_⟩) (by assumption) ?_
      rotate_left 1
      · intro w ⟨s0, s1, s2, s3, s4⟩
        go_simp
        all_goals with_reducible rfl
      simp only [Act.put, List.setIfInBounds_toArray, List.set_cons_zero, List.set_cons_succ, List.getElem_toArray, List.getElem_cons_zero, List.getElem_cons_succ]
      refine wpAnyH_take (i := 21) (v := ?_) rfl (by kernel_rfl) (by kernel_rfl) (by kernel_rfl) (fun _ _ _ h => h) (Or.inl ⟨by rfl, ?_⟩) (by assumption) ?_
      rotate_left 1
      · intro w ⟨s0, s1, s2, s3, s4⟩
        go_simp
        all_goals with_reducible rfl
      simp only [Act.put, List.setIfInBounds_toArray, List.set_cons_zero, List.set_cons_succ, List.getElem_toArray, List.getElem_cons_zero, List.getElem_cons_succ]
      refine wpAnyH_take (i := 22) (v := ?_) rfl (by kernel_rfl) (by kernel_rfl) (by kernel_rfl) (fun _ _ _ h => h) (Or.inl ⟨by rfl, ?_⟩) (by assumption) ?_
      rotate_left 1
      · intro w ⟨s0, s1, s2, s3, s4⟩
        go_simp
        all_goals with_reducible rfl
      simp only [Act.put, List.setIfInBounds_toArray, List.set_cons_zero, List.set_cons_succ, List.getElem_toArray, List.getElem_cons_zero, List.getElem_cons_succ]
      refine wpAnyH_take (i := 23) (v := ?_) rfl (by kernel_rfl) (by kernel_rfl) (by kernel_rfl) (fun _ _ _ h => h) (Or.inl ⟨by rfl, ?_⟩) (by assumption) ?_
      rotate_left 1
      · intro w ⟨s0, s1, s2, s3, s4⟩
        go_simp
        all_goals with_reducible rfl
      simp only [Act.put, List.setIfInBounds_toArray, List.set_cons_zero, List.set_cons_succ, List.getElem_toArray, List.getElem_cons_zero, List.getElem_cons_succ]
      refine wpAnyH_take (i := 24) (v := ?_) rfl (by kernel_rfl) (by kernel_rfl) (by kernel_rfl) (fun _ _ _ h => h) (Or.inl ⟨by rfl, ?_⟩) (by assumption) ?_
      rotate_left 1
      · intro w ⟨s0, s1, s2, s3, s4⟩
        go_simp
        all_goals with_reducible rfl
      simp only [Act.put, List.setIfInBounds_toArray, List.set_cons_zero, List.set_cons_succ, List.getElem_toArray, List.getElem_cons_zero, List.getElem_cons_succ]
      refine wpAnyH_take (i := 25) (v := ?_) rfl (by kernel_rfl) (by kernel_rfl) (by kernel_rfl) (fun _ _ _ h => h) (Or.inl ⟨by rfl, ?_⟩) (by assumption) ?_
      rotate_left 1
      · intro w ⟨s0, s1, s2, s3, s4⟩
        go_simp
        all_goals with_reducible rfl
      simp only [Act.put, List.setIfInBounds_toArray, List.set_cons_zero, List.set_cons_succ, List.getElem_toArray, List.getElem_cons_zero, List.getElem_cons_succ]
      refine wpAnyH_take (i := 26) (v := ?_) rfl (by kernel_rfl) (by kernel_rfl) (by kernel_rfl) (fun _ _ _ h => h) (Or.inl ⟨by rfl, ?_⟩) (by assumption) ?_
      rotate_left 1
      · intro w ⟨s0, s1, s2, s3, s4⟩
        go_simp
        all_goals with_reducible rfl
      simp only [Act.put, List.setIfInBounds_toArray, List.set_cons_zero, List.set_cons_succ, List.getElem_toArray, List.getElem_cons_zero, List.getElem_cons_succ]
      refine wpAnyH_take (i := 28) (v := ?_) rfl (by kernel_rfl) (by kernel_rfl) (by kernel_rfl) (fun _ _ _ h => h) (Or.inl ⟨by rfl, ?_⟩) (by assumption) ?_
      rotate_left 1
      · intro w ⟨s0, s1, s2, s3, s4⟩
        go_simp
        all_goals with_reducible rfl
      simp only [Act.put, List.setIfInBounds_toArray, List.set_cons_zero, List.set_cons_succ, List.getElem_toArray, List.getElem_cons_zero, List.getElem_cons_succ]
      refine wpAnyH_ready (rs := [27]) (by kernel_rfl) (by simp) (AllReadyH.cons rfl (fun K hK => ?_) AllReadyH.nil)
      go_simp
      refine HF.out.mono ?_
      rintro e w1 ⟨rfl, hb1⟩
      have HB1 := hideIt (show Below w.heap.size w w1 from ((Below.refl w.heap.size w).drew).trans hb1)
      refine hK.out _ _ ?_ (fun hHeld => ?_)
      · exact HS.out w1 HB1.out
      clear hK K hb1
      refine wpAnyH_take (i := 29) (v := ?_) rfl (by kernel_rfl) (by kernel_rfl) (by kernel_rfl) (fun _ _ _ h => h) (Or.inl ⟨by rfl, ?_⟩) (by assumption) ?_
      rotate_left 1
      · intro w ⟨s0, s1, s2, s3, s4⟩
        go_simp
        all_goals with_reducible rfl
      simp only [Act.put, List.setIfInBounds_toArray, List.set_cons_zero, List.set_cons_succ, List.getElem_toArray, List.getElem_cons_zero, List.getElem_cons_succ]
      refine wpAnyH_take (i := 30) (v := ?_) rfl (by kernel_rfl) (by kernel_rfl) (by kernel_rfl) (fun _ _ _ h => h) (Or.inl ⟨by rfl, ?_⟩) (by assumption) ?_
      rotate_left 1
      · intro w ⟨s0, s1, s2, s3, s4⟩
        go_simp
        all_goals with_reducible rfl
      simp only [Act.put, List.setIfInBounds_toArray, List.set_cons_zero, List.set_cons_succ, List.getElem_toArray, List.getElem_cons_zero, List.getElem_cons_succ]
      refine wpAnyH_take (i := 31) (v := ?_) rfl (by kernel_rfl) (by kernel_rfl) (by kernel_rfl) (fun _ _ _ h => h) (Or.inl ⟨by rfl, ?_⟩) (by assumption) ?_
      rotate_left 1
      · intro w ⟨s0, s1, s2, s3, s4⟩
        go_simp
        all_goals with_reducible rfl
      simp only [Act.put, List.setIfInBounds_toArray, List.set_cons_zero, List.set_cons_succ, List.getElem_toArray, List.getElem_cons_zero, List.getElem_cons_succ]
      refine wpAnyH_done (by kernel_rfl) ?_ _
      go_wp2
      go_ret
      exact ⟨ret_boolZ R.out.symm, HB1.out⟩
  · have hp' : (x.p == y.p) = false := by simp [hp]
    have R : Hid (roadD l i k = (rd == (i : Int))) := by show roadD l i k = _; rw [HR.out, hp']; rfl
    clear hp
    go_enter Tryd.func28, Tryd.ntmps28
    go_wp2_with fail
    refine wp_region_held_drew (S := (fun w' => w'.cell? ⟨Bx, 0, none⟩ = some (.slice (some ⟨b, off, none⟩) l.length cap) ∧ w'.cell? ⟨b, off + i * 8, none⟩ = some (.int .i64 x.p) ∧ w'.cell? ⟨b, off + i * 8 + 6, none⟩ = some (.int .i64 x.c) ∧ w'.cell? ⟨b, off + k * 8, none⟩ = some (.int .i64 y.p) ∧ w'.cell? ⟨b, off + k * 8 + 6, none⟩ = some (.int .i64 y.c))) (by kernel_rfl) ⟨by simpa using s0, by simpa using s1, by simpa using s2, by simpa using s3, by simpa using s4⟩ (fun hHeld => ?_)
    refine wpAnyH_take (i := 0) (v := ?_) rfl (by kernel_rfl) (by kernel_rfl) (by kernel_rfl) (fun _ _ _ h => h) (Or.inl ⟨by rfl, ?_⟩) (by assumption) ?_
    rotate_left 1
    · intro w ⟨s0, s1, s2, s3, s4⟩
      go_simp
      all_goals with_reducible rfl
    simp only [Act.put, List.setIfInBounds_toArray, List.set_cons_zero, List.set_cons_succ, List.getElem_toArray, List.getElem_cons_zero]
    refine wpAnyH_take (i := 1) (v := ?_) rfl (by kernel_rfl) (by kernel_rfl) (by kernel_rfl) (fun _ _ _ h => h) (Or.inl ⟨by rfl, ?_⟩) (by assumption) ?_
    rotate_left 1
    · intro w ⟨s0, s1, s2, s3, s4⟩
      go_simp
      all_goals with_reducible rfl
    simp only [Act.put, List.setIfInBounds_toArray, List.set_cons_zero, List.set_cons_succ, List.getElem_toArray, List.getElem_cons_zero, List.getElem_cons_succ]
    refine wpAnyH_take (i := 2) (v := ?_) rfl (by kernel_rfl) (by kernel_rfl) (by kernel_rfl) (fun _ _ _ h => h) (Or.inl ⟨by rfl, ?_⟩) (by assumption) ?_
    rotate_left 1
    · intro w ⟨s0, s1, s2, s3, s4⟩
      go_simp
      all_goals with_reducible rfl
    simp only [Act.put, List.setIfInBounds_toArray, List.set_cons_zero, List.set_cons_succ, List.getElem_toArray, List.getElem_cons_zero, List.getElem_cons_succ]
    refine wpAnyH_take (i := 3) (v := ?_) rfl (by kernel_rfl) (by kernel_rfl) (by kernel_rfl) (fun _ _ _ h => h) (Or.inl ⟨by rfl, ?_⟩) (by assumption) ?_
    rotate_left 1
    · intro w ⟨s0, s1, s2, s3, s4⟩
      go_simp
      all_goals with_reducible rfl
    simp only [Act.put, List.setIfInBounds_toArray, List.set_cons_zero, List.set_cons_succ, List.getElem_toArray, List.getElem_cons_zero, List.getElem_cons_succ]
    refine wpAnyH_take (i := 4) (v := ?_) rfl (by kernel_rfl) (by kernel_rfl) (by kernel_rfl) (fun _ _ _ h => h) (Or.inl ⟨by rfl, ?_⟩) (by assumption) ?_
    rotate_left 1
    · intro w ⟨s0, s1, s2, s3, s4⟩
      go_simp
      all_goals with_reducible rfl
    simp only [Act.put, List.setIfInBounds_toArray, List.set_cons_zero, List.set_cons_succ, List.getElem_toArray, List.getElem_cons_zero, List.getElem_cons_succ]
    refine wpAnyH_take (i := 5) (v := ?_) rfl (by kernel_rfl) (by kernel_rfl) (by kernel_rfl) (fun _ _ _ h => h) (Or.inl ⟨by rfl, ?_⟩) (by assumption) ?_
    rotate_left 1
    · intro w ⟨s0, s1, s2, s3, s4⟩
      go_simp
      all_goals with_reducible rfl
    simp only [Act.put, List.setIfInBounds_toArray, List.set_cons_zero, List.set_cons_succ, List.getElem_toArray, List.getElem_cons_zero, List.getElem_cons_succ]
    refine wpAnyH_take (i := 6) (v := ?_) rfl (by kernel_rfl) (by kernel_rfl) (by kernel_rfl) (fun _ _ _ h => h) (Or.inl ⟨by rfl, ?_⟩) (by assumption) ?_
    rotate_left 1
    · intro w ⟨s0, s1, s2, s3, s4⟩
      go_simp
      all_goals with_reducible rfl
    simp only [Act.put, List.setIfInBounds_toArray, List.set_cons_zero, List.set_cons_succ, List.getElem_toArray, List.getElem_cons_zero, List.getElem_cons_succ]
    refine wpAnyH_take (i := 7) (v := ?_) rfl (by kernel_rfl) (by kernel_rfl) (by kernel_rfl) (fun _ _ _ h => h) (Or.inl ⟨by rfl, ?_⟩) (by assumption) ?_
    rotate_left 1
    · intro w ⟨s0, s1, s2, s3, s4⟩
      go_simp
      all_goals with_reducible rfl
    simp only [Act.put, List.setIfInBounds_toArray, List.set_cons_zero, List.set_cons_succ, List.getElem_toArray, List.getElem_cons_zero, List.getElem_cons_succ]
    refine wpAnyH_take (i := 8) (v := ?_) rfl (by kernel_rfl) (by kernel_rfl) (by kernel_rfl) (fun _ _ _ h => h) (Or.inl ⟨by rfl, ?_⟩) (by assumption) ?_
    rotate_left 1
    · intro w ⟨s0, s1, s2, s3, s4⟩
      go_simp
      all_goals with_reducible rfl
    simp only [Act.put, List.setIfInBounds_toArray, List.set_cons_zero, List.set_cons_succ, List.getElem_toArray, List.getElem_cons_zero, List.getElem_cons_succ]
    refine wpAnyH_take (i := 9) (v := ?_) rfl (by kernel_rfl) (by kernel_rfl) (by kernel_rfl) (fun _ _ _ h => h) (Or.inl ⟨by rfl, ?_⟩) (by assumption) ?_
    rotate_left 1
    · intro w ⟨s0, s1, s2, s3, s4⟩
      go_simp
      all_goals with_reducible rfl
    simp only [Act.put, List.setIfInBounds_toArray, List.set_cons_zero, List.set_cons_succ, List.getElem_toArray, List.getElem_cons_zero, List.getElem_cons_succ]
    refine wpAnyH_take (i := 10) (v := ?_) rfl (by kernel_rfl) (by kernel_rfl) (by kernel_rfl) (fun _ _ _ h => h) (Or.inl ⟨by rfl, ?_⟩) (by assumption) ?_
    rotate_left 1
    · intro w ⟨s0, s1, s2, s3, s4⟩
      go_simp
      all_goals with_reducible rfl
    simp only [Act.put, List.setIfInBounds_toArray, List.set_cons_zero, List.set_cons_succ, List.getElem_toArray, List.getElem_cons_zero, List.getElem_cons_succ]
    refine wpAnyH_take (i := 11) (v := ?_) rfl (by kernel_rfl) (by kernel_rfl) (by kernel_rfl) (fun _ _ _ h => h) (Or.inl ⟨by rfl, ?_⟩) (by assumption) ?_
    rotate_left 1
    · intro w ⟨s0, s1, s2, s3, s4⟩
      go_simp
      all_goals with_reducible rfl
    simp only [Act.put, List.setIfInBounds_toArray, List.set_cons_zero, List.set_cons_succ, List.getElem_toArray, List.getElem_cons_zero, List.getElem_cons_succ]
    refine wpAnyH_take (i := 12) (v := undef) rfl (by kernel_rfl) (by kernel_rfl) (by kernel_rfl) (fun _ _ _ h => h) (Or.inr ⟨by rfl, rfl⟩) (by assumption) ?_
    simp only [Act.put, List.setIfInBounds_toArray, List.set_cons_zero, List.set_cons_succ, List.getElem_toArray, List.getElem_cons_zero, List.getElem_cons_succ]
    refine wpAnyH_take (i := 13) (v := undef) rfl (by kernel_rfl) (by kernel_rfl) (by kernel_rfl) (fun _ _ _ h => h) (Or.inr ⟨by rfl, rfl⟩) (by assumption) ?_
    simp only [Act.put, List.setIfInBounds_toArray, List.set_cons_zero, List.set_cons_succ, List.getElem_toArray, List.getElem_cons_zero, List.getElem_cons_succ]
    refine wpAnyH_take (i := 14) (v := undef) rfl (by kernel_rfl) (by kernel_rfl) (by kernel_rfl) (fun _ _ _ h => h) (Or.inr ⟨by rfl, rfl⟩) (by assumption) ?_
    simp only [Act.put, List.setIfInBounds_toArray, List.set_cons_zero, List.set_cons_succ, List.getElem_toArray, List.getElem_cons_zero, List.getElem_cons_succ]
    refine wpAnyH_take (i := 15) (v := undef) rfl (by kernel_rfl) (by kernel_rfl) (by kernel_rfl) (fun _ _ _ h => h) (Or.inr ⟨by rfl, rfl⟩) (by assumption) ?_
    simp only [Act.put, List.setIfInBounds_toArray, List.set_cons_zero, List.set_cons_succ, List.getElem_toArray, List.getElem_cons_zero, List.getElem_cons_succ]
    refine wpAnyH_take (i := 16) (v := undef) rfl (by kernel_rfl) (by kernel_rfl) (by kernel_rfl) (fun _ _ _ h => h) (Or.inr ⟨by rfl, rfl⟩) (by assumption) ?_
    simp only [Act.put, List.setIfInBounds_toArray, List.set_cons_zero, List.set_cons_succ, List.getElem_toArray, List.getElem_cons_zero, List.getElem_cons_succ]
    refine wpAnyH_take (i := 17) (v := undef) rfl (by kernel_rfl) (by kernel_rfl) (by kernel_rfl) (fun _ _ _ h => h) (Or.inr ⟨by rfl, rfl⟩) (by assumption) ?_
    simp only [Act.put, List.setIfInBounds_toArray, List.set_cons_zero, List.set_cons_succ, List.getElem_toArray, List.getElem_cons_zero, List.getElem_cons_succ]
    refine wpAnyH_take (i := 18) (v := undef) rfl (by kernel_rfl) (by kernel_rfl) (by kernel_rfl) (fun _ _ _ h => h) (Or.inr ⟨by rfl, rfl⟩) (by assumption) ?_
    simp only [Act.put, List.setIfInBounds_toArray, List.set_cons_zero, List.set_cons_succ, List.getElem_toArray, List.getElem_cons_zero, List.getElem_cons_succ]
    refine wpAnyH_take (i := 19) (v := undef) rfl (by kernel_rfl) (by kernel_rfl) (by kernel_rfl) (fun _ _ _ h => h) (Or.inr ⟨by rfl, rfl⟩) (by assumption) ?_
    simp only [Act.put, List.setIfInBounds_toArray, List.set_cons_zero, List.set_cons_succ, List.getElem_toArray, List.getElem_cons_zero, List.getElem_cons_succ]
    refine wpAnyH_take (i := 20) (v := undef) rfl (by kernel_rfl) (by kernel_rfl) (by kernel_rfl) (fun _ _ _ h => h) (Or.inr ⟨by rfl, rfl⟩) (by assumption) ?_
    simp only [Act.put, List.setIfInBounds_toArray, List.set_cons_zero, List.set_cons_succ, List.getElem_toArray, List.getElem_cons_zero, List.getElem_cons_succ]
    refine wpAnyH_take (i := 21) (v := undef) rfl (by kernel_rfl) (by kernel_rfl) (by kernel_rfl) (fun _ _ _ h => h) (Or.inr ⟨by rfl, rfl⟩) (by assumption) ?_
    simp only [Act.put, List.setIfInBounds_toArray, List.set_cons_zero, List.set_cons_succ, List.getElem_toArray, List.getElem_cons_zero, List.getElem_cons_succ]
    refine wpAnyH_take (i := 22) (v := undef) rfl (by kernel_rfl) (by kernel_rfl) (by kernel_rfl) (fun _ _ _ h => h) (Or.inr ⟨by rfl, rfl⟩) (by assumption) ?_
    simp only [Act.put, List.setIfInBounds_toArray, List.set_cons_zero, List.set_cons_succ, List.getElem_toArray, List.getElem_cons_zero, List.getElem_cons_succ]
    refine wpAnyH_take (i := 23) (v := ?_) rfl (by kernel_rfl) (by kernel_rfl) (by kernel_rfl) (fun _ _ _ h => h) (Or.inl ⟨by rfl, ?_⟩) (by assumption) ?_
    rotate_left 1
    · intro w ⟨s0, s1, s2, s3, s4⟩
      go_simp
      all_goals with_reducible rfl
    simp only [Act.put, List.setIfInBounds_toArray, List.set_cons_zero, List.set_cons_succ, List.getElem_toArray, List.getElem_cons_zero, List.getElem_cons_succ]
    refine wpAnyH_take (i := 24) (v := ?_) rfl (by kernel_rfl) (by kernel_rfl) (by kernel_rfl) (fun _ _ _ h => h) (Or.inl ⟨by rfl, ?_⟩) (by assumption) ?_
    rotate_left 1
    · intro w ⟨s0, s1, s2, s3, s4⟩
      go_simp
      all_goals with_reducible rfl
    simp only [Act.put, List.setIfInBounds_toArray, List.set_cons_zero, List.set_cons_succ, List.getElem_toArray, List.getElem_cons_zero, List.getElem_cons_succ]
    refine wpAnyH_take (i := 25) (v := ?_) rfl (by kernel_rfl) (by kernel_rfl) (by kernel_rfl) (fun _ _ _ h => h) (Or.inl ⟨by rfl, ?_⟩) (by assumption) ?_
    rotate_left 1
    · intro w ⟨s0, s1, s2, s3, s4⟩
      go_simp
      all_goals with_reducible rfl
    simp only [Act.put, List.setIfInBounds_toArray, List.set_cons_zero, List.set_cons_succ, List.getElem_toArray, List.getElem_cons_zero, List.getElem_cons_succ]
    refine wpAnyH_take (i := 26) (v := ?_) rfl (by kernel_rfl) (by kernel_rfl) (by kernel_rfl) (fun _ _ _ h => h) (Or.inl ⟨by rfl, ?_⟩) (by assumption) ?_
    rotate_left 1
    · intro w ⟨s0, s1, s2, s3, s4⟩
      go_simp
      all_goals with_reducible rfl
    simp only [Act.put, List.setIfInBounds_toArray, List.set_cons_zero, List.set_cons_succ, List.getElem_toArray, List.getElem_cons_zero, List.getElem_cons_succ]
    refine wpAnyH_take (i := 28) (v := ?_) rfl (by kernel_rfl) (by kernel_rfl) (by kernel_rfl) (fun _ _ _ h => h) (Or.inl ⟨by rfl, ?_⟩) (by assumption) ?_
    rotate_left 1
    · intro w ⟨s0, s1, s2, s3, s4⟩
      go_simp
      all_goals with_reducible rfl
    simp only [Act.put, List.setIfInBounds_toArray, List.set_cons_zero, List.set_cons_succ, List.getElem_toArray, List.getElem_cons_zero, List.getElem_cons_succ]
    refine wpAnyH_ready (rs := [27]) (by kernel_rfl) (by simp) (AllReadyH.cons rfl (fun K hK => ?_) AllReadyH.nil)
    go_simp
    refine HF.out.mono ?_
    rintro e w1 ⟨rfl, hb1⟩
    have HB1 := hideIt (show Below w.heap.size w w1 from ((Below.refl w.heap.size w).drew).trans hb1)
    refine hK.out _ _ ?_ (fun hHeld => ?_)
    · exact HS.out w1 HB1.out
    clear hK K hb1
    refine wpAnyH_take (i := 29) (v := ?_) rfl (by kernel_rfl) (by kernel_rfl) (by kernel_rfl) (fun _ _ _ h => h) (Or.inl ⟨by rfl, ?_⟩) (by assumption) ?_
    rotate_left 1
    · intro w ⟨s0, s1, s2, s3, s4⟩
      go_simp
      all_goals with_reducible rfl
    simp only [Act.put, List.setIfInBounds_toArray, List.set_cons_zero, List.set_cons_succ, List.getElem_toArray, List.getElem_cons_zero, List.getElem_cons_succ]
    refine wpAnyH_take (i := 30) (v := ?_) rfl (by kernel_rfl) (by kernel_rfl) (by kernel_rfl) (fun _ _ _ h => h) (Or.inl ⟨by rfl, ?_⟩) (by assumption) ?_
    rotate_left 1
    · intro w ⟨s0, s1, s2, s3, s4⟩
      go_simp
      all_goals with_reducible rfl
    simp only [Act.put, List.setIfInBounds_toArray, List.set_cons_zero, List.set_cons_succ, List.getElem_toArray, List.getElem_cons_zero, List.getElem_cons_succ]
    refine wpAnyH_take (i := 31) (v := ?_) rfl (by kernel_rfl) (by kernel_rfl) (by kernel_rfl) (fun _ _ _ h => h) (Or.inl ⟨by rfl, ?_⟩) (by assumption) ?_
    rotate_left 1
    · intro w ⟨s0, s1, s2, s3, s4⟩
      go_simp
      all_goals with_reducible rfl
    simp only [Act.put, List.setIfInBounds_toArray, List.set_cons_zero, List.set_cons_succ, List.getElem_toArray, List.getElem_cons_zero, List.getElem_cons_succ]
    refine wpAnyH_done (by kernel_rfl) ?_ _
    go_wp2
    go_ret
    exact ⟨ret_boolZ R.out.symm, HB1.out⟩

end Go.Proofs.YtfojmbbhcmeejaaDoor
