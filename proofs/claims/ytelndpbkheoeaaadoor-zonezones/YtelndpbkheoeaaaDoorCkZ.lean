/-
  Packages zone's and queue's hasForm and Check, walked.
-/
import Derived.Test.YtelndpbkheoeaaaDoorMapV
import Derived.Test.YtelndpbkheoeaaaDoorJudgesWalk
import Derived.Maps.OwnOps
namespace Go.Proofs.YtelndpbkheoeaaaDoor
open Go.RowKit

/-- Who brought which value so far. -/
def wrs (d0 : Int) (l : List Opn) : Nat → Int → Option Int
  | 0 => fun _ => none
  | k + 1 => if (opZ l k).d = d0 then putK (wrs d0 l k) (opZ l k).a (some (k : Int)) else wrs d0 l k
theorem wrs_any (d0 : Int) (l : List Opn) : ∀ k, k ≤ l.length → ∀ v, (wrs d0 l k v).isSome = (l.take k).any (fun y => y.d == d0 && y.a == v)
  | 0, _, v => by simp [wrs]
  | k + 1, hk, v => by
    have ih := wrs_any d0 l k (by omega) v
    rw [List.take_succ_eq_append_getElem (by omega : k < l.length), List.any_append, ← ih, ← opZ_at (by omega : k < l.length)]
    have hw : wrs d0 l (k + 1) = if (opZ l k).d = d0 then putK (wrs d0 l k) (opZ l k).a (some (k : Int)) else wrs d0 l k := rfl
    rw [hw]
    by_cases hd : (opZ l k).d = d0
    · rw [if_pos hd]
      by_cases hv : v = (opZ l k).a
      · rw [← hv, putK_same]; simp [hd, hv]
      · rw [putK_other _ _ _ _ hv]; simp [hd, Ne.symm hv]
    · rw [if_neg hd]; simp [hd]

theorem told_num {l : List Opn} (h : Told l 0) (j : Nat) (hj : j < l.length) :
    ((-1000000 ≤ (opZ l j).a ∧ (opZ l j).a ≤ 1000000) ∧ (-1000000 ≤ (opZ l j).r ∧ (opZ l j).r ≤ 1000000)) ∧ (-1000000 ≤ (opZ l j).c ∧ (opZ l j).c ≤ 1000000) ∧ (-1000000 ≤ (opZ l j).e ∧ (opZ l j).e ≤ 1000000) := by
  have h1 := (opFault0 ((toldNil h).2 j hj)).1
  simp [rangeB, inB, numB] at h1
  omega

theorem cFault_form {form : Opn → Bool} {d0 : Int} {l : List Opn} {k : Nat} (h : ¬ ((opZ l k).k = (opZ l 0).k ∧ form (opZ l k) = true)) : cFaultAt form d0 l k = 3 := by
  unfold cFaultAt cFaultN
  rw [if_neg (by simpa using h)]
theorem cFault_other {form : Opn → Bool} {d0 : Int} {l : List Opn} {k : Nat} (h1 : (opZ l k).k = (opZ l 0).k) (h2 : form (opZ l k) = true) (h3 : (opZ l k).d ≠ d0) : cFaultAt form d0 l k = 0 := by
  unfold cFaultAt cFaultN
  rw [if_pos (by simp [h1, h2]), if_neg (by simp [h3])]
theorem cFault_twice {form : Opn → Bool} {d0 : Int} {l : List Opn} {k : Nat} (hk : k ≤ l.length) (h1 : (opZ l k).k = (opZ l 0).k) (h2 : form (opZ l k) = true) (h3 : (opZ l k).d = d0) (h4 : (wrs d0 l k (opZ l k).a).isSome = true) : cFaultAt form d0 l k = 9 := by
  rw [wrs_any d0 l k hk] at h4
  unfold cFaultAt cFaultN
  rw [if_pos (by simp [h1, h2]), if_pos (by rw [h4]; simp [h3])]
theorem cFault_first {form : Opn → Bool} {d0 : Int} {l : List Opn} {k : Nat} (hk : k ≤ l.length) (h1 : (opZ l k).k = (opZ l 0).k) (h2 : form (opZ l k) = true) (h4 : (wrs d0 l k (opZ l k).a).isSome = false) : cFaultAt form d0 l k = 0 := by
  rw [wrs_any d0 l k hk] at h4
  unfold cFaultAt cFaultN
  rw [if_pos (by simp [h1, h2]), if_neg (by rw [h4]; simp)]
theorem cTold_err {form : Opn → Bool} {d0 : Int} {l : List Opn} {m : Int} (h : Told l m) (hm : m ≠ 0) : CTold form d0 l m := ⟨m, h, .inl ⟨hm, rfl⟩⟩
theorem cTold_at {form : Opn → Bool} {d0 : Int} {l : List Opn} (h : Told l 0) {k : Nat} (hk : k < l.length) (ha : ∀ j, j < k → cFaultAt form d0 l j = 0) {n : Int} (hn : cFaultAt form d0 l k = n) (h0 : n ≠ 0) : CTold form d0 l n :=
  ⟨0, h, .inr ⟨rfl, .inr ⟨k, hk, ha, by rw [hn]; exact h0, hn.symm⟩⟩⟩
theorem cTold_all {form : Opn → Bool} {d0 : Int} {l : List Opn} (h : Told l 0) (ha : ∀ j, j < l.length → cFaultAt form d0 l j = 0) : CTold form d0 l 0 := ⟨0, h, .inr ⟨rfl, .inl ⟨ha, rfl⟩⟩⟩
theorem fine_succ {f : Nat → Int} {k : Nat} (ha : ∀ j, j < k → f j = 0) (h : f k = 0) : ∀ j, j < k + 1 → f j = 0 := fun j hj => by
  by_cases e : j = k
  · subst e; exact h
  · exact ha j (by omega)

theorem ret_boolZ {a b : Bool} (h : a = b) : Ending.returned (.bool a) = .returned (.bool b) := by rw [h]

set_option maxHeartbeats 400000 in
theorem zForm_any (x : Opn) (w : World) : Calls Tryd.prog 26 #[x.agg] w fun e w' => e = .returned (.bool (zFormB x)) ∧ Below w.heap.size w w' := by
  unfold Opn.agg
  go_enter Tryd.func26, Tryd.ntmps26
  go_wp2
  all_goals (go_ret; exact ⟨ret_boolZ (by simp_all [zFormB] <;> omega), belA (Below.refl _ _) _⟩)

theorem zeroInt (w : World) : (zeroValue 3).run Tryd.prog w = .ok (.int .i64 0) w := by kernel_rfl

set_option maxHeartbeats 2000000 in
theorem zCheck_some (l : List Opn) (b off cap : Nat) (w : World) (hlen : l.length ≤ 60) (h0 : 0 < l.length) (hcap : l.length ≤ cap) (hl : OpsAt w b off l) (hb : b < w.heap.size) :
    Calls Tryd.prog 10 #[.slice (some ⟨b, off, none⟩) l.length cap] w fun e w' => ∃ n, e = .returned (toldV n) ∧ CTold zFormB 2 l n ∧ Below w.heap.size w w' := by
  have HL : Hid (OpsAt w b off l) := hl
  have HC : Hid (∀ W, Below w.heap.size w W → Calls Tryd.prog 25 #[.slice (some ⟨b, off, none⟩) l.length cap] W fun e w' => ∃ n, e = .returned (toldV n) ∧ Told l n ∧ Below W.heap.size W w') := fun W hW => checkOps_any l b off cap W hlen hcap (HL.out.below hb hW) (Nat.lt_of_lt_of_le hb hW.size)
  clear hl
  go_enter Tryd.func10, Tryd.ntmps10
  go_wp2_with fail
  refine (HC.out _ (Below.refl _ _)).mono ?_
  rintro e w1 ⟨n, rfl, ht, hb1⟩
  by_cases hn : n = 0
  · subst hn
    have HT : Hid (Told l 0) := ht
    have HB1 := hideIt hb1
    clear ht hb1 HC
    rw [show toldV 0 = .nilIface from by simp [toldV]]
    have hmm := @run_makeMap Tryd.prog
    go_wp2
    clear hmm
    go_loopw [17] (fun i wr => ∃ k : Nat, k ≤ l.length ∧ i = .int .i64 k ∧ (∀ j, j < k → cFaultAt zFormB 2 l j = 0) ∧ MapV Tryd.prog (Value.int .i64) wr w1.heap.size k (wrs 2 l k) ∧ Below w1.heap.size w1 wr) (fun i _ => l.length - (intOf i).toNat)
    case atStart => exact ⟨0, Nat.zero_le _, rfl, fun j hj => absurd hj (by omega), mapV_made _ _ _, belA (Below.refl _ _) _⟩
    case round =>
      obtain ⟨k, hk, rfl, ha, hm, hnx⟩ := hrel
      have HA : Hid (∀ j, j < k → cFaultAt zFormB 2 l j = 0) := ha
      have HM := hideIt hm
      have HNX := hideIt hnx
      have hbw : b < w1.heap.size := Nat.lt_of_lt_of_le hb HB1.out.size
      have HMlt : Hid (w1.heap.size < wr.heap.size) := hm.lt
      clear ha hm
      by_cases hkl : k < l.length
      · obtain ⟨c0, c1, c2, c3, c4, c5, c6, c7⟩ := ((HL.out.below hb HB1.out) k hkl).below hbw hnx
        have g1 : wr.cell? ⟨b, off + 1, none⟩ = some (.int .i64 l[0].k) := by have := (((HL.out.below hb HB1.out) 0 h0).below hbw hnx).2.1; rwa [Nat.zero_mul, Nat.add_zero] at this
        have hpos : (0 : Int) < (l.length : Int) := by omega
        have hbl : b < wr.heap.size := Nat.lt_of_lt_of_le hbw hnx.size
        have g1' : ∀ o : Obj, (wr.alloc o).cell? ⟨b, off + 1, none⟩ = some (.int .i64 l[0].k) := fun o => by rw [World.cell?_alloc_lt _ _ ⟨b, off + 1, none⟩ hbl]; exact g1
        have HX : Hid (opZ l k = l[k]) := opZ_at hkl
        have HX0 : Hid (opZ l 0 = l[0]) := opZ_at h0
        have HNum := hideIt (told_num HT.out k hkl)
        rw [HX.out] at HNum
        have HK0 : Hid ((opZ l 0).k = l[0].k) := congrArg Opn.k HX0.out
        rw [← HK0.out] at g1 g1'
        clear HX0
        generalize l[k] = x at c0 c1 c2 c3 c4 c5 c6 c7 HX HNum
        have HF : Hid (∀ W, Calls Tryd.prog 26 #[x.agg] W fun e w' => e = .returned (.bool (zFormB x)) ∧ Below W.heap.size W w') := fun W => zForm_any x W
        have HKeep : Hid (∀ W, Below wr.heap.size wr W → MapV Tryd.prog (Value.int .i64) W w1.heap.size k (wrs 2 l k) ∧ Below w1.heap.size w1 W) := fun W hW => ⟨HM.out.below hW HMlt.out, HNX.out.trans (hW.mono HNX.out.size)⟩
        obtain ⟨k0, HK⟩ : ∃ k0, Hid ((opZ l 0).k = k0) := ⟨_, hideIt rfl⟩
        rw [HK.out] at g1 g1'
        by_cases hkey : x.k = k0
        · have hkey' : (x.k != k0) = false := by simp [hkey]
          have HKey := hideIt hkey
          clear hkey
          obtain ⟨fb, HFB⟩ : ∃ fb, Hid (zFormB x = fb) := ⟨_, hideIt rfl⟩
          rw [HFB.out] at HF
          go_wp2_with fail
          go_region_with (go_at_call 26; refine (HF.out _).mono ?_; rintro e w2 ⟨rfl, hb2⟩)
          all_goals
            have HB2 := hideIt (show Below wr.heap.size wr w2 from belJ (by repeat (first | exact Below.refl _ _ | refine Below.drew ?_ | refine belA ?_ _)) hb2)
            have e3 : w2.cell? ⟨wr.heap.size, 3, none⟩ = some (.int .i64 x.a) := by rw [hb2.cell (p := ⟨wr.heap.size, 3, none⟩) (by simp)]; simp
            have e2 : w2.cell? ⟨wr.heap.size, 2, none⟩ = some (.int .i64 x.d) := by rw [hb2.cell (p := ⟨wr.heap.size, 2, none⟩) (by simp)]; simp
            have HM2 := hideIt (HKeep.out w2 HB2.out)
            clear hb2 c0 c1 c2 c3 c4 c5 c6 c7 g1 g1'
            cases fb
            · have R1 : Hid (CTold zFormB 2 l 3) := cTold_at HT.out hkl HA.out (cFault_form (by rw [HX.out, HFB.out]; simp)) (by decide)
              go_wp2
              go_ret
              exact ⟨3, by simp [toldV], R1.out, belJ HB1.out HM2.out.2⟩
            · by_cases hd : x.d = 2
              · have hd' : (x.d != 2) = false := by simp [hd]
                have HD := hideIt hd
                clear hd
                have hwf : (Lit.int .i64 x.a).wf = true := WalkArith.wf_i64 (by have := HNum.out; omega)
                cases hs : wrs 2 l k x.a with
                | none =>
                  have R1 : Hid (∀ j, j < k + 1 → cFaultAt zFormB 2 l j = 0) := fine_succ HA.out (cFault_first hk (by rw [HX.out, HK.out]; exact HKey.out) (by rw [HX.out]; exact HFB.out) (by rw [HX.out, hs]; rfl))
                  have R3 : Hid (wrs 2 l (k + 1) = putK (wrs 2 l k) x.a (some (k : Int))) := by
                    show (if (opZ l k).d = 2 then _ else _) = _
                    rw [HX.out, if_pos HD.out]
                  have HS := hideIt hs
                  clear hs
                  go_wp2_with (first | (at_lookup; refine wpList_look_none _ Tryd.underlying3 rfl _ _ rfl Tryd.underlying66 _ _ _ (zeroInt _) rfl HM2.out.1 _ rfl hwf HS.out ?_) | (at_mapUpdate; refine wpList_store_v _ Tryd.underlying3 rfl _ _ _ _ rfl _ Tryd.underlying66 _ _ _ rfl HM2.out.1 (by omega) _ rfl hwf (k : Int) rfl ?_; intro w3 hm3 hg3))
                  go_roundw
                  case rel => exact ⟨k + 1, by omega, by go_num, R1.out, by rw [R3.out]; exact hm3, HM2.out.2.grown hg3 HM2.out.2.size (fun j hj => by cases hj; exact Nat.le_refl _)⟩
                  case measure => simp [intOf]; omega
                | some n =>
                  have R1 : Hid (CTold zFormB 2 l 9) := cTold_at HT.out hkl HA.out (cFault_twice hk (by rw [HX.out, HK.out]; exact HKey.out) (by rw [HX.out]; exact HFB.out) (by rw [HX.out]; exact HD.out) (by rw [HX.out, hs]; rfl)) (by decide)
                  have HS := hideIt hs
                  clear hs
                  go_wp2_with (at_lookup; refine wpList_look_some _ Tryd.underlying3 rfl _ _ rfl Tryd.underlying66 _ _ _ (zeroInt _) rfl HM2.out.1 _ rfl hwf n HS.out ?_)
                  go_ret
                  exact ⟨9, by simp [toldV], R1.out, belJ HB1.out HM2.out.2⟩
              · have hd' : (x.d != 2) = true := by simp [hd]
                have R1 : Hid (∀ j, j < k + 1 → cFaultAt zFormB 2 l j = 0) := fine_succ HA.out (cFault_other (by rw [HX.out, HK.out]; exact HKey.out) (by rw [HX.out]; exact HFB.out) (by rw [HX.out]; exact hd))
                have R3 : Hid (wrs 2 l (k + 1) = wrs 2 l k) := by
                  show (if (opZ l k).d = 2 then _ else _) = _
                  rw [HX.out, if_neg hd]
                clear hd
                go_wp2
                go_roundw
                case rel => exact ⟨k + 1, by omega, by go_num, R1.out, by rw [R3.out]; exact HM2.out.1.mono (by omega), HM2.out.2⟩
                case measure => simp [intOf]; omega
        · have hkey' : (x.k != k0) = true := by simp [hkey]
          have R1 : Hid (CTold zFormB 2 l 3) := cTold_at HT.out hkl HA.out (cFault_form (by rw [HX.out, HK.out]; exact fun h => hkey h.1)) (by decide)
          clear hkey
          go_wp2_with fail
          go_region_with fail
          all_goals
            go_wp2
            go_ret
            exact ⟨3, by simp [toldV], R1.out, belJ HB1.out (by repeat (first | exact HNX.out | refine Below.drew ?_ | refine belA ?_ _))⟩
      · have R1 : Hid (CTold zFormB 2 l 0) := cTold_all HT.out fun j hj => HA.out j (by omega)
        have R2 := hideIt (belJ HB1.out HNX.out)
        go_wp2
        go_ret
        exact ⟨0, by simp [toldV], R1.out, R2.out⟩
  · have HT := hideIt (cTold_err (form := zFormB) (d0 := 2) ht hn)
    rw [show toldV n = .iface 24 (.int .i64 n) from by simp [toldV, hn]]
    go_wp2
    go_ret
    exact ⟨n, by rw [show toldV n = .iface 24 (.int .i64 n) from by simp [toldV, hn]]; rfl, HT.out, hb1⟩

end Go.Proofs.YtelndpbkheoeaaaDoor
