/-
  Package queue's hasForm and Check, walked.
  Package queue's lives, walked.
-/
import Derived.Test.YtelndpbkheoeaaaDoorCkZ
import Derived.Test.YtelndpbkheoeaaaDoorZnPZ
import Derived.Laws.Rows
namespace Go.Proofs.YtelndpbkheoeaaaDoor
open Go.RowKit

/-- Ops that came in, or none. -/
def OpsQ (w : World) (a : Option Addr) (l : List Opn) : Prop := l = [] ∨ ∃ b off, a = some ⟨b, off, none⟩ ∧ b < w.heap.size ∧ OpsAt w b off l
theorem OpsQ.below {w w' : World} {a : Option Addr} {l : List Opn} (h : OpsQ w a l) (hb : Below w.heap.size w w') : OpsQ w' a l := by
  rcases h with h | ⟨b, off, rfl, hlt, h⟩
  · exact .inl h
  · exact .inr ⟨b, off, rfl, Nat.lt_of_lt_of_le hlt hb.size, h.below hlt hb⟩
theorem told_nilQ : Told [] 0 := .inr (.inl ⟨by simp, fun j h => absurd h (by simp), rfl⟩)

set_option maxHeartbeats 400000 in
theorem qForm_any (x : Opn) (w : World) : Calls Tryd.prog 33 #[x.agg] w fun e w' => e = .returned (.bool (qFormB x)) ∧ Below w.heap.size w w' := by
  unfold Opn.agg
  go_enter Tryd.func33, Tryd.ntmps33
  go_wp2
  all_goals (go_ret; exact ⟨ret_boolZ (by simp_all [qFormB] <;> omega), belA (Below.refl _ _) _⟩)

set_option maxHeartbeats 2000000 in
theorem qCheck_some (l : List Opn) (b off cap : Nat) (w : World) (hlen : l.length ≤ 60) (h0 : 0 < l.length) (hcap : l.length ≤ cap) (hl : OpsAt w b off l) (hb : b < w.heap.size) :
    Calls Tryd.prog 17 #[.slice (some ⟨b, off, none⟩) l.length cap] w fun e w' => ∃ n, e = .returned (toldV n) ∧ CTold qFormB 9 l n ∧ Below w.heap.size w w' := by
  have HL : Hid (OpsAt w b off l) := hl
  have HC : Hid (∀ W, Below w.heap.size w W → Calls Tryd.prog 25 #[.slice (some ⟨b, off, none⟩) l.length cap] W fun e w' => ∃ n, e = .returned (toldV n) ∧ Told l n ∧ Below W.heap.size W w') := fun W hW => checkOps_any l b off cap W hlen hcap (HL.out.below hb hW) (Nat.lt_of_lt_of_le hb hW.size)
  clear hl
  go_enter Tryd.func17, Tryd.ntmps17
  go_wp2_with fail
  refine (HC.out _ (Below.refl _ _)).mono ?_
  rintro e w1 ⟨n, rfl, ht, hb1⟩
  by_cases hn : n = 0
  · subst hn
    have HT : Hid (Told l 0) := ht
    have HB1 := hideIt hb1
    clear ht hb1 HC
    rw [show toldV 0 = .nilIface from by simp [toldV]]
    have hmm := @run_makeMap Tryd.prog
    go_wp2
    clear hmm
    go_loopw [17] (fun i wr => ∃ k : Nat, k ≤ l.length ∧ i = .int .i64 k ∧ (∀ j, j < k → cFaultAt qFormB 9 l j = 0) ∧ MapV Tryd.prog (Value.int .i64) wr w1.heap.size k (wrs 9 l k) ∧ Below w1.heap.size w1 wr) (fun i _ => l.length - (intOf i).toNat)
    case atStart => exact ⟨0, Nat.zero_le _, rfl, fun j hj => absurd hj (by omega), mapV_made _ _ _, belA (Below.refl _ _) _⟩
    case round =>
      obtain ⟨k, hk, rfl, ha, hm, hnx⟩ := hrel
      have HA : Hid (∀ j, j < k → cFaultAt qFormB 9 l j = 0) := ha
      have HM := hideIt hm
      have HNX := hideIt hnx
      have hbw : b < w1.heap.size := Nat.lt_of_lt_of_le hb HB1.out.size
      have HMlt : Hid (w1.heap.size < wr.heap.size) := hm.lt
      clear ha hm
      by_cases hkl : k < l.length
      · obtain ⟨c0, c1, c2, c3, c4, c5, c6, c7⟩ := ((HL.out.below hb HB1.out) k hkl).below hbw hnx
        have g1 : wr.cell? ⟨b, off + 1, none⟩ = some (.int .i64 l[0].k) := by have := (((HL.out.below hb HB1.out) 0 h0).below hbw hnx).2.1; rwa [Nat.zero_mul, Nat.add_zero] at this
        have hpos : (0 : Int) < (l.length : Int) := by omega
        have hbl : b < wr.heap.size := Nat.lt_of_lt_of_le hbw hnx.size
        have g1' : ∀ o : Obj, (wr.alloc o).cell? ⟨b, off + 1, none⟩ = some (.int .i64 l[0].k) := fun o => by rw [World.cell?_alloc_lt _ _ ⟨b, off + 1, none⟩ hbl]; exact g1
        have HX : Hid (opZ l k = l[k]) := opZ_at hkl
        have HX0 : Hid (opZ l 0 = l[0]) := opZ_at h0
        have HNum := hideIt (told_num HT.out k hkl)
        rw [HX.out] at HNum
        have HK0 : Hid ((opZ l 0).k = l[0].k) := congrArg Opn.k HX0.out
        rw [← HK0.out] at g1 g1'
        clear HX0
        generalize l[k] = x at c0 c1 c2 c3 c4 c5 c6 c7 HX HNum
        have HF : Hid (∀ W, Calls Tryd.prog 33 #[x.agg] W fun e w' => e = .returned (.bool (qFormB x)) ∧ Below W.heap.size W w') := fun W => qForm_any x W
        have HKeep : Hid (∀ W, Below wr.heap.size wr W → MapV Tryd.prog (Value.int .i64) W w1.heap.size k (wrs 9 l k) ∧ Below w1.heap.size w1 W) := fun W hW => ⟨HM.out.below hW HMlt.out, HNX.out.trans (hW.mono HNX.out.size)⟩
        obtain ⟨k0, HK⟩ : ∃ k0, Hid ((opZ l 0).k = k0) := ⟨_, hideIt rfl⟩
        rw [HK.out] at g1 g1'
        by_cases hkey : x.k = k0
        · have hkey' : (x.k != k0) = false := by simp [hkey]
          have HKey := hideIt hkey
          clear hkey
          obtain ⟨fb, HFB⟩ : ∃ fb, Hid (qFormB x = fb) := ⟨_, hideIt rfl⟩
          rw [HFB.out] at HF
          go_wp2_with fail
          go_region_with (go_at_call 33; refine (HF.out _).mono ?_; rintro e w2 ⟨rfl, hb2⟩)
          all_goals
            have HB2 := hideIt (show Below wr.heap.size wr w2 from belJ (by repeat (first | exact Below.refl _ _ | refine Below.drew ?_ | refine belA ?_ _)) hb2)
            have e3 : w2.cell? ⟨wr.heap.size, 3, none⟩ = some (.int .i64 x.a) := by rw [hb2.cell (p := ⟨wr.heap.size, 3, none⟩) (by simp)]; simp
            have e2 : w2.cell? ⟨wr.heap.size, 2, none⟩ = some (.int .i64 x.d) := by rw [hb2.cell (p := ⟨wr.heap.size, 2, none⟩) (by simp)]; simp
            have HM2 := hideIt (HKeep.out w2 HB2.out)
            clear hb2 c0 c1 c2 c3 c4 c5 c6 c7 g1 g1'
            cases fb
            · have R1 : Hid (CTold qFormB 9 l 3) := cTold_at HT.out hkl HA.out (cFault_form (by rw [HX.out, HFB.out]; simp)) (by decide)
              go_wp2
              go_ret
              exact ⟨3, by simp [toldV], R1.out, belJ HB1.out HM2.out.2⟩
            · by_cases hd : x.d = 9
              · have hd' : (x.d != 9) = false := by simp [hd]
                have HD := hideIt hd
                clear hd
                have hwf : (Lit.int .i64 x.a).wf = true := WalkArith.wf_i64 (by have := HNum.out; omega)
                cases hs : wrs 9 l k x.a with
                | none =>
                  have R1 : Hid (∀ j, j < k + 1 → cFaultAt qFormB 9 l j = 0) := fine_succ HA.out (cFault_first hk (by rw [HX.out, HK.out]; exact HKey.out) (by rw [HX.out]; exact HFB.out) (by rw [HX.out, hs]; rfl))
                  have R3 : Hid (wrs 9 l (k + 1) = putK (wrs 9 l k) x.a (some (k : Int))) := by
                    show (if (opZ l k).d = 9 then _ else _) = _
                    rw [HX.out, if_pos HD.out]
                  have HS := hideIt hs
                  clear hs
                  go_wp2_with (first | (at_lookup; refine wpList_look_none _ Tryd.underlying3 rfl _ _ rfl Tryd.underlying66 _ _ _ (zeroInt _) rfl HM2.out.1 _ rfl hwf HS.out ?_) | (at_mapUpdate; refine wpList_store_v _ Tryd.underlying3 rfl _ _ _ _ rfl _ Tryd.underlying66 _ _ _ rfl HM2.out.1 (by omega) _ rfl hwf (k : Int) rfl ?_; intro w3 hm3 hg3))
                  go_roundw
                  case rel => exact ⟨k + 1, by omega, by go_num, R1.out, by rw [R3.out]; exact hm3, HM2.out.2.grown hg3 HM2.out.2.size (fun j hj => by cases hj; exact Nat.le_refl _)⟩
                  case measure => simp [intOf]; omega
                | some n =>
                  have R1 : Hid (CTold qFormB 9 l 9) := cTold_at HT.out hkl HA.out (cFault_twice hk (by rw [HX.out, HK.out]; exact HKey.out) (by rw [HX.out]; exact HFB.out) (by rw [HX.out]; exact HD.out) (by rw [HX.out, hs]; rfl)) (by decide)
                  have HS := hideIt hs
                  clear hs
                  go_wp2_with (at_lookup; refine wpList_look_some _ Tryd.underlying3 rfl _ _ rfl Tryd.underlying66 _ _ _ (zeroInt _) rfl HM2.out.1 _ rfl hwf n HS.out ?_)
                  go_ret
                  exact ⟨9, by simp [toldV], R1.out, belJ HB1.out HM2.out.2⟩
              · have hd' : (x.d != 9) = true := by simp [hd]
                have R1 : Hid (∀ j, j < k + 1 → cFaultAt qFormB 9 l j = 0) := fine_succ HA.out (cFault_other (by rw [HX.out, HK.out]; exact HKey.out) (by rw [HX.out]; exact HFB.out) (by rw [HX.out]; exact hd))
                have R3 : Hid (wrs 9 l (k + 1) = wrs 9 l k) := by
                  show (if (opZ l k).d = 9 then _ else _) = _
                  rw [HX.out, if_neg hd]
                clear hd
                go_wp2
                go_roundw
                case rel => exact ⟨k + 1, by omega, by go_num, R1.out, by rw [R3.out]; exact HM2.out.1.mono (by omega), HM2.out.2⟩
                case measure => simp [intOf]; omega
        · have hkey' : (x.k != k0) = true := by simp [hkey]
          have R1 : Hid (CTold qFormB 9 l 3) := cTold_at HT.out hkl HA.out (cFault_form (by rw [HX.out, HK.out]; exact fun h => hkey h.1)) (by decide)
          clear hkey
          go_wp2_with fail
          go_region_with fail
          all_goals
            go_wp2
            go_ret
            exact ⟨3, by simp [toldV], R1.out, belJ HB1.out (by repeat (first | exact HNX.out | refine Below.drew ?_ | refine belA ?_ _))⟩
      · have R1 : Hid (CTold qFormB 9 l 0) := cTold_all HT.out fun j hj => HA.out j (by omega)
        have R2 := hideIt (belJ HB1.out HNX.out)
        go_wp2
        go_ret
        exact ⟨0, by simp [toldV], R1.out, R2.out⟩
  · have HT := hideIt (cTold_err (form := qFormB) (d0 := 9) ht hn)
    rw [show toldV n = .iface 24 (.int .i64 n) from by simp [toldV, hn]]
    go_wp2
    go_ret
    exact ⟨n, by rw [show toldV n = .iface 24 (.int .i64 n) from by simp [toldV, hn]]; rfl, HT.out, hb1⟩

set_option maxHeartbeats 400000 in
theorem qCheck_none (a : Option Addr) (cap : Nat) (w : World) : Calls Tryd.prog 17 #[.slice a 0 cap] w fun e w' => e = .returned (toldV 0) ∧ Below w.heap.size w w' := by
  have hmm := @run_makeMap Tryd.prog
  go_enter Tryd.func17, Tryd.ntmps17
  go_wp2_with (go_at_call 25; refine (checkOps_none a cap _).mono ?_; rintro e w' ⟨rfl, rfl⟩; rw [show toldV 0 = .nilIface from by simp [toldV]])
  clear hmm
  refine wp_loop_rounds 1 ?_
  rw [rounds_succ]
  go_wp2
  go_ret
  exact ⟨by simp [toldV], belA (Below.refl _ _) _⟩

theorem qCheck_any (l : List Opn) (a : Option Addr) (cap : Nat) (w : World) (hlen : l.length ≤ 60) (hcap : l.length ≤ cap) (hl : OpsQ w a l) :
    Calls Tryd.prog 17 #[.slice a l.length cap] w fun e w' => ∃ n, e = .returned (toldV n) ∧ CTold qFormB 9 l n ∧ Below w.heap.size w w' := by
  rcases hl with rfl | ⟨b, off, rfl, hb, hl⟩
  · exact (qCheck_none a cap w).mono fun e w' ⟨he, hw⟩ => ⟨0, he, cTold_all told_nilQ (fun j hj => absurd hj (by simp)), hw⟩
  · by_cases h0 : 0 < l.length
    · exact qCheck_some l b off cap w hlen h0 hcap hl hb
    · obtain rfl : l = [] := List.length_eq_zero_iff.1 (by omega)
      exact (qCheck_none _ cap w).mono fun e w' ⟨he, hw⟩ => ⟨0, he, cTold_all told_nilQ (fun j hj => absurd hj (by simp)), hw⟩

end Go.Proofs.YtelndpbkheoeaaaDoor

namespace Go.Proofs.YtelndpbkheoeaaaDoor
open Go.RowKit

def Life.val (s : Life) : Value := .agg #[.int .i64 s.push, .int .i64 s.pop, .int .i64 s.again]
theorem zeroLife (w : World) : (zeroValue 90).run Tryd.prog w = .ok (.agg #[.int .i64 0, .int .i64 0, .int .i64 0]) w := by kernel_rfl
theorem heap_lastQ (w : World) (o : Obj) {n : Nat} (h : n = w.heap.size) : (w.alloc o).heap[n]? = some o := by rw [h]; exact heap_alloc_new w o

set_option maxHeartbeats 400000 in
theorem lifeMore_any (s : Life) (n d : Int) (w : World) : Calls Tryd.prog 44 #[s.val, .int .i64 n, .int .i64 d] w fun e w' => e = .returned (s.more n d).val ∧ Below w.heap.size w w' := by
  unfold Life.val
  go_enter Tryd.func44, Tryd.ntmps44
  go_wp2
  all_goals
    (try simp only [Exit.inBlock, Exit.then])
    refine bodyPost_ret (results_cell_row rfl _ _ _ 90 _ _ _ rfl (heap_lastQ _ _ (by simp)) Tryd.underlying90 rfl (by kernel_rfl)) rfl ?_
    refine ⟨?_, belA (belA (Below.refl _ _) _) _⟩
    simp_all [Life.more]

set_option maxHeartbeats 2000000 in
theorem lives_any (l : List Opn) (a : Option Addr) (cap : Nat) (w : World) (hlen : l.length ≤ 60) (hl : OpsQ w a l) (ht : Told l 0) :
    Calls Tryd.prog 30 #[.slice a l.length cap] w fun e w' => ∃ M, e = .returned (.map (some M)) ∧ w.heap.size ≤ M ∧ MapV Tryd.prog Life.val w' M l.length (lvs l l.length) ∧ Below w.heap.size w w' := by
  have HL := hideIt hl
  have HT := hideIt ht
  clear hl ht
  have hmm := @run_makeMap Tryd.prog
  go_enter Tryd.func30, Tryd.ntmps30
  go_wp2
  clear hmm
  go_loopw [12] (fun i wr => ∃ k : Nat, k ≤ l.length ∧ i = .int .i64 k ∧ MapV Tryd.prog Life.val wr w.heap.size k (lvs l k) ∧ Below w.heap.size w wr) (fun i _ => l.length - (intOf i).toNat)
  case atStart => exact ⟨0, Nat.zero_le _, rfl, mapV_made _ _ _, belA (Below.refl _ _) _⟩
  case round =>
    obtain ⟨k, hk, rfl, hm, hnx⟩ := hrel
    have HM := hideIt hm
    have HNX := hideIt hnx
    have HMlt : Hid (w.heap.size < wr.heap.size) := hm.lt
    clear hm
    by_cases hkl : k < l.length
    · rcases HL.out with e | ⟨b, off, rfl, hb, HO⟩
      · subst e; simp at hkl
      · have HOO := hideIt HO
        clear HO
        obtain ⟨c0, c1, c2, c3, c4, c5, c6, c7⟩ := (HOO.out k hkl).below hb hnx
        have HX : Hid (opZ l k = l[k]) := opZ_at hkl
        have HNum := hideIt (told_num HT.out k hkl)
        rw [HX.out] at HNum
        generalize l[k] = x at c0 c1 c2 c3 c4 c5 c6 c7 HX HNum
        have HKeep : Hid (∀ W, Below wr.heap.size wr W → MapV Tryd.prog Life.val W w.heap.size k (lvs l k) ∧ Below w.heap.size w W) := fun W hW => ⟨HM.out.below hW HMlt.out, HNX.out.trans (hW.mono HNX.out.size)⟩
        have HV : Hid (∀ s', ((lvs l k (valQ x)).getD life0).more k x.d = s' → lvs l (k + 1) = putK (lvs l k) (valQ x) (some s')) := fun s' hs => by
          show putK (lvs l k) (valQ (opZ l k)) _ = _
          rw [HX.out, hs]
        have hwfv : (Lit.int .i64 (valQ x)).wf = true := WalkArith.wf_i64 (by have := HNum.out; unfold valQ; split <;> omega)
        have HMO : Hid (∀ (s : Life) W, Calls Tryd.prog 44 #[.agg #[.int .i64 s.push, .int .i64 s.pop, .int .i64 s.again], .int .i64 k, .int .i64 x.d] W fun e w' => e = .returned (.agg #[.int .i64 (s.more k x.d).push, .int .i64 (s.more k x.d).pop, .int .i64 (s.more k x.d).again]) ∧ Below W.heap.size W w') := fun s W => lifeMore_any s k x.d W
        by_cases hd : x.d = 10
        · have hd' : (x.d == 10) = true := by simp [hd]
          have hvq : valQ x = x.r := by unfold valQ; rw [if_pos hd]
          rw [hvq] at HV hwfv
          clear hd hvq
          cases hs : lvs l k x.r with
          | none =>
            have HS := hideIt hs
            have R3 := hideIt (HV.out (Life.more life0 k x.d) (by rw [hs]; rfl))
            have HM1 := hideIt (HMO.out life0)
            generalize Life.more life0 k x.d = s' at R3 HM1
            unfold life0 at HM1
            clear hs HV HMO
            go_wp2_with (at_lookup; refine wpList_look_none _ Tryd.underlying3 rfl _ _ rfl Tryd.underlying72 _ _ _ (zeroLife _) rfl (HM.out.alloc _) _ rfl hwfv HS.out ?_)
            refine (HM1.out _).mono ?_
            rintro e w4 ⟨rfl, hb4⟩
            have HB4 := hideIt (HKeep.out w4 (belJ (belA (belA (Below.refl _ _) _) _) hb4))
            clear hb4
            go_wp2_with (at_mapUpdate; refine wpList_store_v _ Tryd.underlying3 rfl _ _ _ _ rfl _ Tryd.underlying72 _ _ _ rfl HB4.out.1 (by omega) _ rfl hwfv s' rfl ?_; intro w5 hm5 hg5)
            go_roundw
            case rel => exact ⟨k + 1, by omega, by go_num, by rw [R3.out]; exact hm5, HB4.out.2.grown hg5 HB4.out.2.size (fun j hj => by cases hj; exact Nat.le_refl _)⟩
            case measure => simp [intOf]; omega
          | some s =>
            have HS := hideIt hs
            have R3 := hideIt (HV.out (s.more k x.d) (by rw [hs]; rfl))
            have HM1 := hideIt (HMO.out s)
            generalize s.more k x.d = s' at R3 HM1
            clear hs HV HMO
            go_wp2_with (at_lookup; refine wpList_look_some (mk := Life.val) _ Tryd.underlying3 rfl _ _ rfl Tryd.underlying72 _ _ _ (zeroLife _) rfl (HM.out.alloc _) _ rfl hwfv s HS.out ?_; unfold Life.val)
            refine (HM1.out _).mono ?_
            rintro e w4 ⟨rfl, hb4⟩
            have HB4 := hideIt (HKeep.out w4 (belJ (belA (belA (Below.refl _ _) _) _) hb4))
            clear hb4
            go_wp2_with (at_mapUpdate; refine wpList_store_v _ Tryd.underlying3 rfl _ _ _ _ rfl _ Tryd.underlying72 _ _ _ rfl HB4.out.1 (by omega) _ rfl hwfv s' rfl ?_; intro w5 hm5 hg5)
            go_roundw
            case rel => exact ⟨k + 1, by omega, by go_num, by rw [R3.out]; exact hm5, HB4.out.2.grown hg5 HB4.out.2.size (fun j hj => by cases hj; exact Nat.le_refl _)⟩
            case measure => simp [intOf]; omega
        · have hd' : (x.d == 10) = false := by simp [hd]
          have hvq : valQ x = x.a := by unfold valQ; rw [if_neg hd]
          rw [hvq] at HV hwfv
          clear hd hvq
          cases hs : lvs l k x.a with
          | none =>
            have HS := hideIt hs
            have R3 := hideIt (HV.out (Life.more life0 k x.d) (by rw [hs]; rfl))
            have HM1 := hideIt (HMO.out life0)
            generalize Life.more life0 k x.d = s' at R3 HM1
            unfold life0 at HM1
            clear hs HV HMO
            go_wp2_with (at_lookup; refine wpList_look_none _ Tryd.underlying3 rfl _ _ rfl Tryd.underlying72 _ _ _ (zeroLife _) rfl (HM.out.alloc _) _ rfl hwfv HS.out ?_)
            refine (HM1.out _).mono ?_
            rintro e w4 ⟨rfl, hb4⟩
            have HB4 := hideIt (HKeep.out w4 (belJ (belA (belA (Below.refl _ _) _) _) hb4))
            clear hb4
            go_wp2_with (at_mapUpdate; refine wpList_store_v _ Tryd.underlying3 rfl _ _ _ _ rfl _ Tryd.underlying72 _ _ _ rfl HB4.out.1 (by omega) _ rfl hwfv s' rfl ?_; intro w5 hm5 hg5)
            go_roundw
            case rel => exact ⟨k + 1, by omega, by go_num, by rw [R3.out]; exact hm5, HB4.out.2.grown hg5 HB4.out.2.size (fun j hj => by cases hj; exact Nat.le_refl _)⟩
            case measure => simp [intOf]; omega
          | some s =>
            have HS := hideIt hs
            have R3 := hideIt (HV.out (s.more k x.d) (by rw [hs]; rfl))
            have HM1 := hideIt (HMO.out s)
            generalize s.more k x.d = s' at R3 HM1
            clear hs HV HMO
            go_wp2_with (at_lookup; refine wpList_look_some (mk := Life.val) _ Tryd.underlying3 rfl _ _ rfl Tryd.underlying72 _ _ _ (zeroLife _) rfl (HM.out.alloc _) _ rfl hwfv s HS.out ?_; unfold Life.val)
            refine (HM1.out _).mono ?_
            rintro e w4 ⟨rfl, hb4⟩
            have HB4 := hideIt (HKeep.out w4 (belJ (belA (belA (Below.refl _ _) _) _) hb4))
            clear hb4
            go_wp2_with (at_mapUpdate; refine wpList_store_v _ Tryd.underlying3 rfl _ _ _ _ rfl _ Tryd.underlying72 _ _ _ rfl HB4.out.1 (by omega) _ rfl hwfv s' rfl ?_; intro w5 hm5 hg5)
            go_roundw
            case rel => exact ⟨k + 1, by omega, by go_num, by rw [R3.out]; exact hm5, HB4.out.2.grown hg5 HB4.out.2.size (fun j hj => by cases hj; exact Nat.le_refl _)⟩
            case measure => simp [intOf]; omega
    · have hkk : k = l.length := by omega
      subst hkk
      go_wp2
      go_ret
      exact ⟨w.heap.size, rfl, Nat.le_refl _, HM.out, HNX.out⟩

end Go.Proofs.YtelndpbkheoeaaaDoor
