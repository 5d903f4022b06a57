/-
  Package queue's isEarly, walked.
  Package queue's isCrossed, walked.
-/
import Derived.Test.YtelndpbkheoeaaaDoorQkWZ
import Derived.BigQuiet
import Derived.Deep.DeepCutAuto
namespace Go.Proofs.YtelndpbkheoeaaaDoor
open Go.RowKit

/-- A number of an op. -/
def NumOf (l : List Opn) (n : Int) : Prop := ∃ i : Nat, i < l.length ∧ n = i

set_option maxHeartbeats 2000000 in
theorem early_any (l : List Opn) (s : Life) (b off cap : Nat) (w : World) (hl : OpsAt w b off l) (hb : b < w.heap.size) (hp : s.pop = -1 ∨ NumOf l s.pop) (hq : NumOf l s.push) :
    Calls Tryd.prog 45 #[s.val, .slice (some ⟨b, off, none⟩) l.length cap] w fun e w' => e = .returned (.bool (earlyB l s)) ∧ Below w.heap.size w w' := by
  obtain ⟨j, hj, hq⟩ := hq
  obtain ⟨spush, spop, sagain⟩ := s
  unfold Life.val earlyB
  simp only at hp hq ⊢
  subst hq
  have HL := hideIt hl
  clear hl
  rcases hp with rfl | ⟨i, hi, rfl⟩
  · go_enter Tryd.func45, Tryd.ntmps45
    go_wp2_with fail
    go_big_quiet (fail)
    go_wp2
    go_ret
    exact ⟨by simp, below_drewN (belA (Below.refl _ _) _) _⟩
  · have hi1 : ((i : Int) != -1) = true := by first | (simp; done) | (simp; omega)
    obtain ⟨c0, c1, c2, c3, c4, c5, c6, c7⟩ := HL.out i hi
    obtain ⟨d0, d1, d2, d3, d4, d5, d6, d7⟩ := HL.out j hj
    have e1 : opZ l i = l[i] := opZ_at hi
    have e2 : opZ l j = l[j] := opZ_at hj
    have e3 : ((i : Int)).toNat = i := by omega
    have e4 : ((j : Int)).toNat = j := by omega
    rw [e3, e4, e1, e2]
    clear e1 e2 e3 e4
    generalize l[i] = x at c0 c1 c2 c3 c4 c5 c6 c7 ⊢
    generalize l[j] = y at d0 d1 d2 d3 d4 d5 d6 d7 ⊢
    have hiI : (i : Int) < (l.length : Int) := by omega
    have hjI : (j : Int) < (l.length : Int) := by omega
    have HBF : Hid (∀ W, Calls Tryd.prog 35 #[x.agg, y.agg] W fun e w' => e = .returned (.bool (beforeB x y)) ∧ Below W.heap.size W w') := fun W => before_any x y W
    go_enter Tryd.func45, Tryd.ntmps45
    go_wp2_with fail
    go_region_with (go_at_call 35; refine (HBF.out _).mono ?_; rintro e w2 ⟨rfl, hb2⟩)
    all_goals
      have R2 := hideIt (show Below w.heap.size w w2 from belJ (by repeat (first | exact Below.refl _ _ | refine Below.drew ?_ | refine belA ?_ _)) hb2)
      clear hb2
      go_wp2
      go_ret
      exact ⟨by rw [hi1]; rfl, by first | exact R2.out | exact R2.out.drew⟩

end Go.Proofs.YtelndpbkheoeaaaDoor

namespace Go.Proofs.YtelndpbkheoeaaaDoor
open Go.RowKit

def LifeAt (w : World) (b : Nat) (s : Life) : Prop := w.cell? ⟨b, 0, none⟩ = some (.int .i64 s.push) ∧ w.cell? ⟨b, 1, none⟩ = some (.int .i64 s.pop) ∧ w.cell? ⟨b, 2, none⟩ = some (.int .i64 s.again)

set_option maxHeartbeats 2000000 in
theorem crossed_any (l : List Opn) (s t : Life) (b off cap : Nat) (w : World) (hl : OpsAt w b off l) (hb : b < w.heap.size) (hp : s.pop = -1 ∨ NumOf l s.pop) (hq : NumOf l s.push) (hp' : t.pop = -1 ∨ NumOf l t.pop) (hq' : NumOf l t.push) :
    Calls Tryd.prog 65 #[s.val, t.val, .slice (some ⟨b, off, none⟩) l.length cap] w fun e w' => e = .returned (.bool (crossB l s t)) ∧ Below w.heap.size w w' := by
  obtain ⟨j, hj, hq⟩ := hq
  obtain ⟨k, hk, hq'⟩ := hq'
  obtain ⟨spush, spop, sagain⟩ := s
  obtain ⟨tpush, tpop, tagain⟩ := t
  unfold Life.val crossB
  simp only at hp hq hp' hq' ⊢
  subst hq hq'
  have HL := hideIt hl
  clear hl
  rcases hp' with rfl | ⟨m, hm, rfl⟩
  · clear hp
    go_enter Tryd.func65, Tryd.ntmps65
    go_wp2_with fail
    go_big_quiet (fail)
    go_wp2
    go_ret
    exact ⟨by simp, below_drewN (belA (belA (Below.refl _ _) _) _) _⟩
  · have hm1 : ((m : Int) == -1) = false := by first | (simp; done) | (simp; omega)
    have hm2 : ((m : Int) != -1) = true := by first | (simp; done) | (simp; omega)
    obtain ⟨c0, c1, c2, c3, c4, c5, c6, c7⟩ := HL.out j hj
    obtain ⟨d0, d1, d2, d3, d4, d5, d6, d7⟩ := HL.out k hk
    have e1 : opZ l j = l[j] := opZ_at hj
    have e2 : opZ l k = l[k] := opZ_at hk
    have e5 : opZ l m = l[m] := opZ_at hm
    have e3 : ((j : Int)).toNat = j := by omega
    have e4 : ((k : Int)).toNat = k := by omega
    have e6 : ((m : Int)).toNat = m := by omega
    rw [e3, e4, e6, e1, e2, e5, hm2, Bool.true_and]
    clear e1 e2 e3 e4 e5 e6 hm2
    generalize l[j] = x at c0 c1 c2 c3 c4 c5 c6 c7 ⊢
    generalize l[k] = y at d0 d1 d2 d3 d4 d5 d6 d7 ⊢
    have hjI : (j : Int) < (l.length : Int) := by omega
    have hkI : (k : Int) < (l.length : Int) := by omega
    have hmI : (m : Int) < (l.length : Int) := by omega
    have HBF : Hid (∀ x y W, Calls Tryd.prog 35 #[Opn.agg x, Opn.agg y] W fun e w' => e = .returned (.bool (beforeB x y)) ∧ Below W.heap.size W w') := fun x y W => before_any x y W
    obtain ⟨bb, HBB⟩ : ∃ bb, Hid (beforeB x y = bb) := ⟨_, hideIt rfl⟩
    have HB1 := hideIt (HBF.out x y)
    rw [HBB.out] at HB1 ⊢
    go_enter Tryd.func65, Tryd.ntmps65
    go_upto_region 1 with fail
    go_cut [23] (fun c wx => c = .bool (!bb) ∧ Below w.heap.size w wx ∧ LifeAt wx w.heap.size ⟨j, spop, sagain⟩ ∧ LifeAt wx (w.heap.size + 1) ⟨k, m, tagain⟩)
    case first =>
      clear hp
      go_region_with (go_at_call 35; refine (HB1.out _).mono ?_; rintro e w2 ⟨rfl, hb2⟩)
      all_goals
        have R2 := hideIt (show Below w.heap.size w w2 from belJ (by repeat (first | exact Below.refl _ _ | refine Below.drew ?_ | refine belA ?_ _)) hb2)
        have R3 : Hid (LifeAt w2 w.heap.size ⟨j, spop, sagain⟩) := ⟨(hb2.cell (p := ⟨w.heap.size, 0, none⟩) (by simp; omega)).trans (by simp), (hb2.cell (p := ⟨w.heap.size, 1, none⟩) (by simp; omega)).trans (by simp), (hb2.cell (p := ⟨w.heap.size, 2, none⟩) (by simp; omega)).trans (by simp)⟩
        have R4 : Hid (LifeAt w2 (w.heap.size + 1) ⟨k, m, tagain⟩) := ⟨(hb2.cell (p := ⟨w.heap.size + 1, 0, none⟩) (by simp)).trans (by simp), (hb2.cell (p := ⟨w.heap.size + 1, 1, none⟩) (by simp)).trans (by simp), (hb2.cell (p := ⟨w.heap.size + 1, 2, none⟩) (by simp)).trans (by simp)⟩
        clear hb2
        go_wp2
        go_meet
        exact ⟨by rfl, by first | exact R2.out | exact R2.out.drew, R3.out, R4.out⟩
    case rest =>
      obtain ⟨rfl, hbx, hs, ht⟩ := hcut
      have HBX := hideIt hbx
      obtain ⟨s0, s1, s2⟩ := hs
      obtain ⟨t0, t1, t2⟩ := ht
      clear c0 c1 c2 c3 c4 c5 c6 c7 d0 d1 d2 d3 d4 d5 d6 d7 HB1 hbx
      cases bb
      · go_wp2
        go_ret
        exact ⟨by simp, HBX.out⟩
      · have hblc : b < wc.heap.size := Nat.lt_of_lt_of_le hb HBX.out.size
        rcases hp with rfl | ⟨i, hi, rfl⟩
        · go_wp2_with fail
          go_big_quiet (fail)
          go_wp2
          go_ret
          exact ⟨by simp, below_drewN HBX.out _⟩
        · have hi1 : ((i : Int) == -1) = false := by first | (simp; done) | (simp; omega)
          obtain ⟨c0, c1, c2, c3, c4, c5, c6, c7⟩ := (HL.out m hm).below hb HBX.out
          obtain ⟨d0, d1, d2, d3, d4, d5, d6, d7⟩ := (HL.out i hi).below hb HBX.out
          have HE : Hid ((true && (((i : Int) == -1) || beforeB l[m] (opZ l ((i : Int)).toNat))) = beforeB l[m] l[i]) := by
            show (true && (((i : Int) == -1) || beforeB l[m] (opZ l ((i : Int)).toNat))) = _
            rw [hi1, show ((i : Int)).toNat = i from by omega, opZ_at hi]; simp
          have hiI : (i : Int) < (l.length : Int) := by omega
          have HB2 := hideIt (HBF.out l[m] l[i])
          obtain ⟨z, HZ⟩ : ∃ z, Hid (l[m] = z) := ⟨_, hideIt rfl⟩
          obtain ⟨v, HV⟩ : ∃ v, Hid (l[i] = v) := ⟨_, hideIt rfl⟩
          rw [HZ.out] at c0 c1 c2 c3 c4 c5 c6 c7 HB2
          rw [HV.out] at d0 d1 d2 d3 d4 d5 d6 d7 HB2
          go_wp2_with fail
          go_region_with (go_at_call 35; refine (HB2.out _).mono ?_; rintro e w2 ⟨rfl, hb2⟩)
          all_goals
            have R2 := hideIt (show Below w.heap.size w w2 from HBX.out.trans ((belJ (by repeat (first | exact Below.refl _ _ | refine Below.drew ?_ | refine belA ?_ _)) hb2 : Below wc.heap.size wc w2).mono HBX.out.size))
            clear hb2
            go_wp2
            go_ret
            exact ⟨ret_boolZ (by rw [HE.out, HZ.out, HV.out]), by first | exact R2.out | exact R2.out.drew⟩

end Go.Proofs.YtelndpbkheoeaaaDoor
