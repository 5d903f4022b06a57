/-
  The document's own Reads, walked.
-/
import Derived.Test.YtfojmbbhcmeejaaDoorCkRZ
import Derived.Test.YtfojmbbhcmeejaaDoorMapVZ
namespace Go.Proofs.YtfojmbbhcmeejaaDoor
open Go.RowKit

def readB (l : List Opn) (i k : Nat) : Bool := (opZ l k).d == 2 && ((opZ l k).k == (opZ l i).k && (opZ l k).a == (opZ l i).r)
theorem readsD_zero {l : List Opn} {i : Nat} (h : (opZ l i).d ≠ 1 ∨ (opZ l i).r = 0) : readsD l i = -1 := by unfold readsD; rw [if_pos h]
theorem readsD_some {l : List Opn} {i k : Nat} (h : ¬ ((opZ l i).d ≠ 1 ∨ (opZ l i).r = 0)) (hk : firstN (readB l i) l.length = some k) : readsD l i = k := by unfold readsD; rw [if_neg h]; unfold readB at hk; rw [hk]; rfl
theorem readsD_none {l : List Opn} {i : Nat} (h : ¬ ((opZ l i).d ≠ 1 ∨ (opZ l i).r = 0)) (hk : firstN (readB l i) l.length = none) : readsD l i = -2 := by unfold readsD; rw [if_neg h]; unfold readB at hk; rw [hk]; rfl

set_option maxRecDepth 100000 in
set_option maxHeartbeats 2000000 in
theorem reads_any (l : List Opn) (a : Option Addr) (cap i : Nat) (w : World) (hlen : l.length ≤ 60) (hl : OpsQ w a l) (hi : i < l.length) :
    Calls Tryd.prog 12 #[.slice a l.length cap, .int .i64 (i : Nat)] w fun e w' => e = .returned (.int .i64 (readsD l i)) ∧ Below w.heap.size w w' := by
  obtain ⟨b, off, rfl, hlt, hops⟩ : ∃ b off, a = some ⟨b, off, none⟩ ∧ b < w.heap.size ∧ OpsAt w b off l := by
    rcases hl with h | h
    · subst h; simp at hi
    · exact h
  have HO := hideIt hops
  obtain ⟨c0, c1, c2, c3, c4, c5, c6, c7⟩ := hops i hi
  have HX : Hid (opZ l i = l[i]) := opZ_at hi
  have HXA : Hid (∀ wr, Below w.heap.size w wr → OpAt wr b (off + i * 8) l[i]) := fun wr hW => (hops i hi).below hlt hW
  generalize l[i] = x at c0 c1 c2 c3 c4 c5 c6 c7 HX HXA
  clear hops hl
  by_cases hd : x.d = 1
  · have hd' : (x.d != 1) = false := by simp [hd]
    by_cases hr : x.r = 0
    · have hr' : (x.r == 0) = true := by simp [hr]
      have R : Hid (readsD l i = -1) := readsD_zero (.inr (by rw [HX.out]; exact hr))
      clear hd hr
      go_enter Tryd.func12, Tryd.ntmps12
      go_wp2
      go_ret
      exact ⟨ret_intK R.out.symm, Below.refl _ _⟩
    · have hr' : (x.r == 0) = false := by simp [hr]
      have HZ : Hid (¬ ((opZ l i).d ≠ 1 ∨ (opZ l i).r = 0)) := by
        show ¬ ((opZ l i).d ≠ 1 ∨ (opZ l i).r = 0)
        rw [HX.out]; exact fun h => h.elim (fun h => h hd) (fun h => hr h)
      clear hd hr
      go_enter Tryd.func12, Tryd.ntmps12
      go_wp2
      clear c0 c1 c2 c3 c4 c5 c6 c7 hd' hr'
      go_loopw [23] (fun v wr => ∃ k : Nat, k ≤ l.length ∧ v = .int .i64 k ∧ (∀ j, j < k → readB l i j = false) ∧ Below w.heap.size w wr) (fun v _ => l.length - (intOf v).toNat)
      case atStart => exact ⟨0, Nat.zero_le _, rfl, fun j hj => absurd hj (by omega), Below.refl _ _⟩
      case round =>
        obtain ⟨k, hk, rfl, ha, hb⟩ := hrel
        have HA := hideIt ha
        have HB := hideIt hb
        clear ha hb
        by_cases hkl : k < l.length
        · obtain ⟨c0, c1, c2, c3, c4, c5, c6, c7⟩ := (HO.out k hkl).below hlt HB.out
          obtain ⟨_, d1, _, _, _, d5, _, _⟩ := HXA.out _ HB.out
          have hbl : b < wr.heap.size := Nat.lt_of_lt_of_le hlt HB.out.size
          have d1' : ∀ o : Obj, (wr.alloc o).cell? ⟨b, off + i * 8 + 1, none⟩ = some (.int .i64 x.k) := fun o => by rw [World.cell?_alloc_lt _ _ ⟨b, off + i * 8 + 1, none⟩ hbl]; exact d1
          have d5' : ∀ o : Obj, (wr.alloc o).cell? ⟨b, off + i * 8 + 5, none⟩ = some (.int .i64 x.r) := fun o => by rw [World.cell?_alloc_lt _ _ ⟨b, off + i * 8 + 5, none⟩ hbl]; exact d5
          have HY : Hid (opZ l k = l[k]) := opZ_at hkl
          generalize l[k] = y at c0 c1 c2 c3 c4 c5 c6 c7 HY
          have HRB : Hid (readB l i k = (y.d == 2 && (y.k == x.k && y.a == x.r))) := by show readB l i k = _; unfold readB; rw [HX.out, HY.out]
          have HNext : Hid (readB l i k = false → ∀ j, j < k + 1 → readB l i j = false) := fun h j hj => by
            by_cases e : j = k
            · subst e; exact h
            · exact HA.out j (by omega)
          cases hyd : y.d == 2
          · have R1 := hideIt (HNext.out (by rw [HRB.out, hyd]; rfl))
            go_wp2_with fail
            go_big_quiet (fail)
            go_wp2
            go_roundw
            case rel => exact ⟨k + 1, by omega, by go_num, R1.out, below_drewN (belA HB.out _) _⟩
            case measure => simp [intOf]; omega
          · cases hyk : y.k == x.k
            · have R1 := hideIt (HNext.out (by rw [HRB.out, hyk]; simp))
              go_wp2_with fail
              go_big_quiet (fail)
              go_wp2
              go_roundw
              case rel => exact ⟨k + 1, by omega, by go_num, R1.out, below_drewN (belA HB.out _) _⟩
              case measure => simp [intOf]; omega
            · cases hya : y.a == x.r
              · have R1 := hideIt (HNext.out (by rw [HRB.out, hya]; simp))
                go_wp2_with fail
                go_big_quiet (fail)
                go_wp2
                go_roundw
                case rel => exact ⟨k + 1, by omega, by go_num, R1.out, below_drewN (belA HB.out _) _⟩
                case measure => simp [intOf]; omega
              · have R1 : Hid (readsD l i = k) := readsD_some HZ.out (firstN_at hkl HA.out (by rw [HRB.out, hyd, hyk, hya]; rfl))
                go_wp2_with fail
                go_big_quiet (fail)
                go_wp2
                go_ret
                exact ⟨ret_intK R1.out.symm, below_drewN (belA HB.out _) _⟩
        · have R1 : Hid (readsD l i = -2) := readsD_none HZ.out (firstN_none fun j hj => HA.out j (by omega))
          go_wp2
          go_ret
          exact ⟨ret_intK R1.out.symm, HB.out⟩
  · have hd' : (x.d != 1) = true := by simp [hd]
    have R : Hid (readsD l i = -1) := readsD_zero (.inl (by rw [HX.out]; exact hd))
    clear hd
    go_enter Tryd.func12, Tryd.ntmps12
    go_wp2
    go_ret
    exact ⟨ret_intK R.out.symm, Below.refl _ _⟩

end Go.Proofs.YtfojmbbhcmeejaaDoor
