/-
  The program's Check of steps, walked.
  The program's committed and Done, walked.
  The program's Done, walked.
-/
import Derived.Test.YthmiocbihhbdpaaDnWZ
namespace Go.Proofs.Ythmiocbihhbdpaa
open Go.RowKit

theorem octO_made (w : World) : OctB (w.alloc (.cells #[.bool false, .bool false, .bool false, .bool false, .bool false, .bool false, .bool false, .bool false] 62)) w.heap.size (fun _ => false) := octB_new w (fun _ => false) 62

set_option maxRecDepth 100000 in
set_option maxHeartbeats 4000000 in
theorem sCheck_any (l : List Stp) (a : Option Addr) (cap : Nat) (w : World) (hmax : l.length ≤ maxLen) (hl : StpsQ w a l) :
    Calls Try.prog 18 #[.slice a l.length cap] w fun e w' => ∃ v n pl, e = .returned v ∧ ErrAt w' v n pl ∧ CkS l n pl ∧ Below w.heap.size w w' := by
  have HL := hideIt hl
  have hm2 : l.length ≤ 9223372036854775807 := hmax
  clear hl
  by_cases h60 : l.length ≤ 60
  · have HO0 := hideIt (octO_made w)
    have HB0 : Hid (Below w.heap.size w (w.alloc (.cells #[.bool false, .bool false, .bool false, .bool false, .bool false, .bool false, .bool false, .bool false] 62))) := belA (Below.refl _ _) _
    go_enter Try.func18, Try.ntmps18
    go_wp2
    generalize w.alloc _ = W at HO0 HB0 ⊢
    go_loopw [13] (fun i wr => ∃ k : Nat, k ≤ l.length ∧ i = .int .i64 k ∧ (∀ j, j < k → fltQ l j = 0) ∧ OctB wr w.heap.size (fun q => overB l (q : Int) k) ∧ Below w.heap.size w wr) (fun i _ => l.length - (intOf i).toNat)
    case atStart => exact ⟨0, Nat.zero_le _, rfl, fun j hj => absurd hj (by omega), HO0.out, HB0.out⟩
    case round =>
      clear HO0 HB0
      obtain ⟨k, hk, rfl, ha, ho, hb⟩ := hrel
      have HA := hideIt ha
      have HO := hideIt ho
      have HB := hideIt hb
      clear ha ho hb
      by_cases hkl : k < l.length
      · obtain ⟨b, off, rfl, hlt, hst⟩ : ∃ b off, a = some ⟨b, off, none⟩ ∧ b < w.heap.size ∧ StpsAt w b off l := by
          rcases HL.out with h | h
          · subst h; simp at hkl
          · exact h
        obtain ⟨c0, c1, c2⟩ := (hst k hkl).below hlt HB.out
        have HX : Hid (stZ l k = l[k]) := stZ_at hkl
        have HQ : Hid (fltQ l k = if fltR (stZ l k) = 0 then (if overB l (stZ l k).p k then 6 else 0) else fltR (stZ l k)) := rfl
        have HOs : Hid (∀ q, overB l q (k + 1) = (overB l q k || ((stZ l k).p == q && decide (2 < (stZ l k).k)))) := fun q => overB_succ l q k
        rw [HX.out] at HQ HOs
        generalize l[k] = x at c0 c1 c2 HX HQ HOs
        have hwl := HO.out.lt
        have HOA := hideIt (HO.out.alloc (.cells #[.int .i64 x.p, .int .i64 x.k, .int .i64 x.m] 40))
        have HBA : Hid (Below w.heap.size w (wr.alloc (.cells #[.int .i64 x.p, .int .i64 x.k, .int .i64 x.m] 40))) := belA HB.out _
        have HXA : Hid (StpN (wr.alloc (.cells #[.int .i64 x.p, .int .i64 x.k, .int .i64 x.m] 40)) wr.heap.size x) := ⟨by simp, by simp, by simp⟩
        have HCf := hideIt (fault_any x (wr.alloc (.cells #[.int .i64 x.p, .int .i64 x.k, .int .i64 x.m] 40)))
        have hws : (wr.alloc (.cells #[.int .i64 x.p, .int .i64 x.k, .int .i64 x.m] 40)).heap.size = wr.heap.size + 1 := by simp
        unfold Stp.agg at HCf
        clear hst HL HO HB
        go_wp2_with fail
        refine HCf.out.mono ?_
        clear HCf c0 c1 c2
        rintro e w1 ⟨rfl, hb1⟩
        rw [hws] at hb1
        have HO1 := hideIt (HOA.out.below hb1 (Nat.lt_succ_of_lt hwl))
        have HB1 : Hid (Below w.heap.size w w1) := HBA.out.trans (hb1.mono (by omega))
        obtain ⟨d0, d1, d2⟩ := HXA.out.below hb1 (Nat.lt_succ_self _)
        have hl1 : wr.heap.size < w1.heap.size := by have := hb1.size; omega
        generalize wr.heap.size = Z at d0 d1 d2 hwl hl1 ⊢
        clear hb1 hws HOA HBA HXA
        by_cases hf : fltR x = 0
        · rw [if_pos hf] at HQ
          rw [hf]
          have hx := fltR_zero hf
          obtain ⟨t, ht⟩ : ∃ t : Nat, x.p = (t : Int) := ⟨x.p.toNat, by omega⟩
          rw [ht] at d0 HQ HOs
          have ht8 : t < 8 := by omega
          have ht8' : (t : Int) < 8 := by omega
          have o0 := HO1.out.at' ht8
          have z0 := HO1.out.fz t
          cases hov : overB l (t : Int) k
          · rw [hov] at HQ o0
            have hQ0 : fltQ l k = 0 := HQ.out
            have R1 : Hid (∀ j, j < k + 1 → fltQ l j = 0) := fun j hj => by
              by_cases e : j = k
              · subst e; exact hQ0
              · exact HA.out j (by omega)
            have R2 : Hid (OctB (w1.setCell ⟨w.heap.size, t, none⟩ (.bool (decide (3 ≤ x.k)))) w.heap.size (fun q => overB l (q : Int) (k + 1))) := (HO1.out.put ht8 (decide (3 ≤ x.k))).same fun q hq => by
              show (if q = t then decide (3 ≤ x.k) else overB l (q : Int) k) = overB l (q : Int) (k + 1)
              rw [HOs.out]
              by_cases e : q = t
              · subst e
                rw [if_pos rfl, hov]
                have : ((q : Int) == (q : Int)) = true := by simp
                rw [this]
                simp
                omega
              · rw [if_neg e]
                have : ((t : Int) == (q : Int)) = false := by simp; omega
                rw [this]; simp
            have R3 : Hid (Below w.heap.size w (w1.setCell ⟨w.heap.size, t, none⟩ (.bool (decide (3 ≤ x.k))))) := HB1.out.setCell (p := ⟨w.heap.size, t, none⟩) (Nat.le_refl _) _
            clear HQ HOs hQ0 hov d2
            go_wp2
            go_roundw
            case rel => exact ⟨k + 1, by omega, by go_num, R1.out, R2.out, R3.out⟩
            case measure => simp [intOf]; omega
          · rw [hov] at HQ o0
            have hQ6 : fltQ l k = 6 := HQ.out
            have HE : Hid (CkS l 6 k) := .inr ⟨h60, .inr ⟨k, hkl, HA.out, by rw [hQ6]; decide, hQ6.symm, rfl⟩⟩
            clear HQ HOs hQ6 hov d2
            go_wp2
            go_ret
            exact ⟨_, 6, (k : Int), rfl, .inr (.inr ⟨by decide, by omega, w1.heap.size, rfl, by simp, by simp, by simp⟩), HE.out, belA HB1.out _⟩
        · rw [if_neg hf] at HQ
          generalize fltR x = fx at hf HQ ⊢
          have HE : Hid (CkS l fx k) := .inr ⟨h60, .inr ⟨k, hkl, HA.out, by rw [HQ.out]; exact hf, HQ.out.symm, rfl⟩⟩
          have hf' : (fx != 0) = true := by simp [hf]
          clear HQ HOs d0 d1 d2
          go_wp2
          go_ret
          exact ⟨_, fx, (k : Int), rfl, .inr (.inr ⟨hf, by omega, w1.heap.size, rfl, by simp, by simp, by simp⟩), HE.out, belA HB1.out _⟩
      · obtain rfl : k = l.length := by omega
        go_wp2
        go_ret
        exact ⟨_, 0, -1, rfl, .inl ⟨rfl, rfl, rfl⟩, .inr ⟨h60, .inl ⟨HA.out, rfl, rfl⟩⟩, HB.out⟩
  · have h60' : (60 : Int) < l.length := by omega
    go_enter Try.func18, Try.ntmps18
    go_wp2
    go_ret
    exact ⟨_, 4, -1, rfl, .inr (.inl ⟨by decide, rfl, rfl⟩), .inl ⟨by omega, rfl, rfl⟩, Below.refl _ _⟩
end Go.Proofs.Ythmiocbihhbdpaa

namespace Go.Proofs.Ythmiocbihhbdpaa
open Go.RowKit

def cmK (l : List Stp) (t : Int) (k : Nat) : Bool := (l.take k).any fun s => s.p == t && s.k == 3
theorem cmK_succ {l : List Stp} {k : Nat} (t : Int) (h : k < l.length) : cmK l t (k + 1) = (cmK l t k || (l[k].p == t && l[k].k == 3)) := by
  unfold cmK
  rw [List.take_succ_eq_append_getElem h, List.any_append]
  simp
theorem cmK_all (l : List Stp) (q : Nat) (hq : q < 8) : cmK l (q : Int) l.length = commB l (q : Int) := by
  unfold cmK commB
  rw [List.take_length, decide_eq_true (by omega : (0 : Int) ≤ (q : Int)), decide_eq_true (by omega : (q : Int) < 8)]
  rfl

set_option maxRecDepth 100000 in
set_option maxHeartbeats 4000000 in
theorem committed_any (l : List Stp) (a : Option Addr) (cap : Nat) (w : World) (hn : l.length ≤ 100) (hl : StpsQ w a l) :
    Calls Try.prog 17 #[.slice a l.length cap] w fun e w' => e = .returned (octA fun q => commB l (q : Int)) ∧ Below w.heap.size w w' := by
  have HL := hideIt hl
  clear hl
  have HR0 := hideIt ((octO_made w).alloc (.cells #[.bool false, .bool false, .bool false, .bool false, .bool false, .bool false, .bool false, .bool false] 62))
  have HO0 := hideIt (octO_made (w.alloc (.cells #[.bool false, .bool false, .bool false, .bool false, .bool false, .bool false, .bool false, .bool false] 62)))
  rw [show (w.alloc (.cells #[.bool false, .bool false, .bool false, .bool false, .bool false, .bool false, .bool false, .bool false] 62)).heap.size = w.heap.size + 1 by simp] at HO0
  have HB0 : Hid (Below w.heap.size w ((w.alloc (.cells #[.bool false, .bool false, .bool false, .bool false, .bool false, .bool false, .bool false, .bool false] 62)).alloc (.cells #[.bool false, .bool false, .bool false, .bool false, .bool false, .bool false, .bool false, .bool false] 62))) := belA (belA (Below.refl _ _) _) _
  go_enter Try.func17, Try.ntmps17
  go_wp2
  generalize (w.alloc _).alloc _ = W at HO0 HB0 HR0 ⊢
  go_loopw [8] (fun i wr => ∃ k : Nat, k ≤ l.length ∧ i = .int .i64 k ∧ OctB wr w.heap.size (fun _ => false) ∧ OctB wr (w.heap.size + 1) (fun q => cmK l (q : Int) k) ∧ Below w.heap.size w wr) (fun i _ => l.length - (intOf i).toNat)
  case atStart => exact ⟨0, Nat.zero_le _, rfl, HR0.out, HO0.out, HB0.out⟩
  case round =>
    clear HO0 HB0 HR0
    obtain ⟨k, hk, rfl, hr, ho, hb⟩ := hrel
    have HR := hideIt hr
    have HO := hideIt ho
    have HB := hideIt hb
    clear hr ho hb
    by_cases hkl : k < l.length
    · obtain ⟨b, off, rfl, hlt, hst⟩ : ∃ b off, a = some ⟨b, off, none⟩ ∧ b < w.heap.size ∧ StpsAt w b off l := by
        rcases HL.out with h | h
        · subst h; simp at hkl
        · exact h
      obtain ⟨c0, c1, c2⟩ := (hst k hkl).below hlt HB.out
      have hkl' : (k : Int) < l.length := by omega
      have HOs : Hid (∀ q : Int, cmK l q (k + 1) = (cmK l q k || (l[k].p == q && l[k].k == 3))) := fun q => cmK_succ q hkl
      generalize l[k] = x at c0 c1 c2 HOs
      have HRA := hideIt (HR.out.alloc (.cells #[.int .i64 x.p, .int .i64 x.k, .int .i64 x.m] 40))
      have HOA := hideIt (HO.out.alloc (.cells #[.int .i64 x.p, .int .i64 x.k, .int .i64 x.m] 40))
      have HBA : Hid (Below w.heap.size w (wr.alloc (.cells #[.int .i64 x.p, .int .i64 x.k, .int .i64 x.m] 40))) := belA HB.out _
      have d0 : (wr.alloc (.cells #[.int .i64 x.p, .int .i64 x.k, .int .i64 x.m] 40)).cell? ⟨wr.heap.size, 0, none⟩ = some (.int .i64 x.p) := by simp
      have d1 : (wr.alloc (.cells #[.int .i64 x.p, .int .i64 x.k, .int .i64 x.m] 40)).cell? ⟨wr.heap.size, 1, none⟩ = some (.int .i64 x.k) := by simp
      have hwl := HO.out.lt
      have HSame : Hid ((∀ q : Nat, q < 8 → (x.p == (q : Int) && x.k == 3) = false) → OctB (wr.alloc (.cells #[.int .i64 x.p, .int .i64 x.k, .int .i64 x.m] 40)) (w.heap.size + 1) (fun q => cmK l (q : Int) (k + 1))) := fun h => HOA.out.same fun q hq => by
        show cmK l (q : Int) k = cmK l (q : Int) (k + 1)
        rw [HOs.out, h q hq]; simp
      clear hst HL HO HB HR
      by_cases h3 : x.k = 3
      · have HX := hideIt (isTx_any x.p (wr.alloc (.cells #[.int .i64 x.p, .int .i64 x.k, .int .i64 x.m] 40)))
        rw [h3] at HX HRA HOA HBA d0 d1 HSame HOs c1
        go_wp2_with fail
        refine HX.out.mono ?_
        clear HX c0 c1 c2
        rintro e w1 ⟨rfl, rfl⟩
        generalize wr.alloc _ = WA at HRA HOA HBA d0 d1 HSame ⊢
        generalize wr.heap.size = Z at d0 d1 hwl ⊢
        have hT := @txB_iff x.p
        generalize txB x.p = tb at hT ⊢
        cases tb
        · have hne : ¬ (0 ≤ x.p ∧ x.p ≤ 7) := fun h => by have := hT.2 h; cases this
          have R1 := hideIt (HSame.out fun q hq => by
            have : (x.p == (q : Int)) = false := by simp; omega
            rw [this]; rfl)
          clear hT hne HSame HOs
          go_wp2
          go_roundw
          case rel => exact ⟨k + 1, by omega, by go_num, HRA.out, R1.out, HBA.out⟩
          case measure => simp [intOf]; omega
        · have hp := hT.1 rfl
          obtain ⟨t, ht⟩ : ∃ t : Nat, x.p = (t : Int) := ⟨x.p.toNat, by omega⟩
          have ht8 : t < 8 := by omega
          have ht8' : (t : Int) < 8 := by omega
          rw [ht] at d0 HOs
          have o0 := HOA.out.at' ht8
          have z0 := HOA.out.fz t
          have R1 : Hid (OctB (WA.setCell ⟨w.heap.size + 1, t, none⟩ (.bool true)) (w.heap.size + 1) (fun q => cmK l (q : Int) (k + 1))) := (HOA.out.put ht8 true).same fun q hq => by
            show (if q = t then true else cmK l (q : Int) k) = cmK l (q : Int) (k + 1)
            rw [HOs.out]
            by_cases e : q = t
            · subst e; rw [if_pos rfl]; simp
            · rw [if_neg e]
              have : ((t : Int) == (q : Int)) = false := by simp; omega
              rw [this]; simp
          have R2 : Hid (OctB (WA.setCell ⟨w.heap.size + 1, t, none⟩ (.bool true)) w.heap.size (fun _ => false)) := HRA.out.other (p := ⟨w.heap.size + 1, t, none⟩) (by show w.heap.size ≠ w.heap.size + 1; omega) _
          have R3 : Hid (Below w.heap.size w (WA.setCell ⟨w.heap.size + 1, t, none⟩ (.bool true))) := HBA.out.setCell (p := ⟨w.heap.size + 1, t, none⟩) (by show w.heap.size ≤ w.heap.size + 1; omega) _
          rw [ht]
          clear hT hp HSame HOs ht
          go_wp2
          go_roundw
          case rel => exact ⟨k + 1, by omega, by go_num, R2.out, R1.out, R3.out⟩
          case measure => simp [intOf]; omega
      · have h3' : (x.k == 3) = false := by simp [h3]
        have R1 := hideIt (HSame.out fun q hq => by rw [h3', Bool.and_false])
        clear HSame HOs d0 d1
        go_wp2
        go_roundw
        case rel => exact ⟨k + 1, by omega, by go_num, HRA.out, R1.out, HBA.out⟩
        case measure => simp [intOf]; omega
    · obtain rfl : k = l.length := by omega
      have R : Hid (∀ q : Nat, q < 8 → cmK l (q : Int) l.length = commB l (q : Int)) := fun q hq => cmK_all l q hq
      obtain ⟨f, hf⟩ : ∃ f : Nat → Bool, f = fun q : Nat => cmK l (q : Int) l.length := ⟨_, rfl⟩
      have R' : Hid (∀ q : Nat, q < 8 → f q = commB l (q : Int)) := fun q hq => by rw [hf]; exact R.out q hq
      rw [← hf] at HO
      clear hf R
      obtain ⟨y0, y1, y2, y3, y4, y5, y6, y7⟩ := HO.out.eight
      obtain ⟨z0, z1, z2, z3, z4, z5, z6, z7⟩ := HR.out.eight
      have zf := HR.out.fz
      go_wp2
      refine bodyPost_ret (results_one rfl _ _ _ _ rfl (load71 (HR.out.store f).at_)) rfl ?_
      exact ⟨ret_oct R'.out, HB.out.grown (grown_setCells _ (octL f) 0 _) HB.out.size (fun b' hb' => by cases hb'; omega)⟩
end Go.Proofs.Ythmiocbihhbdpaa

namespace Go.Proofs.Ythmiocbihhbdpaa
open Go.RowKit

theorem info73 : (Try.prog.info? 40).map (fun i => (i.zero, i.size, i.bytes)) = some (some (.agg #[.int .i64 0, .int .i64 0, .int .i64 0]), 3, 24) := by kernel_rfl
theorem run_appT {w : World} {base B : Nat} {v : Value} {n : Nat} {L : List Stp} {s : Stp} (hown : w.ownsRow base 40 3 v n (stpC L)) (hB : StpAt w B 0 s) (hb : base ≤ w.heap.size) (hlen : n ≤ 1000) (ty : TypeId) :
    ∃ v' w', (Builtin.append_ #[25, 25] ty #[v, .slice (some ⟨B, 0, none⟩) 1 1]).run Try.prog w = .ok v' w' ∧ w'.ownsRow base 40 3 v' (n + 1) (stpC (L ++ [s])) ∧ w.grownBy w' v.ownBlock ∧ (v'.ownBlock = v.ownBlock ∨ v'.ownBlock = some w.heap.size) := by
  obtain ⟨i, hi, hz, hsz, hby⟩ := info_parts' info73
  have hnews : ∀ j u, [Value.int .i64 s.p, .int .i64 s.k, .int .i64 s.m][j]? = some u → w.cell? ((⟨B, 0, none⟩ : Addr).add j) = some u := by
    intro j u hj
    rw [Addr.add_mid, Nat.zero_add]
    match j, hj with
    | 0, hj => simp at hj; subst hj; exact hB.1
    | 1, hj => simp at hj; subst hj; exact hB.2.1
    | 2, hj => simp at hj; subst hj; exact hB.2.2
  obtain ⟨v', w', hr, ho, hg, _, hob⟩ := run_append_own_at (P := Try.prog) (w := w) base 25 ty 40 i _ 3 24 Try.underlying25 hi hz hsz hby rfl (by decide) v _ _ hown ⟨B, 0, none⟩ 1 1 [.int .i64 s.p, .int .i64 s.k, .int .i64 s.m] rfl hnews (by simp [Value.oneCell']) (by unfold maxLen; omega) (by omega) hb
  exact ⟨v', w', hr, by rw [stpC_app]; exact ho, hg, hob⟩
theorem ownsRow_base {w : World} {base base' : Nat} {e : TypeId} {size : Nat} {v : Value} {n : Nat} {xs : List Value} (h : w.ownsRow base e size v n xs) (hb : base' ≤ base) : w.ownsRow base' e size v n xs := by
  obtain ⟨hl, ⟨rfl, h0⟩ | ⟨g, cap, cur, rfl, hg, h⟩⟩ := h
  · exact ⟨hl, .inl ⟨rfl, h0⟩⟩
  · exact ⟨hl, .inr ⟨g, cap, cur, rfl, Nat.le_trans hb hg, h⟩⟩
theorem stpsQ_ownT {w : World} {base : Nat} {v : Value} {l : List Stp} (h : w.ownsRow base 40 3 v l.length (stpC l)) : ∃ a cap, v = .slice a l.length cap ∧ l.length ≤ cap ∧ StpsQ w a l := by
  obtain ⟨hl, ⟨rfl, h0⟩ | ⟨g, cap, cur, rfl, hb, hh, h1, h2, h3, h4⟩⟩ := h
  · have : l = [] := List.eq_nil_of_length_eq_zero h0
    subst this
    exact ⟨none, 0, rfl, Nat.le_refl _, .inl rfl⟩
  · refine ⟨_, cap, rfl, h1, .inr ⟨g, 0, rfl, lt_of_heap hh, fun k hk => ?_⟩⟩
    have hc : ∀ j, j < 3 → w.cell? ⟨g, 0 + k * 3 + j, none⟩ = [Value.int .i64 l[k].p, .int .i64 l[k].k, .int .i64 l[k].m][j]? := fun j hj => by
      rw [cell_of_row _ _ _ _ 40 _ hh, Nat.zero_add, ← stpC_at l k j hk hj]
      have e : (cur.toList.take (l.length * 3))[k * 3 + j]? = (stpC l)[k * 3 + j]? := by rw [h4]
      rw [List.getElem?_take_of_lt (by omega), Array.getElem?_toList] at e
      exact e
    exact ⟨hc 0 (by omega), hc 1 (by omega), hc 2 (by omega)⟩

set_option maxRecDepth 100000 in
set_option maxHeartbeats 4000000 in
theorem sDone_any (l : List Stp) (a : Option Addr) (cap : Nat) (w : World) (hn : l.length ≤ 100) (hl : StpsQ w a l) :
    Calls Try.prog 27 #[.slice a l.length cap] w fun e w' => ∃ v, e = .returned v ∧ w'.ownsRow w.heap.size 40 3 v (doneL l).length (stpC (doneL l)) ∧ Below w.heap.size w w' := by
  have HL := hideIt hl
  have HC := hideIt (committed_any l a cap w hn hl)
  clear hl
  obtain ⟨f, hf⟩ : ∃ f : Nat → Bool, f = fun q : Nat => commB l (q : Int) := ⟨_, rfl⟩
  rw [← hf] at HC
  have HFq : Hid (∀ q : Nat, f q = commB l (q : Int)) := fun q => by rw [hf]
  clear hf
  unfold octA at HC
  go_enter Try.func27, Try.ntmps27
  go_wp2_with fail
  refine HC.out.mono ?_
  clear HC
  rintro e w1 ⟨rfl, hb1⟩
  have HO0 := hideIt (octB_new w1 f 62)
  have HB0 : Hid (Below w.heap.size w (w1.alloc (octO f 62))) := belA hb1 _
  unfold octO at HO0 HB0
  clear hb1
  go_wp2
  generalize w1.alloc _ = W at HO0 HB0 ⊢
  generalize w1.heap.size = G at HO0 ⊢
  go_loopw [4, 11] (fun v c wr => ∃ k : Nat, k ≤ l.length ∧ c = .int .i64 k ∧ wr.ownsRow W.heap.size 40 3 v ((l.take k).filter (doneB l)).length (stpC ((l.take k).filter (doneB l))) ∧ Below W.heap.size W wr) (fun _ c _ => l.length - (intOf c).toNat)
  case atStart => exact ⟨0, Nat.zero_le _, rfl, World.ownsRow_nil _ _ _ _, Below.refl _ _⟩
  case round =>
    obtain ⟨k, hk, rfl, ho, hb⟩ := hrel
    have HO := hideIt ho
    have HB := hideIt hb
    obtain ⟨va, vc, hv⟩ := ownsRow_slice ho
    subst hv
    clear ho hb
    by_cases hkl : k < l.length
    · obtain ⟨b, off, rfl, hlt, hst⟩ : ∃ b off, a = some ⟨b, off, none⟩ ∧ b < w.heap.size ∧ StpsAt w b off l := by
        rcases HL.out with h | h
        · subst h; simp at hkl
        · exact h
      obtain ⟨c0, c1, c2⟩ := (hst k hkl).below hlt (belJ HB0.out HB.out)
      have hkl' : (k : Int) < l.length := by omega
      have HX := hideIt (filter_take (p := doneB l) hkl)
      have HDb : Hid (doneB l l[k] = (decide (l[k].k < 3) && commB l l[k].p)) := rfl
      have hCm : commB l l[k].p = true → 0 ≤ l[k].p ∧ l[k].p ≤ 7 := fun h => by
        unfold commB at h
        simp at h
        omega
      have HG := HO0.out.below HB.out HO0.out.lt
      have hGl : G < wr.heap.size := HG.lt
      generalize l[k] = x at c0 c1 c2 HX HDb hCm
      have hfl : ((l.take k).filter (doneB l)).length ≤ 100 := Nat.le_trans (List.length_filter_le _ _) (by rw [List.length_take]; omega)
      have HB1 : Hid (Below W.heap.size W (wr.alloc (.cells #[.int .i64 x.p, .int .i64 x.k, .int .i64 x.m] 40))) := belA HB.out _
      have HO1 : Hid ((wr.alloc (.cells #[.int .i64 x.p, .int .i64 x.k, .int .i64 x.m] 40)).ownsRow W.heap.size 40 3 (.slice va ((l.take k).filter (doneB l)).length vc) ((l.take k).filter (doneB l)).length (stpC ((l.take k).filter (doneB l)))) := ownsRow_same HO.out fun b' hb' => Below.heap_alloc _ _ _ (ownsRow_block HO.out b' hb').2.1
      have HG1 := hideIt (HG.alloc (.cells #[.int .i64 x.p, .int .i64 x.k, .int .i64 x.m] 40))
      have d0 : (wr.alloc (.cells #[.int .i64 x.p, .int .i64 x.k, .int .i64 x.m] 40)).cell? ⟨wr.heap.size, 0, none⟩ = some (.int .i64 x.p) := by simp
      have d1 : (wr.alloc (.cells #[.int .i64 x.p, .int .i64 x.k, .int .i64 x.m] 40)).cell? ⟨wr.heap.size, 1, none⟩ = some (.int .i64 x.k) := by simp
      have d2 : (wr.alloc (.cells #[.int .i64 x.p, .int .i64 x.k, .int .i64 x.m] 40)).cell? ⟨wr.heap.size, 2, none⟩ = some (.int .i64 x.m) := by simp
      have hws : W.heap.size ≤ wr.heap.size := HB.out.size
      generalize (l.take k).filter (doneB l) = L at HO HO1 HX hfl ⊢
      clear hst HO HG
      have HNo : Hid (doneB l x = false → (l.take (k + 1)).filter (doneB l) = L) := fun h => by rw [HX.out, h]; simp
      by_cases hk3 : x.k < 3
      · rw [show decide (x.k < 3) = true by simp [hk3], Bool.true_and] at HDb
        have HT := hideIt (isTx_any x.p (wr.alloc (.cells #[.int .i64 x.p, .int .i64 x.k, .int .i64 x.m] 40)))
        go_wp2_with fail
        refine HT.out.mono ?_
        clear HT c0 c1 c2
        rintro e w2 ⟨rfl, rfl⟩
        have hsz : (wr.alloc (.cells #[.int .i64 x.p, .int .i64 x.k, .int .i64 x.m] 40)).heap.size = wr.heap.size + 1 := by simp
        generalize wr.alloc _ = WA at HB1 HO1 HG1 d0 d1 d2 hsz ⊢
        generalize wr.heap.size = Z at d0 d1 d2 hws hGl hsz ⊢
        have hT := @txB_iff x.p
        generalize txB x.p = tb at hT ⊢
        cases tb
        · have hcb : commB l x.p = false := by
            cases h : commB l x.p
            · rfl
            · have := hT.2 (hCm h); cases this
          have HX2 := hideIt (HNo.out (by rw [HDb.out]; exact hcb))
          clear hT hcb hCm HX HDb HNo
          go_wp2
          go_roundw
          case rel => exact ⟨k + 1, by omega, by go_num, by rw [HX2.out]; exact HO1.out, HB1.out⟩
          case measure => simp [intOf]; omega
        · have hp := hT.1 rfl
          obtain ⟨t, ht⟩ : ∃ t : Nat, x.p = (t : Int) := ⟨x.p.toNat, by omega⟩
          have ht8 : t < 8 := by omega
          have ht8' : (t : Int) < 8 := by omega
          have o0 := HG1.out.at' ht8
          rw [HFq.out t, ← ht] at o0
          obtain ⟨cb, hcb⟩ : ∃ cb, commB l x.p = cb := ⟨_, rfl⟩
          rw [hcb] at HDb o0
          have d0' := d0
          rw [ht] at d0'
          clear hT hcb hCm
          cases cb
          · have HX2 := hideIt (HNo.out HDb.out)
            rw [ht]
            clear HX HDb HNo d0 ht
            go_wp2
            go_roundw
            case rel => exact ⟨k + 1, by omega, by go_num, by rw [HX2.out]; exact HO1.out, HB1.out⟩
            case measure => simp [intOf]; omega
          · have HX2 : Hid ((l.take (k + 1)).filter (doneB l) = L ++ [x]) := by
              show _ = L ++ [x]
              rw [HX.out, HDb.out]; simp
            have hO3 : (WA.alloc (.cells #[.int .i64 x.p, .int .i64 x.k, .int .i64 x.m] 40)).ownsRow W.heap.size 40 3 (.slice va L.length vc) L.length (stpC L) := ownsRow_same HO1.out fun b' hb' => Below.heap_alloc _ _ _ (ownsRow_block HO1.out b' hb').2.1
            have hSA : StpAt (WA.alloc (.cells #[.int .i64 x.p, .int .i64 x.k, .int .i64 x.m] 40)) WA.heap.size 0 x := by
              have e := heap_alloc_new WA (.cells #[.int .i64 x.p, .int .i64 x.k, .int .i64 x.m] 40)
              exact ⟨cell_of_row _ _ _ _ 40 (0, 0) e, cell_of_row _ _ _ _ 40 (0, 0) e, cell_of_row _ _ _ _ 40 (0, 0) e⟩
            obtain ⟨n1, w6, hr6, ho6, hg6, hob6⟩ := run_appT hO3 hSA (by simp; omega) (by omega) 25
            have HB6 : Hid (Below W.heap.size W w6) := (belA HB1.out _).grown hg6 (by simp; omega) (fun b' hb' => (ownsRow_block hO3 b' hb').1)
            obtain ⟨na, nc, hn1⟩ := ownsRow_slice ho6
            have HO6 : Hid (w6.ownsRow W.heap.size 40 3 n1 (L ++ [x]).length (stpC (L ++ [x]))) := by
              rw [List.length_append]; exact ho6
            have HR6 := hideIt hr6
            clear hO3 hSA ho6 hg6 hob6 hr6 HX HDb HNo hsz
            subst hn1
            rw [ht] at HR6 ⊢
            clear d0 ht
            go_wp2_with (at_builtin; refine wpList_append_run _ rfl _ _ 25 rfl _ _ _ w6 rfl rfl HR6.out ?_)
            go_roundw
            case rel => exact ⟨k + 1, by omega, by go_num, by rw [HX2.out]; exact HO6.out, HB6.out⟩
            case measure => simp [intOf]; omega
      · have HX2 := hideIt (HNo.out (by rw [HDb.out, show decide (x.k < 3) = false by simp; omega]; rfl))
        clear HX HDb HNo hCm d0 d2
        go_wp2
        go_roundw
        case rel => exact ⟨k + 1, by omega, by go_num, by rw [HX2.out]; exact HO1.out, HB1.out⟩
        case measure => simp [intOf]; omega
    · obtain rfl : k = l.length := by omega
      rw [List.take_length] at HO ⊢
      go_wp2
      go_ret
      refine ⟨_, rfl, ?_, belJ HB0.out HB.out⟩
      have h1 := HO.out
      exact ownsRow_base h1 HB0.out.size
end Go.Proofs.Ythmiocbihhbdpaa
