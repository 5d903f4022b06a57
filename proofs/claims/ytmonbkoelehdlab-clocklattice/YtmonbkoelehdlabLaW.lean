/-
  The statement ClockLattice, walked.
-/
import Derived.Test.YtmonbkoelehdlabGrW
import Derived.Test.YtmonbkoelehdlabRgL
import Derived.Test.YtmonbkoelehdlabLaP
namespace Go.Proofs.Ytmonbkoelehdlab
open Go.RowKit

set_option maxRecDepth 100000 in
set_option maxHeartbeats 4000000 in
theorem cl_walk (l : List Stp) (a : Option Addr) (cap : Nat) (c d : Nat → Int) (w : World) (hmax : l.length ≤ maxLen) (hl : StpsQ w a l) :
    Calls Try.prog 5 #[.slice a l.length cap, vecA c, vecA d] w fun e w' => e = .returned (.bool true) ∧ Below w.heap.size w w' := by
  have HC0 : Hid (VecB (((w.alloc (vecO c 22)).alloc (vecO d 22)).alloc (vecO (fun _ => 0) 22)) w.heap.size c) := ((vecB_new w c 22).alloc _).alloc _
  have HD0 : Hid (VecB (((w.alloc (vecO c 22)).alloc (vecO d 22)).alloc (vecO (fun _ => 0) 22)) (w.heap.size + 1) d) := by
    have := (vecB_new (w.alloc (vecO c 22)) d 22).alloc (vecO (fun _ => 0) 22)
    rw [World.size_alloc] at this
    exact this
  have HA0 : Hid (VecB (((w.alloc (vecO c 22)).alloc (vecO d 22)).alloc (vecO (fun _ => 0) 22)) (w.heap.size + 1 + 1) (fun _ => 0)) := by
    have := vecB_new ((w.alloc (vecO c 22)).alloc (vecO d 22)) (fun _ => 0) 22
    rw [World.size_alloc, World.size_alloc] at this
    exact this
  have HB0 : Hid (Below w.heap.size w (((w.alloc (vecO c 22)).alloc (vecO d 22)).alloc (vecO (fun _ => 0) 22))) := belA (belA (belA (Below.refl _ _) _) _) _
  have HBs : Hid (Below w.heap.size w ((w.alloc (vecO c 22)).alloc (vecO d 22))) := belA (belA (Below.refl _ _) _) _
  have HL := hideIt hl
  clear hl
  unfold vecO at HC0 HD0 HA0 HB0 HBs
  unfold vecA
  go_enter Try.func5, Try.ntmps5
  by_cases h30 : l.length ≤ 30
  · go_wp2
    generalize ((w.alloc _).alloc _).alloc _ = W at HC0 HD0 HA0 HB0 ⊢
    go_loopw [8] (fun v wr => ∃ k : Nat, k ≤ l.length ∧ v = .int .i64 k ∧ VecB wr (w.heap.size + 1 + 1) (cntN l (fun _ => true) k) ∧ VecB wr w.heap.size c ∧ VecB wr (w.heap.size + 1) d ∧ Below w.heap.size w wr) (fun v _ => l.length - (intOf v).toNat)
    case atStart => exact ⟨0, Nat.zero_le _, rfl, HA0.out, HC0.out, HD0.out, HB0.out⟩
    case round =>
      clear HA0 HC0 HD0 HB0
      obtain ⟨k, hk, rfl, ha, hc, hd, hb⟩ := hrel
      have HA := hideIt ha
      have HC := hideIt hc
      have HD := hideIt hd
      have HB := hideIt hb
      clear ha hc hd hb
      by_cases hkl : k < l.length
      · obtain ⟨b, off, rfl, hlt, hst⟩ : ∃ b off, a = some ⟨b, off, none⟩ ∧ b < w.heap.size ∧ StpsAt w b off l := by
          rcases HL.out with h | h
          · subst h; simp at hkl
          · exact h
        have x0 := ((hst k hkl).below hlt HB.out).1
        rw [← stZ_at hkl] at x0
        have HN := hideIt (cntN_succ l (fun _ => true) k)
        clear hst HL
        by_cases hin : 0 ≤ (stZ l k).p ∧ (stZ l k).p < 8
        · obtain ⟨p, hp⟩ : ∃ p : Nat, (stZ l k).p = (p : Int) := ⟨(stZ l k).p.toNat, by omega⟩
          have hp8 : p < 8 := by omega
          rw [hp] at x0
          have hnum := cntN_num l (fun _ => true) k p
          obtain ⟨V, HV2⟩ : ∃ V, Hid (cntN l (fun _ => true) k = V) := ⟨_, hideIt rfl⟩
          rw [HV2.out] at HA HN hnum
          have c0 := HA.out.at' hp8
          have z0 := HA.out.fz p
          have hp8' : (p : Int) < 8 := by omega
          have R1 : Hid (VecB (wr.setCell ⟨w.heap.size + 1 + 1, p, none⟩ (.int .i64 (V p + 1))) (w.heap.size + 1 + 1) (cntN l (fun _ => true) (k + 1))) := (HA.out.put hp8 (V p + 1)).same fun q _ => by
            rw [HN.out q, hp]
            by_cases e : q = p
            · subst e; simp
            · have : ¬ ((p : Int) = (q : Int)) := by omega
              simp [e, this]
          have R2 : Hid (VecB (wr.setCell ⟨w.heap.size + 1 + 1, p, none⟩ (.int .i64 (V p + 1))) w.heap.size c) := HC.out.other (p := ⟨w.heap.size + 1 + 1, p, none⟩) (by show w.heap.size ≠ w.heap.size + 1 + 1; omega) _
          have R3 : Hid (VecB (wr.setCell ⟨w.heap.size + 1 + 1, p, none⟩ (.int .i64 (V p + 1))) (w.heap.size + 1) d) := HD.out.other (p := ⟨w.heap.size + 1 + 1, p, none⟩) (by show w.heap.size + 1 ≠ w.heap.size + 1 + 1; omega) _
          have R4 : Hid (Below w.heap.size w (wr.setCell ⟨w.heap.size + 1 + 1, p, none⟩ (.int .i64 (V p + 1)))) := HB.out.setCell (p := ⟨w.heap.size + 1 + 1, p, none⟩) (by show w.heap.size ≤ w.heap.size + 1 + 1; omega) _
          clear hin
          go_wp2
          go_roundw
          case rel => exact ⟨k + 1, by omega, by go_num, R1.out, R2.out, R3.out, R4.out⟩
          case measure => simp [intOf]; omega
        · have R1 : Hid (VecB wr (w.heap.size + 1 + 1) (cntN l (fun _ => true) (k + 1))) := HA.out.same fun q hq => by
            rw [HN.out q, if_neg (fun h => hin (by omega))]; omega
          by_cases h0 : 0 ≤ (stZ l k).p
          · have h8 : ¬ (stZ l k).p < 8 := fun h => hin ⟨h0, h⟩
            generalize (stZ l k).p = xp at x0 h0 h8
            clear hin
            go_wp2
            go_roundw
            case rel => exact ⟨k + 1, by omega, by go_num, R1.out, HC.out, HD.out, HB.out⟩
            case measure => simp [intOf]; omega
          · generalize (stZ l k).p = xp at x0 h0
            clear hin
            go_wp2
            go_roundw
            case rel => exact ⟨k + 1, by omega, by go_num, R1.out, HC.out, HD.out, HB.out⟩
            case measure => simp [intOf]; omega
      · obtain rfl : k = l.length := by omega
        have HA2 : Hid (VecB wr (w.heap.size + 1 + 1) (fun q => (allC l (q : Int) : Int))) := HA.out
        clear HA
        go_upto_region 10 with fail
        have HX : Hid (∃ L H : Nat, L = wr.heap.size ∧ H = wr.heap.size + 1) := ⟨_, _, rfl, rfl⟩
        have HA3 : Hid (VecB ((wr.alloc (vecO (fun _ => 0) 23)).alloc (vecO (fun _ => 0) 23)) (w.heap.size + 1 + 1) (fun q => (allC l (q : Int) : Int))) := (HA2.out.alloc _).alloc _
        have HC3 : Hid (VecB ((wr.alloc (vecO (fun _ => 0) 23)).alloc (vecO (fun _ => 0) 23)) w.heap.size c) := (HC.out.alloc _).alloc _
        have HD3 : Hid (VecB ((wr.alloc (vecO (fun _ => 0) 23)).alloc (vecO (fun _ => 0) 23)) (w.heap.size + 1) d) := (HD.out.alloc _).alloc _
        have HL3 : Hid (VecB ((wr.alloc (vecO (fun _ => 0) 23)).alloc (vecO (fun _ => 0) 23)) wr.heap.size (fun _ => 0)) := (vecB_new wr (fun _ => 0) 23).alloc _
        have HH3 : Hid (VecB ((wr.alloc (vecO (fun _ => 0) 23)).alloc (vecO (fun _ => 0) 23)) (wr.heap.size + 1) (fun _ => 0)) := by
          have := vecB_new (wr.alloc (vecO (fun _ => 0) 23)) (fun _ => 0) 23
          rw [World.size_alloc] at this
          exact this
        have HB3 : Hid (Below w.heap.size w ((wr.alloc (vecO (fun _ => 0) 23)).alloc (vecO (fun _ => 0) 23))) := belA (belA HB.out _) _
        have HLt : Hid (w.heap.size + 1 + 1 < wr.heap.size) := HA2.out.lt
        unfold vecO at HA3 HC3 HD3 HL3 HH3 HB3
        clear HA2 HC HD HB
        generalize (wr.alloc _).alloc _ = W2 at HA3 HC3 HD3 HL3 HH3 HB3 ⊢
        generalize wr.heap.size = L at HL3 HH3 HLt ⊢
        clear HX
        go_wp2
        go_loopw [11] (fun v wr => ∃ (k : Nat) (c' d' : Nat → Int), k ≤ 8 ∧ v = .int .i64 k ∧ (∀ p, p < k → (0 ≤ c' p ∧ c' p ≤ allC l (p : Int)) ∧ 0 ≤ d' p ∧ d' p ≤ allC l (p : Int)) ∧ VecB wr (w.heap.size + 1 + 1) (fun q => (allC l (q : Int) : Int)) ∧ VecB wr w.heap.size c' ∧ VecB wr (w.heap.size + 1) d' ∧ VecB wr L (fun _ => 0) ∧ VecB wr (L + 1) (fun _ => 0) ∧ Below w.heap.size w wr) (fun v _ => 8 - (intOf v).toNat)
        case atStart => exact ⟨0, c, d, by omega, rfl, fun p h => absurd h (by omega), HA3.out, HC3.out, HD3.out, HL3.out, HH3.out, HB3.out⟩
        case round =>
          clear HA3 HC3 HD3 HL3 HH3 HB3
          obtain ⟨k, c', d', hk, rfl, hcd, ha, hc, hd, hlo, hhi, hb⟩ := hrel
          have HCd := hideIt hcd
          have HA := hideIt ha
          have HC := hideIt hc
          have HD := hideIt hd
          have HLo := hideIt hlo
          have HHi := hideIt hhi
          have HB := hideIt hb
          clear hcd ha hc hd hb hlo hhi
          by_cases hk8 : k < 8
          · have hk8' : (k : Int) < 8 := by omega
            have hall := cnt_len l (fun _ => true) (k : Int)
            obtain ⟨m, hm⟩ : ∃ m : Nat, allC l (k : Int) = m := ⟨_, rfl⟩
            have hm30 : m ≤ 30 := by rw [← hm]; exact Nat.le_trans hall h30
            have HM := hideIt hm
            have a0 := HA.out.at' hk8
            have c0 := HC.out.at' hk8
            have d0 := HD.out.at' hk8
            have zc := HC.out.fz k
            have zd := HD.out.fz k
            rw [hm] at a0
            clear hall hm
            have HPk : Hid (∀ x W', Calls Try.prog 14 #[.int .i64 x, .int .i64 (IntKind.i64.wrap ((m : Int) + 1))] W' fun e w' => ∃ r : Nat, r ≤ m ∧ e = .returned (.int .i64 (r : Int)) ∧ w' = W') := fun x W' => by
              rw [show IntKind.i64.wrap ((m : Int) + 1) = (m : Int) + 1 by rw [IntKind.wrap_i64]; omega]
              exact pick_plus x m (by omega) W'
            have HE : Hid (∀ r s : Nat, r ≤ m → s ≤ m → ∀ W', W' = ((wr.setCell ⟨w.heap.size, k, none⟩ (.int .i64 (r : Int))).setCell ⟨w.heap.size + 1, k, none⟩ (.int .i64 (s : Int))).drew → ∃ (k' : Nat) (c'' d'' : Nat → Int), k' ≤ 8 ∧ Value.int .i64 ((k : Int) + 1) = .int .i64 k' ∧ (∀ p, p < k' → (0 ≤ c'' p ∧ c'' p ≤ allC l (p : Int)) ∧ 0 ≤ d'' p ∧ d'' p ≤ allC l (p : Int)) ∧ VecB W' (w.heap.size + 1 + 1) (fun q => (allC l (q : Int) : Int)) ∧ VecB W' w.heap.size c'' ∧ VecB W' (w.heap.size + 1) d'' ∧ VecB W' L (fun _ => 0) ∧ VecB W' (L + 1) (fun _ => 0) ∧ Below w.heap.size w W') := fun r s hr hs W' hW => by
              have hlt := HLt.out
              subst hW
              have h1 := (HC.out.put hk8 (r : Int)).other (p := ⟨w.heap.size + 1, k, none⟩) (by show w.heap.size ≠ w.heap.size + 1; omega) (.int .i64 (s : Int))
              have h2 := (HD.out.other (p := ⟨w.heap.size, k, none⟩) (by show w.heap.size + 1 ≠ w.heap.size; omega) (.int .i64 (r : Int))).put hk8 (s : Int)
              have h3 := (HA.out.other (p := ⟨w.heap.size, k, none⟩) (by show w.heap.size + 1 + 1 ≠ w.heap.size; omega) (.int .i64 (r : Int))).other (p := ⟨w.heap.size + 1, k, none⟩) (by show w.heap.size + 1 + 1 ≠ w.heap.size + 1; omega) (.int .i64 (s : Int))
              have h4 := (HLo.out.other (p := ⟨w.heap.size, k, none⟩) (by show L ≠ w.heap.size; omega) (.int .i64 (r : Int))).other (p := ⟨w.heap.size + 1, k, none⟩) (by show L ≠ w.heap.size + 1; omega) (.int .i64 (s : Int))
              have h5 := (HHi.out.other (p := ⟨w.heap.size, k, none⟩) (by show L + 1 ≠ w.heap.size; omega) (.int .i64 (r : Int))).other (p := ⟨w.heap.size + 1, k, none⟩) (by show L + 1 ≠ w.heap.size + 1; omega) (.int .i64 (s : Int))
              have h6 := (HB.out.setCell (p := ⟨w.heap.size, k, none⟩) (Nat.le_refl _) (.int .i64 (r : Int))).setCell (p := ⟨w.heap.size + 1, k, none⟩) (by show w.heap.size ≤ w.heap.size + 1; omega) (.int .i64 (s : Int))
              refine ⟨k + 1, putV c' k r, putV d' k s, by omega, by go_num, fun p hp => ?_, ⟨h3.blk, h3.at_⟩, ⟨h1.blk, h1.at_⟩, ⟨h2.blk, h2.at_⟩, ⟨h4.blk, h4.at_⟩, ⟨h5.blk, h5.at_⟩, h6.drew⟩
              by_cases e : p = k
              · subst e
                simp only [putV, if_true]
                rw [HM.out]
                omega
              · simp only [putV, if_neg e]
                exact HCd.out p (by omega)
            have hx1 : ¬ w.heap.size = w.heap.size + 1 := by omega
            have hx2 : ¬ w.heap.size + 1 = w.heap.size := by omega
            go_upto_region 13 with fail
            refine wp_region_L (B := [19, 21]) (S := (fun w' => w'.cell? ⟨w.heap.size + 1 + 1, k, none⟩ = some (.int .i64 (m : Int)))) (T := (fun w' => w'.cell? ⟨w.heap.size, k, none⟩ = some (.int .i64 (c' k)) ∧ w'.cell? ⟨w.heap.size + 1, k, none⟩ = some (.int .i64 (d' k)))) (by kernel_rfl) ⟨a0, c0, d0⟩ (fun hHeld => ?_)
            refine wpAnyL_takeS (i := 0) (v := ?_) rfl (by kernel_rfl) (by kernel_rfl) (by kernel_rfl) (by kernel_rfl) (fun _ _ _ h => h) (Or.inl ⟨by rfl, ?_⟩) (by assumption) ?_
            rotate_left 1
            · intro w s0
              go_simp
              all_goals with_reducible rfl
            simp only [Act.put, List.setIfInBounds_toArray, List.set_cons_zero, List.set_cons_succ, List.getElem_toArray, List.getElem_cons_zero]
            refine wpAnyL_takeS (i := 1) (v := ?_) rfl (by kernel_rfl) (by kernel_rfl) (by kernel_rfl) (by kernel_rfl) (fun _ _ _ h => h) (Or.inl ⟨by rfl, ?_⟩) (by assumption) ?_
            rotate_left 1
            · intro w s0
              go_simp
              all_goals with_reducible rfl
            simp only [Act.put, List.setIfInBounds_toArray, List.set_cons_zero, List.set_cons_succ, List.getElem_toArray, List.getElem_cons_zero, List.getElem_cons_succ]
            refine wpAnyL_takeS (i := 2) (v := ?_) rfl (by kernel_rfl) (by kernel_rfl) (by kernel_rfl) (by kernel_rfl) (fun _ _ _ h => h) (Or.inl ⟨by rfl, ?_⟩) (by assumption) ?_
            rotate_left 1
            · intro w s0
              go_simp
              all_goals with_reducible rfl
            simp only [Act.put, List.setIfInBounds_toArray, List.set_cons_zero, List.set_cons_succ, List.getElem_toArray, List.getElem_cons_zero, List.getElem_cons_succ]
            refine wpAnyL_takeS (i := 3) (v := ?_) rfl (by kernel_rfl) (by kernel_rfl) (by kernel_rfl) (by kernel_rfl) (fun _ _ _ h => h) (Or.inl ⟨by rfl, ?_⟩) (by assumption) ?_
            rotate_left 1
            · intro w s0
              go_simp
              all_goals with_reducible rfl
            simp only [Act.put, List.setIfInBounds_toArray, List.set_cons_zero, List.set_cons_succ, List.getElem_toArray, List.getElem_cons_zero, List.getElem_cons_succ]
            refine wpAnyL_take [19, 21] (i := 4) (v := ?_) rfl (by kernel_rfl) (by kernel_rfl) (by kernel_rfl) (by kernel_rfl) (fun _ _ _ h => h) (Or.inl ⟨by rfl, ?_⟩) (by assumption) ?_
            rotate_left 1
            · intro w ⟨s0, s1, s2⟩
              go_simp
              all_goals with_reducible rfl
            simp only [Act.put, List.setIfInBounds_toArray, List.set_cons_zero, List.set_cons_succ, List.getElem_toArray, List.getElem_cons_zero, List.getElem_cons_succ]
            refine wpAnyL_takeS (i := 5) (v := ?_) rfl (by kernel_rfl) (by kernel_rfl) (by kernel_rfl) (by kernel_rfl) (fun _ _ _ h => h) (Or.inl ⟨by rfl, ?_⟩) (by assumption) ?_
            rotate_left 1
            · intro w s0
              go_simp
              all_goals with_reducible rfl
            simp only [Act.put, List.setIfInBounds_toArray, List.set_cons_zero, List.set_cons_succ, List.getElem_toArray, List.getElem_cons_zero, List.getElem_cons_succ]
            refine wpAnyL_takeS (i := 6) (v := ?_) rfl (by kernel_rfl) (by kernel_rfl) (by kernel_rfl) (by kernel_rfl) (fun _ _ _ h => h) (Or.inl ⟨by rfl, ?_⟩) (by assumption) ?_
            rotate_left 1
            · intro w s0
              go_simp
              all_goals with_reducible rfl
            simp only [Act.put, List.setIfInBounds_toArray, List.set_cons_zero, List.set_cons_succ, List.getElem_toArray, List.getElem_cons_zero, List.getElem_cons_succ]
            refine wpAnyL_takeS (i := 7) (v := ?_) rfl (by kernel_rfl) (by kernel_rfl) (by kernel_rfl) (by kernel_rfl) (fun _ _ _ h => h) (Or.inl ⟨by rfl, ?_⟩) (by assumption) ?_
            rotate_left 1
            · intro w s0
              go_simp
              all_goals with_reducible rfl
            simp only [Act.put, List.setIfInBounds_toArray, List.set_cons_zero, List.set_cons_succ, List.getElem_toArray, List.getElem_cons_zero, List.getElem_cons_succ]
            refine wpAnyL_takeS (i := 8) (v := ?_) rfl (by kernel_rfl) (by kernel_rfl) (by kernel_rfl) (by kernel_rfl) (fun _ _ _ h => h) (Or.inl ⟨by rfl, ?_⟩) (by assumption) ?_
            rotate_left 1
            · intro w s0
              go_simp
              all_goals with_reducible rfl
            simp only [Act.put, List.setIfInBounds_toArray, List.set_cons_zero, List.set_cons_succ, List.getElem_toArray, List.getElem_cons_zero, List.getElem_cons_succ]
            refine wpAnyL_takeS (i := 10) (v := ?_) rfl (by kernel_rfl) (by kernel_rfl) (by kernel_rfl) (by kernel_rfl) (fun _ _ _ h => h) (Or.inl ⟨by rfl, ?_⟩) (by assumption) ?_
            rotate_left 1
            · intro w s0
              go_simp
              all_goals with_reducible rfl
            simp only [Act.put, List.setIfInBounds_toArray, List.set_cons_zero, List.set_cons_succ, List.getElem_toArray, List.getElem_cons_zero, List.getElem_cons_succ]
            refine wpAnyL_takeS (i := 11) (v := ?_) rfl (by kernel_rfl) (by kernel_rfl) (by kernel_rfl) (by kernel_rfl) (fun _ _ _ h => h) (Or.inl ⟨by rfl, ?_⟩) (by assumption) ?_
            rotate_left 1
            · intro w s0
              go_simp
              all_goals with_reducible rfl
            simp only [Act.put, List.setIfInBounds_toArray, List.set_cons_zero, List.set_cons_succ, List.getElem_toArray, List.getElem_cons_zero, List.getElem_cons_succ]
            refine wpAnyL_take [17, 19, 21] (i := 12) (v := ?_) rfl (by kernel_rfl) (by kernel_rfl) (by kernel_rfl) (by kernel_rfl) (fun _ _ _ h => h) (Or.inl ⟨by rfl, ?_⟩) (by assumption) ?_
            rotate_left 1
            · intro w ⟨s0, s1, s2⟩
              go_simp
              all_goals with_reducible rfl
            simp only [Act.put, List.setIfInBounds_toArray, List.set_cons_zero, List.set_cons_succ, List.getElem_toArray, List.getElem_cons_zero, List.getElem_cons_succ]
            refine wpAnyL_takeS (i := 13) (v := ?_) rfl (by kernel_rfl) (by kernel_rfl) (by kernel_rfl) (by kernel_rfl) (fun _ _ _ h => h) (Or.inl ⟨by rfl, ?_⟩) (by assumption) ?_
            rotate_left 1
            · intro w s0
              go_simp
              all_goals with_reducible rfl
            simp only [Act.put, List.setIfInBounds_toArray, List.set_cons_zero, List.set_cons_succ, List.getElem_toArray, List.getElem_cons_zero, List.getElem_cons_succ]
            refine wpAnyL_takeS (i := 14) (v := ?_) rfl (by kernel_rfl) (by kernel_rfl) (by kernel_rfl) (by kernel_rfl) (fun _ _ _ h => h) (Or.inl ⟨by rfl, ?_⟩) (by assumption) ?_
            rotate_left 1
            · intro w s0
              go_simp
              all_goals with_reducible rfl
            simp only [Act.put, List.setIfInBounds_toArray, List.set_cons_zero, List.set_cons_succ, List.getElem_toArray, List.getElem_cons_zero, List.getElem_cons_succ]
            refine wpAnyL_takeS (i := 15) (v := ?_) rfl (by kernel_rfl) (by kernel_rfl) (by kernel_rfl) (by kernel_rfl) (fun _ _ _ h => h) (Or.inl ⟨by rfl, ?_⟩) (by assumption) ?_
            rotate_left 1
            · intro w s0
              go_simp
              all_goals with_reducible rfl
            simp only [Act.put, List.setIfInBounds_toArray, List.set_cons_zero, List.set_cons_succ, List.getElem_toArray, List.getElem_cons_zero, List.getElem_cons_succ]
            refine wpAnyL_takeS (i := 16) (v := ?_) rfl (by kernel_rfl) (by kernel_rfl) (by kernel_rfl) (by kernel_rfl) (fun _ _ _ h => h) (Or.inl ⟨by rfl, ?_⟩) (by assumption) ?_
            rotate_left 1
            · intro w s0
              go_simp
              all_goals with_reducible rfl
            simp only [Act.put, List.setIfInBounds_toArray, List.set_cons_zero, List.set_cons_succ, List.getElem_toArray, List.getElem_cons_zero, List.getElem_cons_succ]
            refine wpAnyL_ready (rs := [9]) (by kernel_rfl) (by simp) (AllReadyL.cons rfl (fun K hK => ?_) AllReadyL.nil)
            go_simp
            refine (HPk.out _ _).mono ?_
            rintro e w2 ⟨r, hr, rfl, rfl⟩
            refine hK.out _ _ ?_ (fun hHeld => ?_)
            · exact hHeld
            clear hK K
            refine wpAnyL_takeS (i := 18) (v := ?_) rfl (by kernel_rfl) (by kernel_rfl) (by kernel_rfl) (by kernel_rfl) (fun _ _ _ h => h) (Or.inl ⟨by rfl, ?_⟩) (by assumption) ?_
            rotate_left 1
            · intro w s0
              go_simp
              all_goals with_reducible rfl
            simp only [Act.put, List.setIfInBounds_toArray, List.set_cons_zero, List.set_cons_succ, List.getElem_toArray, List.getElem_cons_zero, List.getElem_cons_succ]
            refine wpAnyL_ready (rs := [17]) (by kernel_rfl) (by simp) (AllReadyL.cons rfl (fun K hK => ?_) AllReadyL.nil)
            go_simp
            refine (HPk.out _ _).mono ?_
            rintro e w2 ⟨s, hs, rfl, rfl⟩
            refine hK.out _ _ ?_ (fun hHeld => ?_)
            · exact hHeld
            clear hK K
            refine wpAnyL_ready (rs := [19]) (by kernel_rfl) (by simp) (AllReadyL.last rfl (by kernel_rfl) (fun K hK => ?_) AllReadyL.nil)
            go_simp
            refine hK.out _ _ ?_ (fun hHeld => ?_)
            · exact (World.cell?_setCell_other _ _ _ _ (blkNe (by omega))).trans hHeld.1
            clear hK K
            refine wpAnyL_takeE (i := 20) (v := ?_) rfl (by kernel_rfl) (by kernel_rfl) (by kernel_rfl) (by kernel_rfl) (by kernel_rfl) (fun _ _ _ h => h) (Or.inl ⟨by rfl, ?_⟩) (by assumption) ?_
            rotate_left 1
            · intro w s0
              go_simp
              all_goals with_reducible rfl
            simp only [Act.put, List.setIfInBounds_toArray, List.set_cons_zero, List.set_cons_succ, List.getElem_toArray, List.getElem_cons_zero, List.getElem_cons_succ]
            refine wpAnyL_ready (rs := [21]) (by kernel_rfl) (by simp) (AllReadyL.last rfl (by kernel_rfl) (fun K hK => ?_) AllReadyL.nil)
            go_simp
            refine hK.out _ _ ?_ (fun hHeld => ?_)
            · exact (World.cell?_setCell_other _ _ _ _ (blkNe (by omega))).trans hHeld
            clear hK K
            refine wpAnyL_done (by kernel_rfl) ?_ _
            go_wp2
            go_roundw
            case rel => exact HE.out r s hr hs _ rfl
            case measure => simp [intOf]; omega
          · obtain rfl : k = 8 := by omega
            have HCo : Hid (CutOk l c') := fun p hp => (HCd.out p hp).1
            have HDo : Hid (CutOk l d') := fun p hp => (HCd.out p hp).2
            obtain ⟨c0, c1, c2, c3, c4, c5, c6, c7⟩ := HC.out.eight
            have HBw := hideIt (below_any l a cap c' wr hmax (HL.out.below HB.out))
            unfold vecA at HBw
            clear HCd HA
            go_wp2_with fail
            refine HBw.out.mono ?_
            rintro e w1 ⟨b, err, n, pl, rfl, hck, her, hbe, hb1⟩
            unfold vecA
            clear HBw c0 c1 c2 c3 c4 c5 c6 c7
            have HCk : Hid (CkC l n pl) := hck.cut HCo.out
            have HBe := hideIt hbe
            have HEr := hideIt her
            clear hbe her hck
            go_upto_region 15 with fail
            have HV1 : Hid (VecB (w1.alloc (vecO b 23)) w1.heap.size b) := vecB_new w1 b 23
            have HB1 : Hid (Below w.heap.size w (w1.alloc (vecO b 23))) := belA (belJ HB.out hb1) _
            have HD1 : Hid (VecB (w1.alloc (vecO b 23)) (w.heap.size + 1) d') := (HD.out.below hb1 HD.out.lt).alloc _
            have HLo1 : Hid (VecB (w1.alloc (vecO b 23)) L (fun _ => 0)) := (HLo.out.below hb1 HLo.out.lt).alloc _
            have HHi1 : Hid (VecB (w1.alloc (vecO b 23)) (L + 1) (fun _ => 0)) := (HHi.out.below hb1 HHi.out.lt).alloc _
            have HG1 : Hid (L + 1 < w1.heap.size) := (HHi.out.below hb1 HHi.out.lt).lt
            unfold vecO at HV1 HB1 HD1 HLo1 HHi1
            clear HB HD HC HLo HHi hb1
            generalize w1.alloc _ = W2 at HV1 HB1 HD1 HLo1 HHi1 ⊢
            generalize w1.heap.size = G at HV1 HG1 ⊢
            obtain ⟨d0, d1, d2, d3, d4, d5, d6, d7⟩ := HD1.out.eight
            have HSt := hideIt (below_any l a cap d' W2 hmax (HL.out.below HB1.out))
            unfold vecA at HSt
            go_wp2_with fail
            refine HSt.out.mono ?_
            rintro e w3 ⟨b2, err2, n2, pl2, rfl, hck2, her2, hbe2, hb3⟩
            obtain ⟨rfl, rfl⟩ := (hck2.cut HDo.out).one HCk.out
            unfold vecA
            have HBe2 := hideIt hbe2
            have HEr2 := hideIt her2
            clear hbe2 her2 hck2 HSt d0 d1 d2 d3 d4 d5 d6 d7
            go_upto_region 16 with fail
            have HU3 : Hid (VecB (w3.alloc (vecO b2 23)) w3.heap.size b2) := vecB_new w3 b2 23
            have HV3 : Hid (VecB (w3.alloc (vecO b2 23)) G b) := (HV1.out.below hb3 HV1.out.lt).alloc _
            have HB3 : Hid (Below w.heap.size w (w3.alloc (vecO b2 23))) := belA (belJ HB1.out hb3) _
            have HLo3 : Hid (VecB (w3.alloc (vecO b2 23)) L (fun _ => 0)) := (HLo1.out.below hb3 HLo1.out.lt).alloc _
            have HHi3 : Hid (VecB (w3.alloc (vecO b2 23)) (L + 1) (fun _ => 0)) := (HHi1.out.below hb3 HHi1.out.lt).alloc _
            have HG3 : Hid (G < w3.heap.size) := (HV1.out.below hb3 HV1.out.lt).lt
            unfold vecO at HU3 HV3 HB3 HLo3 HHi3
            clear HV1 HD1 HB1 HLo1 HHi1 hb3
            generalize w3.alloc _ = W4 at HU3 HV3 HB3 HLo3 HHi3 ⊢
            generalize w3.heap.size = G2 at HU3 HG3 ⊢
            by_cases hn : n2 = 0
            · subst hn
              obtain ⟨rfl, rfl⟩ := HEr.out.nil
              obtain ⟨rfl, _⟩ := HEr2.out.nil
              have HF : Hid (∀ i, CutOk l (fourV b b2 i) ∧ stdB l (fourV b b2 i) = true) := four_ok HCk.out.clOk.proc (fun p hp => by rw [HBe.out p hp, if_pos rfl]) (fun p hp => by rw [HBe2.out p hp, if_pos rfl])
              clear HEr HEr2 HBe HBe2 HCo HDo
              go_wp2_with fail
              refine (sent_any _).mono ?_
              rintro e w4 ⟨rfl, hb4⟩
              have HB4 := hideIt (belJ HB3.out hb4)
              have HV4 := hideIt (HV3.out.below hb4 HV3.out.lt)
              have HU4 := hideIt (HU3.out.below hb4 HU3.out.lt)
              have HLo4 := hideIt (HLo3.out.below hb4 HLo3.out.lt)
              have HHi4 := hideIt (HHi3.out.below hb4 HHi3.out.lt)
              clear HB3 HV3 HU3 HLo3 HHi3 hb4
              go_wp2
              go_loopw [16] (fun v wr => ∃ k : Nat, k ≤ 8 ∧ v = .int .i64 k ∧ VecB wr G b ∧ VecB wr G2 b2 ∧ VecB wr L (fun q => if q < k then lowV b b2 q else 0) ∧ VecB wr (L + 1) (fun q => if q < k then joinV b b2 q else 0) ∧ Below w.heap.size w wr) (fun v _ => 8 - (intOf v).toNat)
              case atStart => exact ⟨0, by omega, rfl, HV4.out, HU4.out, HLo4.out.same fun q _ => by simp, HHi4.out.same fun q _ => by simp, HB4.out⟩
              case round =>
                clear HB4 HV4 HU4 HLo4 HHi4
                obtain ⟨k, hk, rfl, hv, hu, hlo, hhi, hb⟩ := hrel
                have HV := hideIt hv
                have HU := hideIt hu
                have HLo := hideIt hlo
                have HHi := hideIt hhi
                have HB := hideIt hb
                clear hv hu hlo hhi hb
                by_cases hk8 : k < 8
                · have hk8' : (k : Int) < 8 := by omega
                  have v0 := HV.out.at' hk8
                  have u0 := HU.out.at' hk8
                  have l0 := HLo.out.at' hk8
                  have h0 := HHi.out.at' hk8
                  have zl := HLo.out.fz k
                  have zh := HHi.out.fz k
                  simp only [Nat.lt_irrefl, if_false] at l0 h0
                  have HE : Hid (∀ W', W' = ((wr.setCell ⟨L, k, none⟩ (.int .i64 (if b2 k < b k then b2 k else b k))).setCell ⟨L + 1, k, none⟩ (.int .i64 (if b k < b2 k then b2 k else b k))).drew → ∃ k' : Nat, k' ≤ 8 ∧ Value.int .i64 ((k : Int) + 1) = .int .i64 k' ∧ VecB W' G b ∧ VecB W' G2 b2 ∧ VecB W' L (fun q => if q < k' then lowV b b2 q else 0) ∧ VecB W' (L + 1) (fun q => if q < k' then joinV b b2 q else 0) ∧ Below w.heap.size w W') := fun W' hW => by
                    have e1 := HLt.out
                    have e2 := HG1.out
                    have e3 := HG3.out
                    subst hW
                    have h1 := (HV.out.other (p := ⟨L, k, none⟩) (by show G ≠ L; omega) (.int .i64 (if b2 k < b k then b2 k else b k))).other (p := ⟨L + 1, k, none⟩) (by show G ≠ L + 1; omega) (.int .i64 (if b k < b2 k then b2 k else b k))
                    have h2 := (HU.out.other (p := ⟨L, k, none⟩) (by show G2 ≠ L; omega) (.int .i64 (if b2 k < b k then b2 k else b k))).other (p := ⟨L + 1, k, none⟩) (by show G2 ≠ L + 1; omega) (.int .i64 (if b k < b2 k then b2 k else b k))
                    have h3 := ((HLo.out.put hk8 (if b2 k < b k then b2 k else b k)).other (p := ⟨L + 1, k, none⟩) (by show L ≠ L + 1; omega) (.int .i64 (if b k < b2 k then b2 k else b k))).same (u := fun q => if q < k + 1 then lowV b b2 q else 0) fun q hq => by
                      by_cases e : q = k
                      · subst e; simp [lowV]
                      · have : q < k + 1 ↔ q < k := by omega
                        simp [e, this]
                    have h4 := ((HHi.out.other (p := ⟨L, k, none⟩) (by show L + 1 ≠ L; omega) (.int .i64 (if b2 k < b k then b2 k else b k))).put hk8 (if b k < b2 k then b2 k else b k)).same (u := fun q => if q < k + 1 then joinV b b2 q else 0) fun q hq => by
                      by_cases e : q = k
                      · subst e; simp [joinV]
                      · have : q < k + 1 ↔ q < k := by omega
                        simp [e, this]
                    have h5 := (HB.out.setCell (p := ⟨L, k, none⟩) (by show w.heap.size ≤ L; omega) (.int .i64 (if b2 k < b k then b2 k else b k))).setCell (p := ⟨L + 1, k, none⟩) (by show w.heap.size ≤ L + 1; omega) (.int .i64 (if b k < b2 k then b2 k else b k))
                    exact ⟨k + 1, by omega, by go_num, ⟨h1.blk, h1.at_⟩, ⟨h2.blk, h2.at_⟩, ⟨h3.blk, h3.at_⟩, ⟨h4.blk, h4.at_⟩, h5.drew⟩
                  have hg1 := HG1.out
                  have hg3 := HG3.out
                  go_upto_region 21 with fail
                  refine wp_region_held_drew (S := (fun w' => w'.cell? ⟨G, k, none⟩ = some (.int .i64 (b k)) ∧ w'.cell? ⟨G2, k, none⟩ = some (.int .i64 (b2 k)))) (by kernel_rfl) ⟨v0, u0⟩ (fun hHeld => ?_)
                  refine wpAnyH_take (i := 0) (v := ?_) rfl (by kernel_rfl) (by kernel_rfl) (by kernel_rfl) (fun _ _ _ h => h) (Or.inl ⟨by rfl, ?_⟩) (by assumption) ?_
                  rotate_left 1
                  · intro w ⟨s0, s1⟩
                    go_simp
                    all_goals with_reducible rfl
                  simp only [Act.put, List.setIfInBounds_toArray, List.set_cons_zero, List.set_cons_succ, List.getElem_toArray, List.getElem_cons_zero]
                  refine wpAnyH_take (i := 1) (v := ?_) rfl (by kernel_rfl) (by kernel_rfl) (by kernel_rfl) (fun _ _ _ h => h) (Or.inl ⟨by rfl, ?_⟩) (by assumption) ?_
                  rotate_left 1
                  · intro w ⟨s0, s1⟩
                    go_simp
                    all_goals with_reducible rfl
                  simp only [Act.put, List.setIfInBounds_toArray, List.set_cons_zero, List.set_cons_succ, List.getElem_toArray, List.getElem_cons_zero, List.getElem_cons_succ]
                  refine wpAnyH_take (i := 2) (v := ?_) rfl (by kernel_rfl) (by kernel_rfl) (by kernel_rfl) (fun _ _ _ h => h) (Or.inl ⟨by rfl, ?_⟩) (by assumption) ?_
                  rotate_left 1
                  · intro w ⟨s0, s1⟩
                    go_simp
                    all_goals with_reducible rfl
                  simp only [Act.put, List.setIfInBounds_toArray, List.set_cons_zero, List.set_cons_succ, List.getElem_toArray, List.getElem_cons_zero, List.getElem_cons_succ]
                  refine wpAnyH_take (i := 3) (v := ?_) rfl (by kernel_rfl) (by kernel_rfl) (by kernel_rfl) (fun _ _ _ h => h) (Or.inl ⟨by rfl, ?_⟩) (by assumption) ?_
                  rotate_left 1
                  · intro w ⟨s0, s1⟩
                    go_simp
                    all_goals with_reducible rfl
                  simp only [Act.put, List.setIfInBounds_toArray, List.set_cons_zero, List.set_cons_succ, List.getElem_toArray, List.getElem_cons_zero, List.getElem_cons_succ]
                  refine wpAnyH_take (i := 4) (v := ?_) rfl (by kernel_rfl) (by kernel_rfl) (by kernel_rfl) (fun _ _ _ h => h) (Or.inl ⟨by rfl, ?_⟩) (by assumption) ?_
                  rotate_left 1
                  · intro w ⟨s0, s1⟩
                    go_simp
                    all_goals with_reducible rfl
                  simp only [Act.put, List.setIfInBounds_toArray, List.set_cons_zero, List.set_cons_succ, List.getElem_toArray, List.getElem_cons_zero, List.getElem_cons_succ]
                  refine wpAnyH_take (i := 5) (v := ?_) rfl (by kernel_rfl) (by kernel_rfl) (by kernel_rfl) (fun _ _ _ h => h) (Or.inl ⟨by rfl, ?_⟩) (by assumption) ?_
                  rotate_left 1
                  · intro w ⟨s0, s1⟩
                    go_simp
                    all_goals with_reducible rfl
                  simp only [Act.put, List.setIfInBounds_toArray, List.set_cons_zero, List.set_cons_succ, List.getElem_toArray, List.getElem_cons_zero, List.getElem_cons_succ]
                  refine wpAnyH_take (i := 6) (v := ?_) rfl (by kernel_rfl) (by kernel_rfl) (by kernel_rfl) (fun _ _ _ h => h) (Or.inl ⟨by rfl, ?_⟩) (by assumption) ?_
                  rotate_left 1
                  · intro w ⟨s0, s1⟩
                    go_simp
                    all_goals with_reducible rfl
                  simp only [Act.put, List.setIfInBounds_toArray, List.set_cons_zero, List.set_cons_succ, List.getElem_toArray, List.getElem_cons_zero, List.getElem_cons_succ]
                  refine wpAnyH_take (i := 7) (v := ?_) rfl (by kernel_rfl) (by kernel_rfl) (by kernel_rfl) (fun _ _ _ h => h) (Or.inl ⟨by rfl, ?_⟩) (by assumption) ?_
                  rotate_left 1
                  · intro w ⟨s0, s1⟩
                    go_simp
                    all_goals with_reducible rfl
                  simp only [Act.put, List.setIfInBounds_toArray, List.set_cons_zero, List.set_cons_succ, List.getElem_toArray, List.getElem_cons_zero, List.getElem_cons_succ]
                  refine wpAnyH_take (i := 8) (v := ?_) rfl (by kernel_rfl) (by kernel_rfl) (by kernel_rfl) (fun _ _ _ h => h) (Or.inl ⟨by rfl, ?_⟩) (by assumption) ?_
                  rotate_left 1
                  · intro w ⟨s0, s1⟩
                    go_simp
                    all_goals with_reducible rfl
                  simp only [Act.put, List.setIfInBounds_toArray, List.set_cons_zero, List.set_cons_succ, List.getElem_toArray, List.getElem_cons_zero, List.getElem_cons_succ]
                  refine wpAnyH_take (i := 9) (v := ?_) rfl (by kernel_rfl) (by kernel_rfl) (by kernel_rfl) (fun _ _ _ h => h) (Or.inl ⟨by rfl, ?_⟩) (by assumption) ?_
                  rotate_left 1
                  · intro w ⟨s0, s1⟩
                    go_simp
                    all_goals with_reducible rfl
                  simp only [Act.put, List.setIfInBounds_toArray, List.set_cons_zero, List.set_cons_succ, List.getElem_toArray, List.getElem_cons_zero, List.getElem_cons_succ]
                  refine wpAnyH_take (i := 10) (v := ?_) rfl (by kernel_rfl) (by kernel_rfl) (by kernel_rfl) (fun _ _ _ h => h) (Or.inl ⟨by rfl, ?_⟩) (by assumption) ?_
                  rotate_left 1
                  · intro w ⟨s0, s1⟩
                    go_simp
                    all_goals with_reducible rfl
                  simp only [Act.put, List.setIfInBounds_toArray, List.set_cons_zero, List.set_cons_succ, List.getElem_toArray, List.getElem_cons_zero, List.getElem_cons_succ]
                  refine wpAnyH_take (i := 11) (v := ?_) rfl (by kernel_rfl) (by kernel_rfl) (by kernel_rfl) (fun _ _ _ h => h) (Or.inl ⟨by rfl, ?_⟩) (by assumption) ?_
                  rotate_left 1
                  · intro w ⟨s0, s1⟩
                    go_simp
                    all_goals with_reducible rfl
                  simp only [Act.put, List.setIfInBounds_toArray, List.set_cons_zero, List.set_cons_succ, List.getElem_toArray, List.getElem_cons_zero, List.getElem_cons_succ]
                  refine wpAnyH_take (i := 12) (v := ?_) rfl (by kernel_rfl) (by kernel_rfl) (by kernel_rfl) (fun _ _ _ h => h) (Or.inl ⟨by rfl, ?_⟩) (by assumption) ?_
                  rotate_left 1
                  · intro w ⟨s0, s1⟩
                    go_simp
                    all_goals with_reducible rfl
                  simp only [Act.put, List.setIfInBounds_toArray, List.set_cons_zero, List.set_cons_succ, List.getElem_toArray, List.getElem_cons_zero, List.getElem_cons_succ]
                  refine wpAnyH_take (i := 13) (v := ?_) rfl (by kernel_rfl) (by kernel_rfl) (by kernel_rfl) (fun _ _ _ h => h) (Or.inl ⟨by rfl, ?_⟩) (by assumption) ?_
                  rotate_left 1
                  · intro w ⟨s0, s1⟩
                    go_simp
                    all_goals with_reducible rfl
                  simp only [Act.put, List.setIfInBounds_toArray, List.set_cons_zero, List.set_cons_succ, List.getElem_toArray, List.getElem_cons_zero, List.getElem_cons_succ]
                  refine wpAnyH_take (i := 14) (v := ?_) rfl (by kernel_rfl) (by kernel_rfl) (by kernel_rfl) (fun _ _ _ h => h) (Or.inl ⟨by rfl, ?_⟩) (by assumption) ?_
                  rotate_left 1
                  · intro w ⟨s0, s1⟩
                    go_simp
                    all_goals with_reducible rfl
                  simp only [Act.put, List.setIfInBounds_toArray, List.set_cons_zero, List.set_cons_succ, List.getElem_toArray, List.getElem_cons_zero, List.getElem_cons_succ]
                  refine wpAnyH_take (i := 15) (v := ?_) rfl (by kernel_rfl) (by kernel_rfl) (by kernel_rfl) (fun _ _ _ h => h) (Or.inl ⟨by rfl, ?_⟩) (by assumption) ?_
                  rotate_left 1
                  · intro w ⟨s0, s1⟩
                    go_simp
                    all_goals with_reducible rfl
                  simp only [Act.put, List.setIfInBounds_toArray, List.set_cons_zero, List.set_cons_succ, List.getElem_toArray, List.getElem_cons_zero, List.getElem_cons_succ]
                  refine wpAnyH_take (i := 16) (v := ?_) rfl (by kernel_rfl) (by kernel_rfl) (by kernel_rfl) (fun _ _ _ h => h) (Or.inl ⟨by rfl, ?_⟩) (by assumption) ?_
                  rotate_left 1
                  · intro w ⟨s0, s1⟩
                    go_simp
                    all_goals with_reducible rfl
                  simp only [Act.put, List.setIfInBounds_toArray, List.set_cons_zero, List.set_cons_succ, List.getElem_toArray, List.getElem_cons_zero, List.getElem_cons_succ]
                  refine wpAnyH_ready (rs := [17]) (by kernel_rfl) (by simp) (AllReadyH.cons rfl (fun K hK => ?_) AllReadyH.nil)
                  go_simp
                  refine hK.out _ _ ?_ (fun hHeld => ?_)
                  · exact ⟨(World.cell?_setCell_other _ _ _ _ (blkNe (by omega))).trans hHeld.1, (World.cell?_setCell_other _ _ _ _ (blkNe (by omega))).trans hHeld.2⟩
                  clear hK K
                  refine wpAnyH_take (i := 18) (v := ?_) rfl (by kernel_rfl) (by kernel_rfl) (by kernel_rfl) (fun _ _ _ h => h) (Or.inl ⟨by rfl, ?_⟩) (by assumption) ?_
                  rotate_left 1
                  · intro w ⟨s0, s1⟩
                    go_simp
                    all_goals with_reducible rfl
                  simp only [Act.put, List.setIfInBounds_toArray, List.set_cons_zero, List.set_cons_succ, List.getElem_toArray, List.getElem_cons_zero, List.getElem_cons_succ]
                  refine wpAnyH_ready (rs := [19]) (by kernel_rfl) (by simp) (AllReadyH.cons rfl (fun K hK => ?_) AllReadyH.nil)
                  go_simp
                  refine hK.out _ _ ?_ (fun hHeld => ?_)
                  · exact ⟨(World.cell?_setCell_other _ _ _ _ (blkNe (by omega))).trans hHeld.1, (World.cell?_setCell_other _ _ _ _ (blkNe (by omega))).trans hHeld.2⟩
                  clear hK K
                  refine wpAnyH_done (by kernel_rfl) ?_ _
                  go_wp2
                  go_roundw
                  case rel => exact HE.out _ rfl
                  case measure => simp [intOf]; omega
                · obtain rfl : k = 8 := by omega
                  have HLo5 : Hid (VecB wr L (lowV b b2)) := HLo.out.same fun q hq => by simp [hq]
                  have HHi5 : Hid (VecB wr (L + 1) (joinV b b2)) := HHi.out.same fun q hq => by simp [hq]
                  obtain ⟨v0, v1, v2, v3, v4, v5, v6, v7⟩ := HV.out.eight
                  obtain ⟨u0, u1, u2, u3, u4, u5, u6, u7⟩ := HU.out.eight
                  obtain ⟨l0, l1, l2, l3, l4, l5, l6, l7⟩ := HLo5.out.eight
                  obtain ⟨h0, h1, h2, h3, h4, h5, h6, h7⟩ := HHi5.out.eight
                  clear HLo HHi
                  go_upto_region 23 with fail
                  have HQ4 : Hid (∀ i, i < 4 → VecIn (wr.alloc (fourO b b2 23)) wr.heap.size (i * 8) (fourV b b2 i)) := four_new wr b b2 23
                  have HB5 : Hid (Below w.heap.size w (wr.alloc (fourO b b2 23))) := belA HB.out _
                  have HZ : Hid (wr.heap.size < (wr.alloc (fourO b b2 23)).heap.size) := by simp [Hid]
                  unfold fourO at HQ4 HB5 HZ
                  clear HV HU HLo5 HHi5 HB v0 v1 v2 v3 v4 v5 v6 v7 u0 u1 u2 u3 u4 u5 u6 u7 l0 l1 l2 l3 l4 l5 l6 l7 h0 h1 h2 h3 h4 h5 h6 h7 HG1 HG3 HLt
                  generalize wr.alloc _ = W5 at HQ4 HB5 HZ ⊢
                  generalize wr.heap.size = Z at HQ4 HZ ⊢
                  go_loopw [136] (fun v wr => ∃ k : Nat, k ≤ 4 ∧ v = .int .i64 k ∧ (∀ i, i < 4 → VecIn wr Z (i * 8) (fourV b b2 i)) ∧ Below w.heap.size w wr ∧ Z < wr.heap.size) (fun v _ => 4 - (intOf v).toNat)
                  case atStart => exact ⟨0, by omega, rfl, HQ4.out, HB5.out, HZ.out⟩
                  case round =>
                    clear HQ4 HB5 HZ
                    obtain ⟨k, hk, rfl, hq, hb, hz⟩ := hrel
                    have HQ := hideIt hq
                    have HB := hideIt hb
                    have HZ := hideIt hz
                    clear hq hb hz
                    by_cases hk4 : k < 4
                    · have hk4' : (k : Int) < 4 := by omega
                      obtain ⟨v0, v1, v2, v3, v4, v5, v6, v7⟩ := (HQ.out k hk4).eight
                      obtain ⟨X, HX⟩ : ∃ X, Hid (fourV b b2 k = X) := ⟨_, hideIt rfl⟩
                      have HFk := hideIt (HF.out k)
                      rw [HX.out] at v0 v1 v2 v3 v4 v5 v6 v7 HFk
                      have HB6 : Hid (Below w.heap.size w (wr.alloc (vecO X 23))) := belA HB.out _
                      have HQ6 : Hid (∀ i, i < 4 → VecIn (wr.alloc (vecO X 23)) Z (i * 8) (fourV b b2 i)) := fun i hi => (HQ.out i hi).alloc _
                      have HZ6 : Hid (Z < (wr.alloc (vecO X 23)).heap.size) := by
                        have := HZ.out
                        show Z < _
                        rw [World.size_alloc]; omega
                      have HSt := hideIt (steady_any l a cap X (wr.alloc (vecO X 23)) hmax (HL.out.below HB6.out))
                      unfold vecO at HB6 HQ6 HSt HZ6
                      unfold vecA at HSt
                      go_wp2_with fail
                      refine HSt.out.mono ?_
                      rintro e w7 ⟨ok, err, n, pl', rfl, hck, her, hok, hb7⟩
                      obtain ⟨rfl, rfl⟩ := (hck.cut HFk.out.1).one HCk.out
                      obtain ⟨rfl, _⟩ := her.nil
                      obtain rfl : ok = true := by rw [hok, HFk.out.2]; rfl
                      have R1 : Hid (∀ i, i < 4 → VecIn w7 Z (i * 8) (fourV b b2 i)) := fun i hi => (HQ6.out i hi).below hb7 HZ6.out
                      have R2 : Hid (Below w.heap.size w w7) := belJ HB6.out hb7
                      have R3 : Hid (Z < w7.heap.size) := Nat.lt_of_lt_of_le HZ6.out hb7.size
                      clear hck her hok hb7 HSt v0 v1 v2 v3 v4 v5 v6 v7
                      go_wp2
                      go_roundw
                      case rel =>
                        (repeat apply Exists.intro)
                        exact ⟨⟨k + 1, by omega, by go_num, R1.out, R2.out, R3.out⟩, rfl⟩
                      case measure => simp [intOf]; omega
                    · go_wp2
                      go_ret
                      exact ⟨rfl, HB.out⟩
            · obtain ⟨t1, q1, rfl⟩ := HEr.out.ne hn
              obtain ⟨t2, q2, rfl⟩ := HEr2.out.ne hn
              clear HEr HEr2 HBe HBe2
              go_wp2_with fail
              refine (sent_any _).mono ?_
              rintro e w4 ⟨rfl, hb4⟩
              have HB4 := hideIt (belJ HB3.out hb4)
              clear hb4
              go_wp2_with fail
              refine (sent_any _).mono ?_
              rintro e w5 ⟨rfl, hb5⟩
              go_wp2
              go_ret
              exact ⟨rfl, belJ HB4.out hb5⟩
  · go_wp2
    go_ret
    exact ⟨rfl, HBs.out⟩
end Go.Proofs.Ytmonbkoelehdlab
