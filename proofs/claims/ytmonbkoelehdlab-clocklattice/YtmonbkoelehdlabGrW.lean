/-
  The statement ClockGreatest, walked.
-/
import Derived.Test.YtmonbkoelehdlabPkW
import Derived.Test.YtmonbkoelehdlabSbC
namespace Go.Proofs.Ytmonbkoelehdlab
open Go.RowKit

/-- How many of the first ones count. -/
def cntN (l : List Stp) (S : Nat → Bool) (i : Nat) (q : Nat) : Int := ((List.range i).countP fun j => S j && (stZ l j).p == (q : Int) : Nat)
theorem cntN_succ (l : List Stp) (S : Nat → Bool) (i q : Nat) : cntN l S (i + 1) q = cntN l S i q + if S i = true ∧ (stZ l i).p = (q : Int) then 1 else 0 := by
  unfold cntN
  rw [List.range_succ, List.countP_append]
  by_cases e : S i = true ∧ (stZ l i).p = (q : Int)
  · rw [if_pos e]; simp [e.1, e.2]
  · rw [if_neg e]
    have : (S i && (stZ l i).p == (q : Int)) = false := by
      cases hS : S i
      · rfl
      · simp; exact fun h => e ⟨hS, h⟩
    simp [this]
theorem cntN_num (l : List Stp) (S : Nat → Bool) (i q : Nat) : 0 ≤ cntN l S i q ∧ cntN l S i q ≤ i := by
  unfold cntN
  have := List.countP_le_length (p := fun j => S j && (stZ l j).p == (q : Int)) (l := List.range i)
  rw [List.length_range] at this
  omega

def putV (v : Nat → Int) (k : Nat) (x : Int) : Nat → Int := fun q => if q = k then x else v q

theorem CkX.cut {l : List Stp} {c : Nat → Int} {n pl : Int} (h : CkX l c n pl) (hc : CutOk l c) : CkC l n pl := by
  obtain ⟨n0, p0, h0, ⟨_, rfl, rfl⟩ | ⟨rfl, ⟨_, rfl, rfl⟩ | ⟨hn, _⟩⟩⟩ := h
  · exact h0
  · obtain ⟨_, _, rfl⟩ := h0.ok; exact h0
  · exact absurd hc hn

set_option maxRecDepth 100000 in
set_option maxHeartbeats 4000000 in
theorem cg_walk (l : List Stp) (a : Option Addr) (cap : Nat) (c d : Nat → Int) (w : World) (hmax : l.length ≤ maxLen) (hl : StpsQ w a l) :
    Calls Try.prog 6 #[.slice a l.length cap, vecA c, vecA d] w fun e w' => e = .returned (.bool true) ∧ Below w.heap.size w w' := by
  have HC0 : Hid (VecB (((w.alloc (vecO c 22)).alloc (vecO d 22)).alloc (vecO (fun _ => 0) 22)) w.heap.size c) := ((vecB_new w c 22).alloc _).alloc _
  have HD0 : Hid (VecB (((w.alloc (vecO c 22)).alloc (vecO d 22)).alloc (vecO (fun _ => 0) 22)) (w.heap.size + 1) d) := by
    have := (vecB_new (w.alloc (vecO c 22)) d 22).alloc (vecO (fun _ => 0) 22)
    rw [World.size_alloc] at this
    exact this
  have HA0 : Hid (VecB (((w.alloc (vecO c 22)).alloc (vecO d 22)).alloc (vecO (fun _ => 0) 22)) (w.heap.size + 1 + 1) (fun _ => 0)) := by
    have := vecB_new ((w.alloc (vecO c 22)).alloc (vecO d 22)) (fun _ => 0) 22
    rw [World.size_alloc, World.size_alloc] at this
    exact this
  have HB0 : Hid (Below w.heap.size w (((w.alloc (vecO c 22)).alloc (vecO d 22)).alloc (vecO (fun _ => 0) 22))) := belA (belA (belA (Below.refl _ _) _) _) _
  have HBs : Hid (Below w.heap.size w ((w.alloc (vecO c 22)).alloc (vecO d 22))) := belA (belA (Below.refl _ _) _) _
  have HL := hideIt hl
  clear hl
  unfold vecO at HC0 HD0 HA0 HB0 HBs
  unfold vecA
  go_enter Try.func6, Try.ntmps6
  by_cases h30 : l.length ≤ 30
  · go_wp2
    generalize ((w.alloc _).alloc _).alloc _ = W at HC0 HD0 HA0 HB0 ⊢
    go_loopw [8] (fun v wr => ∃ k : Nat, k ≤ l.length ∧ v = .int .i64 k ∧ VecB wr (w.heap.size + 1 + 1) (cntN l (fun _ => true) k) ∧ VecB wr w.heap.size c ∧ VecB wr (w.heap.size + 1) d ∧ Below w.heap.size w wr) (fun v _ => l.length - (intOf v).toNat)
    case atStart => exact ⟨0, Nat.zero_le _, rfl, HA0.out, HC0.out, HD0.out, HB0.out⟩
    case round =>
      clear HA0 HC0 HD0 HB0
      obtain ⟨k, hk, rfl, ha, hc, hd, hb⟩ := hrel
      have HA := hideIt ha
      have HC := hideIt hc
      have HD := hideIt hd
      have HB := hideIt hb
      clear ha hc hd hb
      by_cases hkl : k < l.length
      · obtain ⟨b, off, rfl, hlt, hst⟩ : ∃ b off, a = some ⟨b, off, none⟩ ∧ b < w.heap.size ∧ StpsAt w b off l := by
          rcases HL.out with h | h
          · subst h; simp at hkl
          · exact h
        have x0 := ((hst k hkl).below hlt HB.out).1
        rw [← stZ_at hkl] at x0
        have HN := hideIt (cntN_succ l (fun _ => true) k)
        clear hst HL
        by_cases hin : 0 ≤ (stZ l k).p ∧ (stZ l k).p < 8
        · obtain ⟨p, hp⟩ : ∃ p : Nat, (stZ l k).p = (p : Int) := ⟨(stZ l k).p.toNat, by omega⟩
          have hp8 : p < 8 := by omega
          rw [hp] at x0
          have hnum := cntN_num l (fun _ => true) k p
          obtain ⟨V, HV2⟩ : ∃ V, Hid (cntN l (fun _ => true) k = V) := ⟨_, hideIt rfl⟩
          rw [HV2.out] at HA HN hnum
          have c0 := HA.out.at' hp8
          have z0 := HA.out.fz p
          have hp8' : (p : Int) < 8 := by omega
          have R1 : Hid (VecB (wr.setCell ⟨w.heap.size + 1 + 1, p, none⟩ (.int .i64 (V p + 1))) (w.heap.size + 1 + 1) (cntN l (fun _ => true) (k + 1))) := (HA.out.put hp8 (V p + 1)).same fun q _ => by
            rw [HN.out q, hp]
            by_cases e : q = p
            · subst e; simp
            · have : ¬ ((p : Int) = (q : Int)) := by omega
              simp [e, this]
          have R2 : Hid (VecB (wr.setCell ⟨w.heap.size + 1 + 1, p, none⟩ (.int .i64 (V p + 1))) w.heap.size c) := HC.out.other (p := ⟨w.heap.size + 1 + 1, p, none⟩) (by show w.heap.size ≠ w.heap.size + 1 + 1; omega) _
          have R3 : Hid (VecB (wr.setCell ⟨w.heap.size + 1 + 1, p, none⟩ (.int .i64 (V p + 1))) (w.heap.size + 1) d) := HD.out.other (p := ⟨w.heap.size + 1 + 1, p, none⟩) (by show w.heap.size + 1 ≠ w.heap.size + 1 + 1; omega) _
          have R4 : Hid (Below w.heap.size w (wr.setCell ⟨w.heap.size + 1 + 1, p, none⟩ (.int .i64 (V p + 1)))) := HB.out.setCell (p := ⟨w.heap.size + 1 + 1, p, none⟩) (by show w.heap.size ≤ w.heap.size + 1 + 1; omega) _
          clear hin
          go_wp2
          go_roundw
          case rel => exact ⟨k + 1, by omega, by go_num, R1.out, R2.out, R3.out, R4.out⟩
          case measure => simp [intOf]; omega
        · have R1 : Hid (VecB wr (w.heap.size + 1 + 1) (cntN l (fun _ => true) (k + 1))) := HA.out.same fun q hq => by
            rw [HN.out q, if_neg (fun h => hin (by omega))]; omega
          by_cases h0 : 0 ≤ (stZ l k).p
          · have h8 : ¬ (stZ l k).p < 8 := fun h => hin ⟨h0, h⟩
            generalize (stZ l k).p = xp at x0 h0 h8
            clear hin
            go_wp2
            go_roundw
            case rel => exact ⟨k + 1, by omega, by go_num, R1.out, HC.out, HD.out, HB.out⟩
            case measure => simp [intOf]; omega
          · generalize (stZ l k).p = xp at x0 h0
            clear hin
            go_wp2
            go_roundw
            case rel => exact ⟨k + 1, by omega, by go_num, R1.out, HC.out, HD.out, HB.out⟩
            case measure => simp [intOf]; omega
      · obtain rfl : k = l.length := by omega
        have HA2 : Hid (VecB wr (w.heap.size + 1 + 1) (fun q => (allC l (q : Int) : Int))) := HA.out
        clear HA
        go_wp2
        go_loopw [9] (fun v wr => ∃ (k : Nat) (c' d' : Nat → Int), k ≤ 8 ∧ v = .int .i64 k ∧ (∀ p, p < k → (0 ≤ c' p ∧ c' p ≤ allC l (p : Int)) ∧ 0 ≤ d' p ∧ d' p ≤ c' p) ∧ VecB wr (w.heap.size + 1 + 1) (fun q => (allC l (q : Int) : Int)) ∧ VecB wr w.heap.size c' ∧ VecB wr (w.heap.size + 1) d' ∧ Below w.heap.size w wr) (fun v _ => 8 - (intOf v).toNat)
        case atStart => exact ⟨0, c, d, by omega, rfl, fun p h => absurd h (by omega), HA2.out, HC.out, HD.out, HB.out⟩
        case round =>
          clear HA2 HC HD HB
          obtain ⟨k, c', d', hk, rfl, hcd, ha, hc, hd, hb⟩ := hrel
          have HCd := hideIt hcd
          have HA := hideIt ha
          have HC := hideIt hc
          have HD := hideIt hd
          have HB := hideIt hb
          clear hcd ha hc hd hb
          by_cases hk8 : k < 8
          · have hk8' : (k : Int) < 8 := by omega
            have hall := cnt_len l (fun _ => true) (k : Int)
            obtain ⟨m, hm⟩ : ∃ m : Nat, allC l (k : Int) = m := ⟨_, rfl⟩
            have hm30 : m ≤ 30 := by rw [← hm]; exact Nat.le_trans hall h30
            have HM := hideIt hm
            have a0 := HA.out.at' hk8
            have c0 := HC.out.at' hk8
            have zc := HC.out.fz k
            rw [hm] at a0
            clear hall hm
            have HPk : Hid (∀ x W', Calls Try.prog 14 #[.int .i64 x, .int .i64 (IntKind.i64.wrap ((m : Int) + 1))] W' fun e w' => ∃ r : Nat, r ≤ m ∧ e = .returned (.int .i64 (r : Int)) ∧ w' = W') := fun x W' => by
              rw [show IntKind.i64.wrap ((m : Int) + 1) = (m : Int) + 1 by rw [IntKind.wrap_i64]; omega]
              exact pick_plus x m (by omega) W'
            go_upto_region 12 with fail
            go_cut [] (fun wx => ∃ r : Nat, r ≤ m ∧ VecB wx (w.heap.size + 1 + 1) (fun q => (allC l (q : Int) : Int)) ∧ VecB wx w.heap.size (putV c' k r) ∧ VecB wx (w.heap.size + 1) d' ∧ Below w.heap.size w wx)
            case first =>
              have HE : Hid (∀ r : Nat, r ≤ m → ∀ W', W' = (wr.setCell ⟨w.heap.size, k, none⟩ (.int .i64 (r : Int))).drew → ∃ r : Nat, r ≤ m ∧ VecB W' (w.heap.size + 1 + 1) (fun q => (allC l (q : Int) : Int)) ∧ VecB W' w.heap.size (putV c' k r) ∧ VecB W' (w.heap.size + 1) d' ∧ Below w.heap.size w W') := fun r hr W' hW => by
                subst hW
                have h1 := HC.out.put hk8 (r : Int)
                have h2 := HA.out.other (p := ⟨w.heap.size, k, none⟩) (by show w.heap.size + 1 + 1 ≠ w.heap.size; omega) (.int .i64 (r : Int))
                have h3 := HD.out.other (p := ⟨w.heap.size, k, none⟩) (by show w.heap.size + 1 ≠ w.heap.size; omega) (.int .i64 (r : Int))
                have h4 := HB.out.setCell (p := ⟨w.heap.size, k, none⟩) (Nat.le_refl _) (.int .i64 (r : Int))
                exact ⟨r, hr, ⟨h2.blk, h2.at_⟩, ⟨h1.blk, h1.at_⟩, ⟨h3.blk, h3.at_⟩, h4.drew⟩
              refine wp_region_held_drew (S := (fun w' => w'.cell? ⟨w.heap.size + 1 + 1, k, none⟩ = some (.int .i64 (m : Int)))) (by kernel_rfl) (by go_keep) (fun hHeld => ?_)
              refine wpAnyH_take (i := 0) (v := ?_) rfl (by kernel_rfl) (by kernel_rfl) (by kernel_rfl) (fun _ _ _ h => h) (Or.inl ⟨by rfl, ?_⟩) (by assumption) ?_
              rotate_left 1
              · intro w s0
                go_simp
                all_goals with_reducible rfl
              simp only [Act.put, List.setIfInBounds_toArray, List.set_cons_zero, List.set_cons_succ, List.getElem_toArray, List.getElem_cons_zero]
              refine wpAnyH_take (i := 1) (v := ?_) rfl (by kernel_rfl) (by kernel_rfl) (by kernel_rfl) (fun _ _ _ h => h) (Or.inl ⟨by rfl, ?_⟩) (by assumption) ?_
              rotate_left 1
              · intro w s0
                go_simp
                all_goals with_reducible rfl
              simp only [Act.put, List.setIfInBounds_toArray, List.set_cons_zero, List.set_cons_succ, List.getElem_toArray, List.getElem_cons_zero, List.getElem_cons_succ]
              refine wpAnyH_take (i := 2) (v := ?_) rfl (by kernel_rfl) (by kernel_rfl) (by kernel_rfl) (fun _ _ _ h => h) (Or.inl ⟨by rfl, ?_⟩) (by assumption) ?_
              rotate_left 1
              · intro w s0
                go_simp
                all_goals with_reducible rfl
              simp only [Act.put, List.setIfInBounds_toArray, List.set_cons_zero, List.set_cons_succ, List.getElem_toArray, List.getElem_cons_zero, List.getElem_cons_succ]
              refine wpAnyH_take (i := 4) (v := ?_) rfl (by kernel_rfl) (by kernel_rfl) (by kernel_rfl) (fun _ _ _ h => h) (Or.inl ⟨by rfl, ?_⟩) (by assumption) ?_
              rotate_left 1
              · intro w s0
                go_simp
                all_goals with_reducible rfl
              simp only [Act.put, List.setIfInBounds_toArray, List.set_cons_zero, List.set_cons_succ, List.getElem_toArray, List.getElem_cons_zero, List.getElem_cons_succ]
              refine wpAnyH_take (i := 5) (v := ?_) rfl (by kernel_rfl) (by kernel_rfl) (by kernel_rfl) (fun _ _ _ h => h) (Or.inl ⟨by rfl, ?_⟩) (by assumption) ?_
              rotate_left 1
              · intro w s0
                go_simp
                all_goals with_reducible rfl
              simp only [Act.put, List.setIfInBounds_toArray, List.set_cons_zero, List.set_cons_succ, List.getElem_toArray, List.getElem_cons_zero, List.getElem_cons_succ]
              refine wpAnyH_take (i := 6) (v := ?_) rfl (by kernel_rfl) (by kernel_rfl) (by kernel_rfl) (fun _ _ _ h => h) (Or.inl ⟨by rfl, ?_⟩) (by assumption) ?_
              rotate_left 1
              · intro w s0
                go_simp
                all_goals with_reducible rfl
              simp only [Act.put, List.setIfInBounds_toArray, List.set_cons_zero, List.set_cons_succ, List.getElem_toArray, List.getElem_cons_zero, List.getElem_cons_succ]
              refine wpAnyH_take (i := 7) (v := ?_) rfl (by kernel_rfl) (by kernel_rfl) (by kernel_rfl) (fun _ _ _ h => h) (Or.inl ⟨by rfl, ?_⟩) (by assumption) ?_
              rotate_left 1
              · intro w s0
                go_simp
                all_goals with_reducible rfl
              simp only [Act.put, List.setIfInBounds_toArray, List.set_cons_zero, List.set_cons_succ, List.getElem_toArray, List.getElem_cons_zero, List.getElem_cons_succ]
              refine wpAnyH_ready (rs := [3]) (by kernel_rfl) (by simp) (AllReadyH.cons rfl (fun K hK => ?_) AllReadyH.nil)
              go_simp
              refine hK.out _ _ ?_ (fun hHeld => ?_)
              · go_keep
              clear hK K
              refine wpAnyH_ready (rs := [8]) (by kernel_rfl) (by simp) (AllReadyH.cons rfl (fun K hK => ?_) AllReadyH.nil)
              go_simp
              refine (HPk.out _ _).mono ?_
              rintro e w2 ⟨r, hr, rfl, rfl⟩
              refine hK.out _ _ ?_ (fun hHeld => ?_)
              · go_keep
              clear hK K
              refine wpAnyH_ready (rs := [9]) (by kernel_rfl) (by simp) (AllReadyH.cons rfl (fun K hK => ?_) AllReadyH.nil)
              go_simp
              refine hK.out _ _ ?_ (fun hHeld => ?_)
              · go_keep
              clear hK K
              refine wpAnyH_ready (rs := [10]) (by kernel_rfl) (by simp) (AllReadyH.cons rfl (fun K hK => ?_) AllReadyH.nil)
              go_simp
              refine hK.out _ _ ?_ (fun hHeld => ?_)
              · exact (World.cell?_setCell_other _ _ _ _ (blkNe (by omega))).trans hHeld
              clear hK K
              refine wpAnyH_done (by kernel_rfl) ?_ _
              go_wp2
              go_meet
              exact HE.out _ hr _ rfl
            case rest =>
              obtain ⟨r, hr, ha, hc, hd, hb⟩ := hcut
              have HA3 := hideIt ha
              have HC3 := hideIt hc
              have HD3 := hideIt hd
              have HB3 := hideIt hb
              clear a0 c0 zc HA HC HD HB
              have a0 := ha.at' hk8
              have c0 := hc.at' hk8
              have d0 := hd.at' hk8
              have zd := hd.fz k
              rw [HM.out] at a0
              rw [show putV c' k (r : Int) k = (r : Int) by simp [putV]] at c0
              clear ha hc hd hb
              have HE : Hid (∀ s : Nat, s ≤ m → ∀ y : Int, y = (if r < s then (r : Int) else (s : Int)) → ∀ W', W' = (wc.setCell ⟨w.heap.size + 1, k, none⟩ (.int .i64 y)).drew → ∃ (k' : Nat) (c'' d'' : Nat → Int), k' ≤ 8 ∧ Value.int .i64 ((k : Int) + 1) = .int .i64 k' ∧ (∀ p, p < k' → (0 ≤ c'' p ∧ c'' p ≤ allC l (p : Int)) ∧ 0 ≤ d'' p ∧ d'' p ≤ c'' p) ∧ VecB W' (w.heap.size + 1 + 1) (fun q => (allC l (q : Int) : Int)) ∧ VecB W' w.heap.size c'' ∧ VecB W' (w.heap.size + 1) d'' ∧ Below w.heap.size w W') := fun s hs y hy W' hW => by
                subst hW
                have h1 := HD3.out.put hk8 y
                have h2 := HA3.out.other (p := ⟨w.heap.size + 1, k, none⟩) (by show w.heap.size + 1 + 1 ≠ w.heap.size + 1; omega) (.int .i64 y)
                have h3 := HC3.out.other (p := ⟨w.heap.size + 1, k, none⟩) (by show w.heap.size ≠ w.heap.size + 1; omega) (.int .i64 y)
                have h4 := HB3.out.setCell (p := ⟨w.heap.size + 1, k, none⟩) (by show w.heap.size ≤ w.heap.size + 1; omega) (.int .i64 y)
                refine ⟨k + 1, putV c' k r, putV d' k y, by omega, by go_num, fun p hp => ?_, ⟨h2.blk, h2.at_⟩, ⟨h3.blk, h3.at_⟩, ⟨h1.blk, h1.at_⟩, h4.drew⟩
                by_cases e : p = k
                · subst e
                  simp only [putV, if_true]
                  rw [HM.out]
                  subst hy
                  split <;> omega
                · simp only [putV, if_neg e]
                  exact HCd.out p (by omega)
              go_upto_region 13 with fail
              refine wp_region_held_drew (S := (fun w' => w'.cell? ⟨w.heap.size + 1 + 1, k, none⟩ = some (.int .i64 (m : Int)) ∧ w'.cell? ⟨w.heap.size, k, none⟩ = some (.int .i64 (r : Int)))) (by kernel_rfl) (by go_keep) (fun hHeld => ?_)
              refine wpAnyH_take (i := 0) (v := ?_) rfl (by kernel_rfl) (by kernel_rfl) (by kernel_rfl) (fun _ _ _ h => h) (Or.inl ⟨by rfl, ?_⟩) (by assumption) ?_
              rotate_left 1
              · intro w ⟨s0, s1⟩
                go_simp
                all_goals with_reducible rfl
              simp only [Act.put, List.setIfInBounds_toArray, List.set_cons_zero, List.set_cons_succ, List.getElem_toArray, List.getElem_cons_zero]
              refine wpAnyH_take (i := 1) (v := ?_) rfl (by kernel_rfl) (by kernel_rfl) (by kernel_rfl) (fun _ _ _ h => h) (Or.inl ⟨by rfl, ?_⟩) (by assumption) ?_
              rotate_left 1
              · intro w ⟨s0, s1⟩
                go_simp
                all_goals with_reducible rfl
              simp only [Act.put, List.setIfInBounds_toArray, List.set_cons_zero, List.set_cons_succ, List.getElem_toArray, List.getElem_cons_zero, List.getElem_cons_succ]
              refine wpAnyH_take (i := 2) (v := ?_) rfl (by kernel_rfl) (by kernel_rfl) (by kernel_rfl) (fun _ _ _ h => h) (Or.inl ⟨by rfl, ?_⟩) (by assumption) ?_
              rotate_left 1
              · intro w ⟨s0, s1⟩
                go_simp
                all_goals with_reducible rfl
              simp only [Act.put, List.setIfInBounds_toArray, List.set_cons_zero, List.set_cons_succ, List.getElem_toArray, List.getElem_cons_zero, List.getElem_cons_succ]
              refine wpAnyH_take (i := 4) (v := ?_) rfl (by kernel_rfl) (by kernel_rfl) (by kernel_rfl) (fun _ _ _ h => h) (Or.inl ⟨by rfl, ?_⟩) (by assumption) ?_
              rotate_left 1
              · intro w ⟨s0, s1⟩
                go_simp
                all_goals with_reducible rfl
              simp only [Act.put, List.setIfInBounds_toArray, List.set_cons_zero, List.set_cons_succ, List.getElem_toArray, List.getElem_cons_zero, List.getElem_cons_succ]
              refine wpAnyH_take (i := 5) (v := ?_) rfl (by kernel_rfl) (by kernel_rfl) (by kernel_rfl) (fun _ _ _ h => h) (Or.inl ⟨by rfl, ?_⟩) (by assumption) ?_
              rotate_left 1
              · intro w ⟨s0, s1⟩
                go_simp
                all_goals with_reducible rfl
              simp only [Act.put, List.setIfInBounds_toArray, List.set_cons_zero, List.set_cons_succ, List.getElem_toArray, List.getElem_cons_zero, List.getElem_cons_succ]
              refine wpAnyH_take (i := 6) (v := ?_) rfl (by kernel_rfl) (by kernel_rfl) (by kernel_rfl) (fun _ _ _ h => h) (Or.inl ⟨by rfl, ?_⟩) (by assumption) ?_
              rotate_left 1
              · intro w ⟨s0, s1⟩
                go_simp
                all_goals with_reducible rfl
              simp only [Act.put, List.setIfInBounds_toArray, List.set_cons_zero, List.set_cons_succ, List.getElem_toArray, List.getElem_cons_zero, List.getElem_cons_succ]
              refine wpAnyH_take (i := 7) (v := ?_) rfl (by kernel_rfl) (by kernel_rfl) (by kernel_rfl) (fun _ _ _ h => h) (Or.inl ⟨by rfl, ?_⟩) (by assumption) ?_
              rotate_left 1
              · intro w ⟨s0, s1⟩
                go_simp
                all_goals with_reducible rfl
              simp only [Act.put, List.setIfInBounds_toArray, List.set_cons_zero, List.set_cons_succ, List.getElem_toArray, List.getElem_cons_zero, List.getElem_cons_succ]
              refine wpAnyH_take (i := 9) (v := ?_) rfl (by kernel_rfl) (by kernel_rfl) (by kernel_rfl) (fun _ _ _ h => h) (Or.inl ⟨by rfl, ?_⟩) (by assumption) ?_
              rotate_left 1
              · intro w ⟨s0, s1⟩
                go_simp
                all_goals with_reducible rfl
              simp only [Act.put, List.setIfInBounds_toArray, List.set_cons_zero, List.set_cons_succ, List.getElem_toArray, List.getElem_cons_zero, List.getElem_cons_succ]
              refine wpAnyH_take (i := 10) (v := ?_) rfl (by kernel_rfl) (by kernel_rfl) (by kernel_rfl) (fun _ _ _ h => h) (Or.inl ⟨by rfl, ?_⟩) (by assumption) ?_
              rotate_left 1
              · intro w ⟨s0, s1⟩
                go_simp
                all_goals with_reducible rfl
              simp only [Act.put, List.setIfInBounds_toArray, List.set_cons_zero, List.set_cons_succ, List.getElem_toArray, List.getElem_cons_zero, List.getElem_cons_succ]
              refine wpAnyH_take (i := 11) (v := ?_) rfl (by kernel_rfl) (by kernel_rfl) (by kernel_rfl) (fun _ _ _ h => h) (Or.inl ⟨by rfl, ?_⟩) (by assumption) ?_
              rotate_left 1
              · intro w ⟨s0, s1⟩
                go_simp
                all_goals with_reducible rfl
              simp only [Act.put, List.setIfInBounds_toArray, List.set_cons_zero, List.set_cons_succ, List.getElem_toArray, List.getElem_cons_zero, List.getElem_cons_succ]
              refine wpAnyH_ready (rs := [3]) (by kernel_rfl) (by simp) (AllReadyH.cons rfl (fun K hK => ?_) AllReadyH.nil)
              go_simp
              refine hK.out _ _ ?_ (fun hHeld => ?_)
              · go_keep
              clear hK K
              refine wpAnyH_ready (rs := [8]) (by kernel_rfl) (by simp) (AllReadyH.cons rfl (fun K hK => ?_) AllReadyH.nil)
              go_simp
              refine (HPk.out _ _).mono ?_
              rintro e w2 ⟨s, hs, rfl, rfl⟩
              refine hK.out _ _ ?_ (fun hHeld => ?_)
              · go_keep
              clear hK K
              refine wpAnyH_ready (rs := [12]) (by kernel_rfl) (by simp) (AllReadyH.cons rfl (fun K hK => ?_) AllReadyH.nil)
              go_simp
              refine hK.out _ _ ?_ (fun hHeld => ?_)
              · go_keep
              clear hK K
              refine wpAnyH_ready (rs := [13]) (by kernel_rfl) (by simp) (AllReadyH.cons rfl (fun K hK => ?_) AllReadyH.nil)
              go_simp
              refine hK.out _ _ ?_ (fun hHeld => ?_)
              · go_keep
              clear hK K
              refine wpAnyH_ready (rs := [14]) (by kernel_rfl) (by simp) (AllReadyH.cons rfl (fun K hK => ?_) AllReadyH.nil)
              go_simp
              refine hK.out _ _ ?_ (fun hHeld => ?_)
              · exact ⟨(World.cell?_setCell_other _ _ _ _ (blkNe (by omega))).trans hHeld.1, (World.cell?_setCell_other _ _ _ _ (blkNe (by omega))).trans hHeld.2⟩
              clear hK K
              refine wpAnyH_done (by kernel_rfl) ?_ _
              go_wp2
              go_roundw
              case rel => exact HE.out s hs _ rfl _ rfl
              case measure => simp [intOf]; omega
          · obtain rfl : k = 8 := by omega
            have HCo : Hid (CutOk l c') := fun p hp => (HCd.out p hp).1
            have HDo : Hid (CutOk l d') := fun p hp => ⟨(HCd.out p hp).2.1, Int.le_trans (HCd.out p hp).2.2 (HCd.out p hp).1.2⟩
            have HLe : Hid (∀ p, p < 8 → d' p ≤ c' p) := fun p hp => (HCd.out p hp).2.2
            obtain ⟨c0, c1, c2, c3, c4, c5, c6, c7⟩ := HC.out.eight
            have HBw := hideIt (below_any l a cap c' wr hmax (HL.out.below HB.out))
            unfold vecA at HBw
            clear HCd HA
            go_wp2_with fail
            refine HBw.out.mono ?_
            rintro e w1 ⟨b, err, n, pl, rfl, hck, her, hbe, hb1⟩
            unfold vecA
            clear HBw c0 c1 c2 c3 c4 c5 c6 c7
            have HCk : Hid (CkC l n pl) := hck.cut HCo.out
            have HBe := hideIt hbe
            have HEr := hideIt her
            clear hbe her hck
            go_upto_region 15 with fail
            have HV1 : Hid (VecB (w1.alloc (vecO b 23)) w1.heap.size b) := vecB_new w1 b 23
            have HB1 : Hid (Below w.heap.size w (w1.alloc (vecO b 23))) := belA (belJ HB.out hb1) _
            have HD1 : Hid (VecB (w1.alloc (vecO b 23)) (w.heap.size + 1) d') := (HD.out.below hb1 HD.out.lt).alloc _
            have HC1 : Hid (VecB (w1.alloc (vecO b 23)) w.heap.size c') := (HC.out.below hb1 HC.out.lt).alloc _
            unfold vecO at HV1 HB1 HD1 HC1
            clear HB HD HC hb1
            generalize w1.alloc _ = W2 at HV1 HB1 HD1 HC1 ⊢
            generalize w1.heap.size = G at HV1 ⊢
            obtain ⟨d0, d1, d2, d3, d4, d5, d6, d7⟩ := HD1.out.eight
            have HSt := hideIt (steady_any l a cap d' W2 hmax (HL.out.below HB1.out))
            unfold vecA at HSt
            go_wp2_with fail
            refine HSt.out.mono ?_
            rintro e w3 ⟨ok, err2, n2, pl2, rfl, hck2, her2, hok, hb3⟩
            obtain ⟨rfl, rfl⟩ := (hck2.cut HDo.out).one HCk.out
            have HV3 := hideIt (HV1.out.below hb3 HV1.out.lt)
            have HD3 := hideIt (HD1.out.below hb3 HD1.out.lt)
            have HC3 := hideIt (HC1.out.below hb3 HC1.out.lt)
            have HB3 := hideIt (belJ HB1.out hb3)
            have her := HEr.out
            have hbe := HBe.out
            clear HSt HV1 HD1 HC1 HB1 hb3 d0 d1 d2 d3 d4 d5 d6 d7 hck2 HEr HBe
            by_cases hn : n2 = 0
            · subst hn
              obtain ⟨rfl, rfl⟩ := her.nil
              obtain ⟨rfl, _⟩ := her2.nil
              have HW1 : Hid (leB b c' = true) := leB_iff.2 fun p hp => by
                rw [hbe p hp, if_pos rfl]; exact bel_le HCo.out hp
              have HW2 : Hid (ok = true → leB d' b = true) := fun h => leB_iff.2 fun p hp => by
                rw [hbe p hp, if_pos rfl]
                rw [hok] at h
                simp at h
                exact bel_great HDo.out ((steady_cut HCk.out.clOk.proc HDo.out).2 (stdB_iff.1 h)) HLe.out hp
              clear her her2 hbe hok
              go_wp2_with fail
              refine (sent_any _).mono ?_
              rintro e w4 ⟨rfl, hb4⟩
              have HB4 := hideIt (belJ HB3.out hb4)
              have HV4 := hideIt (HV3.out.below hb4 HV3.out.lt)
              have HD4 := hideIt (HD3.out.below hb4 HD3.out.lt)
              have HC4 := hideIt (HC3.out.below hb4 HC3.out.lt)
              obtain ⟨b0, b1, b2, b3, b4, b5, b6, b7⟩ := HV4.out.eight
              obtain ⟨c0, c1, c2, c3, c4, c5, c6, c7⟩ := HC4.out.eight
              clear HV3 HD3 HC3 HB3 hb4
              have HI1 := hideIt (within_any b c' w4)
              rw [HW1.out] at HI1
              unfold vecA at HI1
              cases ok
              · go_wp2_with fail
                refine HI1.out.mono ?_
                rintro e w5 ⟨rfl, hb5⟩
                go_wp2
                go_ret
                exact ⟨rfl, belJ HB4.out hb5⟩
              · go_wp2_with fail
                refine HI1.out.mono ?_
                rintro e w5 ⟨rfl, hb5⟩
                have HI2 := hideIt (within_any d' b w5)
                rw [HW2.out trivial] at HI2
                obtain ⟨b0, b1, b2, b3, b4, b5, b6, b7⟩ := (HV4.out.below hb5 HV4.out.lt).eight
                obtain ⟨d0, d1, d2, d3, d4, d5, d6, d7⟩ := (HD4.out.below hb5 HD4.out.lt).eight
                have HB5 := hideIt (belJ HB4.out hb5)
                clear hb5
                unfold vecA at HI2
                go_wp2_with fail
                refine HI2.out.mono ?_
                rintro e w6 ⟨rfl, hb6⟩
                go_wp2
                go_ret
                exact ⟨rfl, belJ HB5.out hb6⟩
            · obtain ⟨t1, u1, rfl⟩ := her.ne hn
              obtain ⟨t2, u2, rfl⟩ := her2.ne hn
              clear her her2 hbe hok
              go_wp2_with fail
              refine (sent_any _).mono ?_
              rintro e w4 ⟨rfl, hb4⟩
              have HB4 := hideIt (belJ HB3.out hb4)
              clear hb4
              go_wp2_with fail
              refine (sent_any _).mono ?_
              rintro e w5 ⟨rfl, hb5⟩
              go_wp2
              go_ret
              exact ⟨rfl, belJ HB4.out hb5⟩
  · go_wp2
    go_ret
    exact ⟨rfl, HBs.out⟩
end Go.Proofs.Ytmonbkoelehdlab
