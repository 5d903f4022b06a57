/-
  What OpsCheck of the document tells: the first fault.
-/
import Derived.Test.YtfojmbbhcmeejaaDoorWalkFZ
import Derived.Test.YtfojmbbhcmeejaaDoorWalkAZ
import Derived.Deep.DeepCutAuto
namespace Go.Proofs.YtfojmbbhcmeejaaDoor
open Go.RowKit

theorem small5 (a b r c e : Int) (blk : Nat) (w : World) (h0 : w.cell? ⟨blk, 0, none⟩ = some (.int .i64 a)) (h1 : w.cell? ⟨blk, 1, none⟩ = some (.int .i64 b)) (h2 : w.cell? ⟨blk, 2, none⟩ = some (.int .i64 r))
    (h3 : w.cell? ⟨blk, 3, none⟩ = some (.int .i64 c)) (h4 : w.cell? ⟨blk, 4, none⟩ = some (.int .i64 e)) :
    Calls Tryd.prog 45 #[.slice (some ⟨blk, 0, none⟩) 5 5] w fun ev w' => ev = .returned (.bool (numB a && numB b && numB r && numB c && numB e)) ∧ w' = w := by
  have h := small_any [a, b, r, c, e] blk w (by simp) (by
    intro j hj
    match j, hj with
    | 0, _ => exact h0
    | 1, _ => exact h1
    | 2, _ => exact h2
    | 3, _ => exact h3
    | 4, _ => exact h4)
  have e : [a, b, r, c, e].all numB = (numB a && numB b && numB r && numB c && numB e) := by simp [Bool.and_assoc]
  rw [e] at h
  exact h

theorem rangeB_of (x : Opn) (h1 : ¬ x.p < 0) (h2 : ¬ 7 < x.p) (h3 : ¬ x.k < 0) (h4 : ¬ 7 < x.k) : rangeB x = (numB x.a && numB x.b && numB x.r && numB x.c && numB x.e) := by
  unfold rangeB
  rw [inB_of _ _ _ _ _ (by omega) (by omega) (by omega) (by omega)]
theorem rangeB_no (x : Opn) (h : x.p < 0 ∨ 7 < x.p ∨ x.k < 0 ∨ 7 < x.k) : rangeB x = false := by
  unfold rangeB
  rw [inB_no _ _ _ _ _ h]; rfl
theorem below_alloc1 (w : World) (o o2 : Obj) : Below (w.heap.size + 1) (w.alloc o) ((w.alloc o).alloc o2) := (Below.refl _ _).alloc (by simp) _
theorem beq_swap (a b : Int) : (a == b) = (b == a) := by
  rw [Bool.eq_iff_iff, beq_iff_eq, beq_iff_eq]; exact eq_comm
theorem share_eq (y x : Opn) : shareB y x = (x.c == y.c || x.c == y.e || (x.e != -1 && (x.e == y.c || x.e == y.e))) := by
  unfold shareB hasB
  rw [beq_swap y.c x.c, beq_swap y.e x.c, beq_swap y.c x.e, beq_swap y.e x.e]
theorem take_take_succ (l : List Opn) (f : Opn → Bool) (k i : Nat) (hk : k ≤ l.length) (hi : i < k) (h0 : ((l.take k).take i).any f = false) (h1 : f (l[i]'(Nat.lt_of_lt_of_le hi hk)) = false) : ((l.take k).take (i + 1)).any f = false := by
  have hl : i < (l.take k).length := by rw [List.length_take, Nat.min_eq_left hk]; exact hi
  exact any_take_succ (l.take k) f i hl h0 (by rw [List.getElem_take]; exact h1)
theorem take_any_of (l : List Opn) (f : Opn → Bool) (k i : Nat) (hk : k ≤ l.length) (hi : i < k) (h1 : f (l[i]'(Nat.lt_of_lt_of_le hi hk)) = true) : (l.take k).any f = true := by
  have hl : i < (l.take k).length := by rw [List.length_take, Nat.min_eq_left hk]; exact hi
  exact any_of (l.take k) f i hl (by rw [List.getElem_take]; exact h1)
theorem take_all_done (l : List Opn) (f : Opn → Bool) (k i : Nat) (hk : k ≤ i) (h0 : ((l.take k).take i).any f = false) : (l.take k).any f = false := by
  rwa [List.take_of_length_le (by rw [List.length_take]; omega)] at h0
theorem kindB_no (n : Int) (h : n < 1 ∨ 12 < n) : kindB n = false := by
  cases e : kindB n
  · rfl
  · simp [kindB] at e; omega
theorem kindB_yes (n : Int) (h1 : ¬ n < 1) (h2 : ¬ 12 < n) : kindB n = true := by simp [kindB]; omega

set_option maxRecDepth 100000 in
set_option maxHeartbeats 4000000 in
theorem opsCheck_any (l : List Opn) (b off cap : Nat) (w : World) (hlen : l.length ≤ 60) (hcap : l.length ≤ cap) (hl : OpsAt w b off l) (hb : b < w.heap.size) :
    Calls Tryd.prog 25 #[.slice (some ⟨b, off, none⟩) l.length cap] w fun e w' => ∃ n, e = .returned (.int .i64 n) ∧ Told l n ∧ Below w.heap.size w w' := by
  have HL : Hid (OpsAt w b off l) := hl
  clear hl
  by_cases h40 : 40 < l.length
  · have HT : Hid (Told l 4) := told4 l h40
    go_enter Tryd.func25, Tryd.ntmps25
    go_wp2
    go_ret
    exact ⟨4, rfl, HT.out, Below.refl _ _⟩
  · have h40' : decide (40 < (l.length : Int)) = false := by simp; omega
    go_enter Tryd.func25, Tryd.ntmps25
    go_wp2
    go_loopw [14] (fun i wr => ∃ k : Nat, k ≤ l.length ∧ i = .int .i64 k ∧ FineTo l k ∧ Below w.heap.size w wr) (fun i _ => l.length - (intOf i).toNat)
    case atStart => exact ⟨0, Nat.zero_le _, rfl, fineTo_zero l, Below.refl _ _⟩
    case round =>
      obtain ⟨k, hk, rfl, hf, hnx⟩ := hrel
      have HF : Hid (FineTo l k) := hf
      clear hf
      by_cases hkl : k < l.length
      · have HC := (HL.out k hkl).below hb hnx
        have hsz := hnx.size
        obtain ⟨x, HX⟩ : ∃ x, Hid (l[k] = x) := ⟨_, hideIt rfl⟩
        rw [HX.out] at HC
        have HT : Hid (∀ n, opFaultN (l.take k) x = n → n ≠ 0 → Told l n) := fun n hn hz => by
          have h := toldAt l (by omega) k hkl (fun j hj => HF.out j (by omega) hj) (by rw [HX.out, hn]; exact hz)
          rw [HX.out, hn] at h
          exact h
        have HN : Hid (opFaultN (l.take k) x = 0 → FineTo l (k + 1)) := fun h0 => HF.out.succ hkl (by rw [HX.out]; exact h0)
        obtain ⟨c0, c1, c2, c3, c4, c5, c6, c7⟩ := HC
        by_cases h1 : x.p < 0
        · have R1 : Hid (Told l 2) := HT.out 2 (opFaultN_range _ x (rangeB_no x (by omega))) (by decide)
          go_wp2
          go_ret
          exact ⟨2, rfl, R1.out, belA hnx _⟩
        · by_cases h2 : 7 < x.p
          · have R1 : Hid (Told l 2) := HT.out 2 (opFaultN_range _ x (rangeB_no x (by omega))) (by decide)
            go_wp2
            go_ret
            exact ⟨2, rfl, R1.out, belA hnx _⟩
          · by_cases h3 : x.k < 0
            · have R1 : Hid (Told l 2) := HT.out 2 (opFaultN_range _ x (rangeB_no x (by omega))) (by decide)
              go_wp2
              go_ret
              exact ⟨2, rfl, R1.out, belA hnx _⟩
            · by_cases h4 : 7 < x.k
              · have R1 : Hid (Told l 2) := HT.out 2 (opFaultN_range _ x (rangeB_no x (by omega))) (by decide)
                go_wp2
                go_ret
                exact ⟨2, rfl, R1.out, belA hnx _⟩
              · have HR := rangeB_of x h1 h2 h3 h4
                obtain ⟨s5, HS5⟩ : ∃ s5, Hid ((numB x.a && numB x.b && numB x.r && numB x.c && numB x.e) = s5) := ⟨_, hideIt rfl⟩
                rw [HS5.out] at HR
                have HR := hideIt HR
                have HS : Hid (∀ (blk : Nat) (W : World), W.cell? ⟨blk, 0, none⟩ = some (.int .i64 x.a) → W.cell? ⟨blk, 1, none⟩ = some (.int .i64 x.b) → W.cell? ⟨blk, 2, none⟩ = some (.int .i64 x.r) → W.cell? ⟨blk, 3, none⟩ = some (.int .i64 x.c) → W.cell? ⟨blk, 4, none⟩ = some (.int .i64 x.e) →
                    Calls Tryd.prog 45 #[.slice (some ⟨blk, 0, none⟩) 5 5] W fun ev w' => ev = .returned (.bool s5) ∧ w' = W) := fun blk W g0 g1 g2 g3 g4 => by
                  have h := small5 x.a x.b x.r x.c x.e blk W g0 g1 g2 g3 g4
                  rwa [HS5.out] at h
                cases s5
                · have R1 : Hid (Told l 2) := HT.out 2 (opFaultN_range _ x HR.out) (by decide)
                  go_wp2_with fail
                  refine (HS.out _ _ (by simp) (by simp) (by simp) (by simp) (by simp)).mono ?_
                  rintro e w1 ⟨rfl, rfl⟩
                  go_wp2
                  go_ret
                  exact ⟨2, rfl, R1.out, belA (belA hnx _) _⟩
                · by_cases h5 : x.d < 1
                  · have R1 : Hid (Told l 1) := HT.out 1 (opFaultN_kind _ x HR.out (kindB_no _ (by omega))) (by decide)
                    go_wp2_with fail
                    refine (HS.out _ _ (by simp) (by simp) (by simp) (by simp) (by simp)).mono ?_
                    rintro e w1 ⟨rfl, rfl⟩
                    go_wp2
                    go_ret
                    exact ⟨1, rfl, R1.out, belA (belA hnx _) _⟩
                  · by_cases h6 : 12 < x.d
                    · have R1 : Hid (Told l 1) := HT.out 1 (opFaultN_kind _ x HR.out (kindB_no _ (by omega))) (by decide)
                      go_wp2_with fail
                      refine (HS.out _ _ (by simp) (by simp) (by simp) (by simp) (by simp)).mono ?_
                      rintro e w1 ⟨rfl, rfl⟩
                      go_wp2
                      go_ret
                      exact ⟨1, rfl, R1.out, belA (belA hnx _) _⟩
                    · have HK : Hid (kindB x.d = true) := kindB_yes _ h5 h6
                      go_wp2_with fail
                      refine (HS.out _ _ (by simp) (by simp) (by simp) (by simp) (by simp)).mono ?_
                      rintro e w1 ⟨rfl, rfl⟩
                      go_upto_region 10 with fail
                      go_cut [99] (fun c wx => c = .bool (!orderB (l.take k) x) ∧ Below wr.heap.size wr wx ∧ OpAt wx wr.heap.size 0 x)
                      case first =>
                        clear HT HN HF HK HS HR HS5 c0 c1 c2 c3 c4 c5 c6 c7
                        have hbw : b < wr.heap.size := by omega
                        by_cases g1 : x.c < 0
                        · have g1' : decide (x.c < 0) = true := by simp [g1]
                          have HO : Hid ((!orderB (l.take k) x) = true) := by
                            show (!orderB (l.take k) x) = true
                            simp [orderB_neg _ x g1]
                          go_quiet (fail)
                          go_wp2
                          go_meet
                          exact ⟨by rw [HO.out], below_drewN (belA (belA (Below.refl _ _) _) _) _, (opAt_new wr x).below (Nat.lt_succ_self _) (below_drewN (below_alloc1 _ _ _) _)⟩
                        · have g1' : decide (x.c < 0) = false := by simp; omega
                          by_cases g2 : k = 0
                          · have g2' : decide (0 < (k : Int)) = false := by simp; omega
                            have g2n : decide (0 < k) = false := by simp; omega
                            have gl : lastOk (l.take k) x = true := by rw [g2]; rfl
                            clear g2
                            have HE : Hid (orderB (l.take k) x = timesB x) := orderB_times _ x g1 gl
                            cases ge : x.e == -1
                            · have ge' : (x.e != -1) = true := by simp [bne, ge]
                              by_cases gc : x.e ≤ x.c
                              · have gc' : decide (x.e ≤ x.c) = true := by simp [gc]
                                have HO : Hid ((!orderB (l.take k) x) = true) := by
                                  show (!orderB (l.take k) x) = true
                                  rw [HE.out]; unfold timesB; rw [if_neg (by simpa using ge)]; simp; omega
                                go_quiet (fail)
                                go_wp2
                                go_meet
                                exact ⟨by rw [HO.out], below_drewN (belA (belA (Below.refl _ _) _) _) _, (opAt_new wr x).below (Nat.lt_succ_self _) (below_drewN (below_alloc1 _ _ _) _)⟩
                              · have gc' : decide (x.e ≤ x.c) = false := by simp; omega
                                have HO : Hid ((!orderB (l.take k) x) = false) := by
                                  show (!orderB (l.take k) x) = false
                                  rw [HE.out]; unfold timesB; rw [if_neg (by simpa using ge)]; simp; omega
                                go_quiet (fail)
                                go_wp2
                                go_meet
                                exact ⟨by rw [HO.out], below_drewN (belA (belA (Below.refl _ _) _) _) _, (opAt_new wr x).below (Nat.lt_succ_self _) (below_drewN (below_alloc1 _ _ _) _)⟩
                            · have ge' : (x.e != -1) = false := by simp [bne, ge]
                              cases gr : x.r == 0
                              · have gr' : (x.r != 0) = true := by simp [bne, gr]
                                have HO : Hid ((!orderB (l.take k) x) = true) := by
                                  show (!orderB (l.take k) x) = true
                                  rw [HE.out]; unfold timesB; rw [if_pos (by simpa using ge), gr]; rfl
                                go_quiet (fail)
                                go_wp2
                                go_meet
                                exact ⟨by rw [HO.out], below_drewN (belA (belA (Below.refl _ _) _) _) _, (opAt_new wr x).below (Nat.lt_succ_self _) (below_drewN (below_alloc1 _ _ _) _)⟩
                              · have gr' : (x.r != 0) = false := by simp [bne, gr]
                                have HO : Hid ((!orderB (l.take k) x) = false) := by
                                  show (!orderB (l.take k) x) = false
                                  rw [HE.out]; unfold timesB; rw [if_pos (by simpa using ge), gr]; rfl
                                go_quiet (fail)
                                go_wp2
                                go_meet
                                exact ⟨by rw [HO.out], below_drewN (belA (belA (Below.refl _ _) _) _) _, (opAt_new wr x).below (Nat.lt_succ_self _) (below_drewN (below_alloc1 _ _ _) _)⟩
                          · obtain ⟨m, rfl⟩ : ∃ m, k = m + 1 := ⟨k - 1, by omega⟩
                            obtain ⟨prev, hp, hlast⟩ : ∃ prev : Int, wr.cell? ⟨b, off + m * 8 + 6, none⟩ = some (.int .i64 prev) ∧ lastOk (l.take (m + 1)) x = decide (prev < x.c) := by
                              refine ⟨(l[m]'(by omega)).c, ((HL.out m (by omega)).below hb hnx).2.2.2.2.2.2.1, ?_⟩
                              rw [lastOk_pos _ x (by simp; omega)]
                              simp [List.length_take, Nat.min_eq_left hk]
                            clear g2
                            by_cases g3 : x.c ≤ prev
                            · have g3' : decide (x.c ≤ prev) = true := by simp [g3]
                              have HO : Hid ((!orderB (l.take (m + 1)) x) = true) := by
                                show (!orderB (l.take (m + 1)) x) = true
                                rw [orderB_last _ x (by rw [hlast]; simp; omega)]; rfl
                              clear hlast
                              go_quiet (fail)
                              go_wp2
                              go_meet
                              exact ⟨by rw [HO.out], below_drewN (belA (belA (Below.refl _ _) _) _) _, (opAt_new wr x).below (Nat.lt_succ_self _) (below_drewN (below_alloc1 _ _ _) _)⟩
                            · have g3' : decide (x.c ≤ prev) = false := by simp; omega
                              have gl : lastOk (l.take (m + 1)) x = true := by rw [hlast]; simp; omega
                              clear hlast
                              have HE : Hid (orderB (l.take (m + 1)) x = timesB x) := orderB_times _ x g1 gl
                              cases ge : x.e == -1
                              · have ge' : (x.e != -1) = true := by simp [bne, ge]
                                by_cases gc : x.e ≤ x.c
                                · have gc' : decide (x.e ≤ x.c) = true := by simp [gc]
                                  have HO : Hid ((!orderB (l.take (m + 1)) x) = true) := by
                                    show (!orderB (l.take (m + 1)) x) = true
                                    rw [HE.out]; unfold timesB; rw [if_neg (by simpa using ge)]; simp; omega
                                  go_quiet (fail)
                                  go_wp2
                                  go_meet
                                  exact ⟨by rw [HO.out], below_drewN (belA (belA (Below.refl _ _) _) _) _, (opAt_new wr x).below (Nat.lt_succ_self _) (below_drewN (below_alloc1 _ _ _) _)⟩
                                · have gc' : decide (x.e ≤ x.c) = false := by simp; omega
                                  have HO : Hid ((!orderB (l.take (m + 1)) x) = false) := by
                                    show (!orderB (l.take (m + 1)) x) = false
                                    rw [HE.out]; unfold timesB; rw [if_neg (by simpa using ge)]; simp; omega
                                  go_quiet (fail)
                                  go_wp2
                                  go_meet
                                  exact ⟨by rw [HO.out], below_drewN (belA (belA (Below.refl _ _) _) _) _, (opAt_new wr x).below (Nat.lt_succ_self _) (below_drewN (below_alloc1 _ _ _) _)⟩
                              · have ge' : (x.e != -1) = false := by simp [bne, ge]
                                cases gr : x.r == 0
                                · have gr' : (x.r != 0) = true := by simp [bne, gr]
                                  have HO : Hid ((!orderB (l.take (m + 1)) x) = true) := by
                                    show (!orderB (l.take (m + 1)) x) = true
                                    rw [HE.out]; unfold timesB; rw [if_pos (by simpa using ge), gr]; rfl
                                  go_quiet (fail)
                                  go_wp2
                                  go_meet
                                  exact ⟨by rw [HO.out], below_drewN (belA (belA (Below.refl _ _) _) _) _, (opAt_new wr x).below (Nat.lt_succ_self _) (below_drewN (below_alloc1 _ _ _) _)⟩
                                · have gr' : (x.r != 0) = false := by simp [bne, gr]
                                  have HO : Hid ((!orderB (l.take (m + 1)) x) = false) := by
                                    show (!orderB (l.take (m + 1)) x) = false
                                    rw [HE.out]; unfold timesB; rw [if_pos (by simpa using ge), gr]; rfl
                                  go_quiet (fail)
                                  go_wp2
                                  go_meet
                                  exact ⟨by rw [HO.out], below_drewN (belA (belA (Below.refl _ _) _) _) _, (opAt_new wr x).below (Nat.lt_succ_self _) (below_drewN (below_alloc1 _ _ _) _)⟩
                      case rest =>
                        obtain ⟨rfl, hbx, hox⟩ := hcut
                        cases ho : orderB (l.take k) x
                        · have R1 : Hid (Told l 10) := HT.out 10 (opFaultN_order _ x HR.out HK.out ho) (by decide)
                          clear ho
                          go_wp2
                          go_ret
                          exact ⟨10, rfl, R1.out, belJ hnx hbx⟩
                        · have HO : Hid (orderB (l.take k) x = true) := ho
                          have hoxl := hox.lt
                          have HOX := hideIt hox
                          have hblc : b < wc.heap.size := by have := hbx.size; omega
                          have HLc : Hid (OpsAt wc b off l) := HL.out.below hb (belJ hnx hbx)
                          clear ho hox
                          go_wp2
                          go_loopw [104] (fun j wy => ∃ i : Nat, i ≤ k ∧ j = .int .i64 i ∧ ((l.take k).take i).any (fun y => shareB y x) = false ∧ Below wc.heap.size wc wy) (fun j _ => k - (intOf j).toNat)
                          case atStart => exact ⟨0, Nat.zero_le _, rfl, rfl, Below.refl _ _⟩
                          case round =>
                            obtain ⟨i, hi, rfl, ha, hny⟩ := hrel
                            have HA := hideIt ha
                            clear ha
                            have hcb := belJ (belJ hnx hbx) hny
                            have hsy := hny.size
                            by_cases hik : i < k
                            · obtain ⟨y, HY⟩ : ∃ y, Hid (l[i]'(Nat.lt_of_lt_of_le hik hk) = y) := ⟨_, hideIt rfl⟩
                              have hcy := (HLc.out i (by omega)).below hblc hny
                              rw [HY.out] at hcy
                              obtain ⟨e0, e1, e2, e3, e4, e5, e6, e7⟩ := hcy
                              obtain ⟨o0, o1, o2, o3, o4, o5, o6, o7⟩ := HOX.out.below hoxl hny
                              simp only [Nat.zero_add] at o0 o1 o2 o3 o4 o5 o6 o7
                              have HEQ : Hid (shareB (l[i]'(Nat.lt_of_lt_of_le hik hk)) x = (x.c == y.c || x.c == y.e || (x.e != -1 && (x.e == y.c || x.e == y.e)))) := by
                                show shareB (l[i]'(Nat.lt_of_lt_of_le hik hk)) x = _
                                rw [HY.out]; exact share_eq y x
                              have R2 := hideIt (belA hny (.cells #[.int .i64 y.p, .int .i64 y.k, .int .i64 y.d, .int .i64 y.a, .int .i64 y.b, .int .i64 y.r, .int .i64 y.c, .int .i64 y.e] 48))
                              have hnr := Nat.lt_of_lt_of_le hoxl hsy
                              cases a1 : x.c == y.c
                              · cases a2 : x.c == y.e
                                · cases a3 : x.e != -1
                                  · have HSH := HEQ.out
                                    rw [a1, a2, a3] at HSH
                                    have R1 : Hid (((l.take k).take (i + 1)).any (fun y => shareB y x) = false) := take_take_succ l _ k i hk hik HA.out HSH
                                    clear HSH
                                    go_wp2
                                    go_roundw
                                    case rel => exact ⟨i + 1, by omega, by go_num, R1.out, R2.out⟩
                                    case measure => simp [intOf]; omega
                                  · cases a4 : x.e == y.c
                                    · cases a5 : x.e == y.e
                                      · have HSH := HEQ.out
                                        rw [a1, a2, a3, a4, a5] at HSH
                                        have R1 : Hid (((l.take k).take (i + 1)).any (fun y => shareB y x) = false) := take_take_succ l _ k i hk hik HA.out HSH
                                        clear HSH
                                        go_wp2
                                        go_roundw
                                        case rel => exact ⟨i + 1, by omega, by go_num, R1.out, R2.out⟩
                                        case measure => simp [intOf]; omega
                                      · have HSH := HEQ.out
                                        rw [a1, a2, a3, a4, a5] at HSH
                                        have R1 : Hid (Told l 9) := HT.out 9 (opFaultN_twice _ x HR.out HK.out HO.out (take_any_of l _ k i hk hik HSH)) (by decide)
                                        clear HSH
                                        go_wp2
                                        go_ret
                                        exact ⟨9, rfl, R1.out, belJ (belJ hnx hbx) R2.out⟩
                                    · have HSH := HEQ.out
                                      rw [a1, a2, a3, a4] at HSH
                                      have R1 : Hid (Told l 9) := HT.out 9 (opFaultN_twice _ x HR.out HK.out HO.out (take_any_of l _ k i hk hik HSH)) (by decide)
                                      clear HSH
                                      go_wp2
                                      go_ret
                                      exact ⟨9, rfl, R1.out, belJ (belJ hnx hbx) R2.out⟩
                                · have HSH := HEQ.out
                                  rw [a1, a2] at HSH
                                  have R1 : Hid (Told l 9) := HT.out 9 (opFaultN_twice _ x HR.out HK.out HO.out (take_any_of l _ k i hk hik HSH)) (by decide)
                                  clear HSH
                                  go_wp2
                                  go_ret
                                  exact ⟨9, rfl, R1.out, belJ (belJ hnx hbx) R2.out⟩
                              · have HSH := HEQ.out
                                rw [a1] at HSH
                                have R1 : Hid (Told l 9) := HT.out 9 (opFaultN_twice _ x HR.out HK.out HO.out (take_any_of l _ k i hk hik HSH)) (by decide)
                                clear HSH
                                go_wp2
                                go_ret
                                exact ⟨9, rfl, R1.out, belJ (belJ hnx hbx) R2.out⟩
                            · have HSF : Hid ((l.take k).any (fun y => shareB y x) = false) := take_all_done l _ k i (by omega) HA.out
                              clear HA
                              go_wp2
                              go_loopw [144] (fun j wz => ∃ i : Nat, i ≤ k ∧ j = .int .i64 i ∧ ((l.take k).take i).any (fun y => clashB y x) = false ∧ Below wc.heap.size wc wz) (fun j _ => k - (intOf j).toNat)
                              case atStart => exact ⟨0, Nat.zero_le _, rfl, rfl, hny⟩
                              case round =>
                                obtain ⟨j, hj, rfl, ha, hnz⟩ := hrel
                                have HA := hideIt ha
                                clear ha
                                have hsz3 := hnz.size
                                by_cases hjk : j < k
                                · obtain ⟨y, HY⟩ : ∃ y, Hid (l[j]'(Nat.lt_of_lt_of_le hjk hk) = y) := ⟨_, hideIt rfl⟩
                                  have hcy := (HLc.out j (by omega)).below hblc hnz
                                  rw [HY.out] at hcy
                                  obtain ⟨e0, e1, e2, e3, e4, e5, e6, e7⟩ := hcy
                                  obtain ⟨o0, o1, o2, o3, o4, o5, o6, o7⟩ := HOX.out.below hoxl hnz
                                  simp only [Nat.zero_add] at o0 o1 o2 o3 o4 o5 o6 o7
                                  have R2 := hideIt (belA hnz (.cells #[.int .i64 y.p, .int .i64 y.k, .int .i64 y.d, .int .i64 y.a, .int .i64 y.b, .int .i64 y.r, .int .i64 y.c, .int .i64 y.e] 48))
                                  have hnr := Nat.lt_of_lt_of_le hoxl hsz3
                                  cases a1 : y.p == x.p
                                  · have HSH : clashB (l[j]'(Nat.lt_of_lt_of_le hjk hk)) x = false := by rw [HY.out]; simp [clashB, a1]
                                    have R1 : Hid (((l.take k).take (j + 1)).any (fun y => clashB y x) = false) := take_take_succ l _ k j hk hjk HA.out HSH
                                    clear HSH
                                    go_wp2
                                    go_roundw
                                    case rel => exact ⟨j + 1, by omega, by go_num, R1.out, R2.out⟩
                                    case measure => simp [intOf]; omega
                                  · obtain ⟨bb, HBB⟩ : ∃ bb, Hid (beforeB y x = bb) := ⟨_, hideIt rfl⟩
                                    have HSH : clashB (l[j]'(Nat.lt_of_lt_of_le hjk hk)) x = !bb := by rw [HY.out]; simp [clashB, a1, HBB.out]
                                    cases bb
                                    · have R1 : Hid (Told l 6) := HT.out 6 (by rw [opFaultN_rest _ x HR.out HK.out HO.out HSF.out, if_pos (take_any_of l _ k j hk hjk HSH)]) (by decide)
                                      clear HSH
                                      go_wp2_with fail
                                      refine (refBefore_any y x _).mono ?_
                                      rw [HBB.out]
                                      rintro e w1 ⟨rfl, hb1⟩
                                      have R3 := hideIt (belJ R2.out hb1)
                                      clear hb1
                                      go_wp2
                                      go_ret
                                      exact ⟨6, rfl, R1.out, belJ (belJ hnx hbx) R3.out⟩
                                    · have R1 : Hid (((l.take k).take (j + 1)).any (fun y => clashB y x) = false) := take_take_succ l _ k j hk hjk HA.out HSH
                                      clear HSH
                                      go_wp2_with fail
                                      refine (refBefore_any y x _).mono ?_
                                      rw [HBB.out]
                                      rintro e w1 ⟨rfl, hb1⟩
                                      have R3 := hideIt (belJ R2.out hb1)
                                      clear hb1
                                      go_wp2
                                      go_roundw
                                      case rel => first | exact ⟨j + 1, by omega, by go_num, R1.out, R3.out⟩ | ((repeat apply Exists.intro); exact ⟨⟨j + 1, by omega, by go_num, R1.out, R3.out⟩, rfl⟩)
                                      case measure => simp [intOf]; omega
                                · have HCF : Hid ((l.take k).any (fun y => clashB y x) = false) := take_all_done l _ k j (by omega) HA.out
                                  have R1 : Hid (FineTo l (k + 1)) := HN.out (by rw [opFaultN_rest _ x HR.out HK.out HO.out HSF.out, HCF.out]; rfl)
                                  have R3 := hideIt (belJ (belJ hnx hbx) hnz)
                                  clear HA HCF
                                  go_wp2
                                  go_roundw
                                  case rel => exact ⟨k + 1, by omega, by go_num, R1.out, R3.out⟩
                                  case measure => simp [intOf]; omega
      · have R1 : Hid (Told l 0) := told0 l (by omega) (fun j hj => HF.out j hj (by omega))
        go_wp2
        go_ret
        exact ⟨0, by rfl, R1.out, hnx⟩
end Go.Proofs.YtfojmbbhcmeejaaDoor
