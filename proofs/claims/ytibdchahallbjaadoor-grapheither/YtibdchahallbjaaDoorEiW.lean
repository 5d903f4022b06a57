/-
  The statement GraphEither, walked.
-/
import Derived.Test.YtibdchahallbjaaDoorLdW
import Derived.Test.YtibdchahallbjaaDoorGyW
namespace Go.Proofs.YtibdchahallbjaaDoor
open Go.RowKit

def rndB (g : Nat → Nat → Bool) (n k : Nat) : Bool := (List.range k).any fun i => decide (grpG g n i ≠ i) || g i i
theorem rndB_succ (g : Nat → Nat → Bool) (n k : Nat) : rndB g n (k + 1) = (rndB g n k || (decide (grpG g n k ≠ k) || g k k)) := by simp [rndB, List.range_succ, List.any_append]
theorem rndB_iff (g : Nat → Nat → Bool) (n : Nat) : rndB g n n = true ↔ ∃ x, Way g n x x := by
  rw [round_grp]
  simp [rndB]
/-- What the three tell of a graph that may be. -/
theorem either_of (R : List (List Bool)) (ok : ckG R = 0) : (∃ L, oG R = 0 ∧ oL R = L ∧ L.length = R.length ∧ (∀ x ∈ L, x < R.length) ∧ (∀ i, i < R.length → i ∈ L) ∧ L.Nodup ∧ (∀ (a b : Nat) (ha : a < L.length) (hb : b < L.length), gB R L[a] L[b] = true → a < b) ∧ cyG R = 8 ∧ cyL R = [] ∧ rndB (gB R) R.length R.length = false) ∨
    (∃ c, oG R = 11 ∧ oL R = [] ∧ cyG R = 0 ∧ cyL R = c ∧ CycG (gB R) R.length c ∧ rndB (gB R) R.length R.length = true) := by
  cases ho : ordG (gB R) R.length R.length with
  | some L =>
    left
    have hno : ∀ x, ¬ Way (gB R) R.length x x := ord_iff.1 ⟨L, ho⟩
    obtain ⟨e1, e2⟩ := cyG_none ok hno
    obtain ⟨hl, hok⟩ := ordG_ok ho
    refine ⟨L, by unfold oG; rw [if_pos ok, ho]; rfl, by unfold oL; rw [if_pos ok, ho]; rfl, hl, hok.lt, fun i hi => full_mem hl hok.nd hok.lt hi, hok.nd, fun a b ha hb h => ord_keeps ho ha hb h, e1, e2, ?_⟩
    cases h : rndB (gB R) R.length R.length
    · rfl
    · obtain ⟨x, hx⟩ := (rndB_iff _ _).1 h
      exact absurd hx (hno x)
  | none =>
    right
    have hw : ∃ x, Way (gB R) R.length x x := Classical.byContradiction fun h => by
      obtain ⟨L, hL⟩ := ord_iff.2 fun x hx => h ⟨x, hx⟩
      rw [ho] at hL; cases hL
    rcases cycD_spec (gB R) R.length with ⟨d, e, hd⟩ | ⟨e, hno⟩
    · obtain ⟨e1, e2⟩ := cyG_best ok hd
      exact ⟨d, by unfold oG; rw [if_pos ok, ho]; rfl, by unfold oL; rw [if_pos ok, ho]; rfl, e1, e2, hd.cyc, (rndB_iff _ _).2 hw⟩
    · obtain ⟨x, hx⟩ := hw
      exact absurd hx (hno x)

theorem grpL_at {R : List (List Bool)} {i : Nat} (h : i < (grpL R R.length).length) : (grpL R R.length)[i] = ((grpG (gB R) R.length i : Nat) : Int) := by simp [grpL]

set_option maxRecDepth 100000 in
set_option maxHeartbeats 16000000 in
theorem ge_walk (R : List (List Bool)) (a : Option Addr) (cap : Nat) (w : World) (h : InG w a cap R) :
    Calls Tryd.prog 6 #[.slice a R.length cap] w fun e w' => e = .returned (.bool true) ∧ Below w.heap.size w w' := by
  have HI := hideIt h
  have hm2 : R.length ≤ 9223372036854775807 := h.max
  clear h
  go_enter Tryd.func6, Tryd.ntmps6
  by_cases h40 : 40 < R.length
  · have h40' : (40 : Int) < R.length := by omega
    go_wp2
    go_ret
    exact ⟨rfl, Below.refl _ _⟩
  have h40' : R.length ≤ 40 := by omega
  clear h40
  go_wp2
  go_loopw [3] (fun v wr => ∃ k : Nat, k ≤ R.length ∧ v = .int .i64 k ∧ wr = w) (fun v _ => R.length - (intOf v).toNat)
  case atStart => exact ⟨0, Nat.zero_le _, rfl, rfl⟩
  case round =>
    obtain ⟨k, hk, rfl, hw⟩ := hrel
    have hw' := hw.symm
    subst hw'
    clear hw
    by_cases hkl : k < R.length
    · obtain ⟨b, off, rfl, hb, hj⟩ : ∃ b off, a = some ⟨b, off, none⟩ ∧ b < w.heap.size ∧ ∀ i (h : i < R.length), ∃ s, w.cell? ⟨b, off + i, none⟩ = some s ∧ BitsIn w s R[i] := by
        rcases HI.out.at_ with h | h
        · subst h; simp at hkl
        · exact h
      obtain ⟨s, hs, a2, c2, rfl, _, _⟩ := hj k hkl
      have hml : R[k].length ≤ 9223372036854775807 := HI.out.row R[k] (List.getElem_mem hkl)
      have hkl' : (k : Int) < R.length := by omega
      clear hj HI
      generalize R[k].length = m at hs hml
      by_cases h60 : 60 < m
      · have h60' : (60 : Int) < m := by omega
        go_wp2
        go_ret
        exact ⟨rfl, Below.refl _ _⟩
      · have h60' : ¬ (60 : Int) < m := by omega
        go_wp2
        go_roundw
        case rel => exact ⟨k + 1, by omega, by go_num, by first | rfl | trivial⟩
        case measure => simp [intOf]; omega
    · obtain rfl : k = R.length := by omega
      have HC1 := hideIt (gOrder_any R a cap w HI.out.max HI.out.row HI.out.at_)
      go_wp2_with fail
      refine HC1.out.mono ?_
      clear HC1
      rintro e w1 ⟨v4, rfl, hrow1, hb1⟩
      have HC2 := hideIt (gCycle_any R a cap w1 HI.out.max HI.out.row (HI.out.at_.below hb1))
      have HH4 := hideIt hrow1.hasI
      have HB1 := hideIt hb1
      clear hrow1 hb1
      obtain ⟨og, HOg⟩ : ∃ og, Hid (toldV (oG R) = og) := ⟨_, hideIt rfl⟩
      rw [HOg.out]
      go_wp2_with fail
      refine HC2.out.mono ?_
      clear HC2
      rintro e w2 ⟨v6, rfl, hrow2, hb2⟩
      have HB2 := hideIt (belJ HB1.out hb2)
      have HC3 := hideIt (gGroups_any R a cap w2 HI.out.max HI.out.row (HI.out.at_.below HB2.out))
      have HH6 := hideIt hrow2.hasI
      have HH42 := hideIt (HH4.out.below hb2)
      clear hrow2 hb2 HH4 HB1
      obtain ⟨cg, HCg⟩ : ∃ cg, Hid (toldV (cyG R) = cg) := ⟨_, hideIt rfl⟩
      rw [HCg.out]
      go_wp2_with fail
      refine HC3.out.mono ?_
      clear HC3
      rintro e w3 ⟨v8, rfl, hh8, hb3⟩
      have HB3 := hideIt (belJ HB2.out hb3)
      have HH63 := hideIt (HH6.out.below hb3)
      have HH43 := hideIt (HH42.out.below hb3)
      have HH83 := hideIt hh8
      clear hh8 hb3 HH6 HH42 HB2
      obtain ⟨tg, HTg⟩ : ∃ tg, Hid (toldV (ckG R) = tg) := ⟨_, hideIt rfl⟩
      rw [HTg.out]
      have HLd := hideIt (led_any w3 (HI.out.below HB3.out).typ)
      go_wp2_with fail
      refine HLd.out.mono ?_
      clear HLd
      rintro e w4 ⟨rfl, hb4⟩
      have HB4 := hideIt (belJ HB3.out hb4)
      have HH64 := hideIt (HH63.out.below hb4)
      have HH44 := hideIt (HH43.out.below hb4)
      have HH84 := hideIt (HH83.out.below hb4)
      clear hb4 HH63 HH43 HH83 HB3
      by_cases ok : ckG R = 0
      · have et : tg = .nilIface := by rw [← HTg.out, ok]; rfl
        have e8 : gvL R = grpL R R.length := by unfold gvL; rw [if_pos ok]
        rw [e8] at HH84
        have HAt : Hid (∀ W, Below w.heap.size w W → ∀ i, i < R.length → ∃ b off, a = some ⟨b, off, none⟩ ∧ ∃ rb ro rc, W.cell? ⟨b, off + i, none⟩ = some (.slice (some ⟨rb, ro, none⟩) R.length rc) ∧ R.length ≤ rc ∧ ∀ k, k < R.length → W.cell? ⟨rb, ro + k, none⟩ = some (.bool (gB R i k))) := fun W hW i hi => by
          obtain ⟨b, off, e, hb, rb, ro, rc, h1, h2, h3, h4⟩ := (HI.out.at_.below hW).at ok hi
          exact ⟨b, off, e, rb, ro, rc, h1, h2, h4⟩
        obtain ⟨a8, c8, rfl, hc8, h8⟩ := HH84.out
        have HG8 : Hid (∀ i, i < R.length → ∃ g off, a8 = some ⟨g, off, none⟩ ∧ w4.cell? ⟨g, off + i, none⟩ = some (.int .i64 (grpG (gB R) R.length i : Nat))) := fun i hi => by
          obtain ⟨g, off, e, hc⟩ := h8 i (by rw [grpL_len]; exact hi)
          rw [grpL_at] at hc
          exact ⟨g, off, e, hc⟩
        rw [grpL_len] at hc8 ⊢
        have HRs := hideIt (rndB_succ (gB R) R.length)
        have HE := hideIt (either_of R ok)
        rw [et]
        clear et e8 h8 HH84 ok HTg
        go_wp2
        go_loopw [10, 11] (fun x v wr => ∃ k : Nat, k ≤ R.length ∧ x = .bool (rndB (gB R) R.length k) ∧ v = .int .i64 k ∧ wr = w4) (fun _ v _ => R.length - (intOf v).toNat)
        case atStart => exact ⟨0, Nat.zero_le _, rfl, rfl, rfl⟩
        case round =>
          obtain ⟨k, hk, rfl, rfl, hw⟩ := hrel
          have hw' := hw.symm
          subst hw'
          clear hw
          by_cases hkn : k < R.length
          · have hkn' : (k : Int) < R.length := by omega
            obtain ⟨gg, goff, rfl, hc⟩ := HG8.out k hkn
            obtain ⟨b, off, rfl, rb, ro, rc, r0, _, hr⟩ := HAt.out w4 HB4.out k hkn
            have r1 := hr k hkn
            have hs := HRs.out k
            have HNx : Hid (∀ x : Bool, rndB (gB R) R.length (k + 1) = x → ∃ k' : Nat, k' ≤ R.length ∧ Value.bool x = .bool (rndB (gB R) R.length k') ∧ Value.int .i64 ((k : Int) + 1) = .int .i64 k' ∧ True) := fun x hx => ⟨k + 1, by omega, by rw [hx], by go_num, trivial⟩
            clear hr HE HH44 HH64
            generalize gB R k k = gk at r1 hs
            by_cases hge : grpG (gB R) R.length k = k
            · have hgd : decide (grpG (gB R) R.length k ≠ k) = false := by simp [hge]
              rw [hgd] at hs
              rw [hge] at hc
              clear hge hgd
              generalize rndB (gB R) R.length k = rb0 at hs ⊢
              cases rb0
              · cases gk
                · have R1 := hideIt (HNx.out false hs)
                  clear HNx hs
                  go_wp2
                  go_roundw
                  case rel => exact R1.out
                  case measure => simp [intOf]; omega
                · have R1 := hideIt (HNx.out true hs)
                  clear HNx hs
                  go_wp2
                  go_roundw
                  case rel => exact R1.out
                  case measure => simp [intOf]; omega
              · have R1 := hideIt (HNx.out true (by rw [hs]; rfl))
                clear HNx hs
                go_wp2
                go_roundw
                case rel => exact R1.out
                case measure => simp [intOf]; omega
            · have hgd : decide (grpG (gB R) R.length k ≠ k) = true := by simp [hge]
              rw [hgd] at hs
              have R1 := hideIt (HNx.out true (by rw [hs]; simp))
              generalize grpG (gB R) R.length k = gv at hc hge
              have hge' : ((gv : Int) != (k : Int)) = true := by simp; omega
              clear HNx hs hgd
              generalize rndB (gB R) R.length k = rb0
              cases rb0
              · go_wp2
                go_roundw
                case rel => exact R1.out
                case measure => simp [intOf]; omega
              · go_wp2
                go_roundw
                case rel => exact R1.out
                case measure => simp [intOf]; omega
          · obtain rfl : k = R.length := by omega
            rcases HE.out with ⟨L, e1, e2, hL, hlt, hmem, hnd, hkeep, e3, e4, e5⟩ | ⟨c, e1, e2, e3, e4, hcy, e5⟩
            · have eo : og = .nilIface := by rw [← HOg.out, e1]; rfl
              have ec : cg = .iface 24 (.int .i64 8) := by rw [← HCg.out, e3]; rfl
              rw [e2] at HH44
              rw [e4] at HH64
              obtain ⟨a4, c4, rfl, hc4, h4⟩ := HH44.out
              obtain ⟨a6, c6, rfl, _⟩ := HH64.out
              have hl0 : (natI []).length = 0 := rfl
              rw [hl0]
              rw [natI_len, hL] at hc4 ⊢
              have HL4 : Hid (∀ i (hi : i < L.length), ∃ g off, a4 = some ⟨g, off, none⟩ ∧ g < w4.heap.size ∧ w4.cell? ⟨g, off + i, none⟩ = some (.int .i64 (L[i] : Nat)) ∧ L[i] < R.length) := fun i hi => by
                obtain ⟨g, off, e, hc⟩ := h4 i (by rw [natI_len]; exact hi)
                rw [natI_at hi] at hc
                exact ⟨g, off, e, World.block_lt_of_cell? w4 _ hc, hc, hlt _ (List.getElem_mem hi)⟩
              have HPut : Hid (∀ (f : Nat → Nat), (∀ i (hi : i < L.length), f L[i] = i) → ∀ i k, i < R.length → k < R.length → gB R i k = true → f i < f k) := fun f hf i k hi hk hg => by
                obtain ⟨x, hx, ex⟩ := List.getElem_of_mem (hmem i hi)
                obtain ⟨y, hy, ey⟩ := List.getElem_of_mem (hmem k hk)
                have h1 := hf x hx
                have h2 := hf y hy
                rw [ex] at h1
                rw [ey] at h2
                rw [h1, h2]
                exact hkeep x y hx hy (by rw [ex, ey]; exact hg)
              have HNd : Hid (∀ (x y : Nat) (hx : x < L.length) (hy : y < L.length), L[x] = L[y] → x = y) := fun x y hx hy e => nd_idx hnd hx hy e
              have hmk := made_nums w4 R.length (by omega)
              have HN0 := hideIt (nums_made w4 R.length)
              have HBx : Hid (Below w4.heap.size w4 (w4.alloc (.cells (madeCells #[.int .i64 0] R.length) 3))) := belA (Below.refl _ _) _
              rw [e5, eo, ec]
              clear hlt hmem hnd hkeep e1 e2 e3 e4 e5 eo ec HE HOg HCg HH44 HH64 h4 HG8 HRs
              generalize gB R = g at *
              go_wp2
              clear hmk
              generalize w4.alloc _ = W5 at HN0 HBx ⊢
              go_loopw [13] (fun v wr => ∃ (k : Nat) (f : Nat → Nat), k ≤ R.length ∧ v = .int .i64 k ∧ (∀ i (hi : i < L.length), i < k → f L[i] = i) ∧ NumsAt wr w4.heap.size R.length f ∧ Below w4.heap.size w4 wr) (fun v _ => R.length - (intOf v).toNat)
              case atStart => exact ⟨0, _, Nat.zero_le _, rfl, fun i _ hi => absurd hi (by omega), HN0.out, HBx.out⟩
              case round =>
                clear HN0 HBx
                obtain ⟨k, f, hk, rfl, hf, hN, hb⟩ := hrel
                have HF := hideIt hf
                have HN := hideIt hN
                have HB := hideIt hb
                clear hf hN hb
                by_cases hkn : k < R.length
                · have hkn' : (k : Int) < R.length := by omega
                  obtain ⟨lg, lo, rfl, hlg, hlc, hll⟩ := HL4.out k (by omega)
                  have lc := (HB.out.cell (p := ⟨lg, lo + k, none⟩) hlg).trans hlc
                  have R1 : Hid (∃ f, (∀ i (hi : i < L.length), i < k + 1 → f L[i] = i) ∧ NumsAt (wr.setCell ⟨w4.heap.size, L[k]'(by omega), none⟩ (.int .i64 (k : Nat))) w4.heap.size R.length f ∧ Below w4.heap.size w4 (wr.setCell ⟨w4.heap.size, L[k]'(by omega), none⟩ (.int .i64 (k : Nat)))) := by
                    refine ⟨_, fun i hi hik => ?_, HN.out.put hll k, HB.out.setCell (p := ⟨w4.heap.size, _, none⟩) (Nat.le_refl _) _⟩
                    by_cases e : i = k
                    · subst e; rw [if_pos rfl]
                    · rw [if_neg (fun h => e (HNd.out i k hi (by omega) h))]
                      exact HF.out i hi (by omega)
                  have d0 := HN.out.num _ hll
                  have z0 := HN.out.fz (L[k]'(by omega))
                  generalize L[k]'(by omega) = x at lc hll R1 d0 z0
                  have hxl' : (x : Int) < R.length := by omega
                  have hxl2 : decide (R.length ≤ x) = false := by simp; omega
                  clear hlc
                  go_wp2
                  go_roundw
                  case rel =>
                    obtain ⟨f', h1, h2, h3⟩ := R1.out
                    exact ⟨k + 1, f', by omega, by go_num, h1, h2, h3⟩
                  case measure => simp [intOf]; omega
                · obtain rfl : k = R.length := by omega
                  have HLt := hideIt (HPut.out f fun i hi => HF.out i hi (by omega))
                  clear HPut HF HNd HL4
                  go_wp2
                  go_loopw [14] (fun v wz => ∃ i : Nat, i ≤ R.length ∧ v = .int .i64 i ∧ NumsAt wz w4.heap.size R.length f ∧ Below w4.heap.size w4 wz) (fun v _ => R.length - (intOf v).toNat)
                  case atStart => exact ⟨0, Nat.zero_le _, rfl, HN.out, HB.out⟩
                  case round =>
                    clear HN HB
                    obtain ⟨i, hi, rfl, hN, hb⟩ := hrel
                    have HN := hideIt hN
                    have HB := hideIt hb
                    clear hN hb
                    by_cases hin : i < R.length
                    · have hin' : (i : Int) < R.length := by omega
                      go_wp2
                      go_loopw [15] (fun v wz => ∃ j : Nat, j ≤ R.length ∧ v = .int .i64 j ∧ NumsAt wz w4.heap.size R.length f ∧ Below w4.heap.size w4 wz) (fun v _ => R.length - (intOf v).toNat)
                      case atStart => exact ⟨0, Nat.zero_le _, rfl, HN.out, HB.out⟩
                      case round =>
                        clear HN HB
                        obtain ⟨j, hj, rfl, hN, hb⟩ := hrel
                        have HN := hideIt hN
                        have HB := hideIt hb
                        clear hN hb
                        by_cases hjn : j < R.length
                        · have hjn' : (j : Int) < R.length := by omega
                          obtain ⟨b, off, rfl, rb, ro, rc, r0, _, hr⟩ := HAt.out wr (belJ HB4.out HB.out) i hin
                          have r1 := hr j hjn
                          have n1 := HN.out.num i hin
                          have n2 := HN.out.num j hjn
                          have HR1 : Hid (∀ q, ∃ j' : Nat, j' ≤ R.length ∧ Value.int .i64 ((j : Int) + 1) = .int .i64 j' ∧ NumsAt (wr.drewN q) w4.heap.size R.length f ∧ Below w4.heap.size w4 (wr.drewN q)) := fun q => ⟨j + 1, by omega, by go_num, HN.out.block rfl, below_drewN HB.out _⟩
                          by_cases hg : g i j = true
                          · have hl := HLt.out i j hin hjn hg
                            rw [hg] at r1
                            have hl2 : decide (f j ≤ f i) = false := by simp; exact hl
                            generalize f i = fi at n1 hl2
                            generalize f j = fj at n2 hl2
                            clear hr hg hl
                            go_upto_region 33 with fail
                            go_quiet (fail)
                            go_wp2
                            go_roundw
                            case rel => exact HR1.out _
                            case measure => simp [intOf]; omega
                          · have hg' : g i j = false := by simpa using hg
                            rw [hg'] at r1
                            clear hr hg hg' n1 n2
                            go_upto_region 33 with fail
                            go_quiet (fail)
                            go_wp2
                            go_roundw
                            case rel => exact HR1.out _
                            case measure => simp [intOf]; omega
                        · obtain rfl : j = R.length := by omega
                          go_wp2
                          go_roundw
                          case rel => exact ⟨i + 1, by omega, by go_num, HN.out, HB.out⟩
                          case measure => simp [intOf]; omega
                    · obtain rfl : i = R.length := by omega
                      go_wp2
                      go_loopw [16] (fun v wz => v = .int .i64 0 ∧ Below w4.heap.size w4 wz) (fun v _ => 0)
                      case atStart => exact ⟨rfl, HB.out⟩
                      case round =>
                        obtain ⟨rfl, hb⟩ := hrel
                        have HBz := hideIt hb
                        clear hb
                        go_wp2
                        go_ret
                        exact ⟨rfl, belJ HB4.out HBz.out⟩
            · have eo : og = .iface 24 (.int .i64 11) := by rw [← HOg.out, e1]; rfl
              have ec : cg = .nilIface := by rw [← HCg.out, e3]; rfl
              rw [e2] at HH44
              rw [e4] at HH64
              obtain ⟨a4, c4, rfl, _⟩ := HH44.out
              obtain ⟨a6, c6, rfl, hc6, h6⟩ := HH64.out
              have hl0 : (natI []).length = 0 := rfl
              rw [hl0]
              have hcl := natI_len c
              have hpos := hcy.2.1
              have hcm : c.length ≤ 60 := by have := cyL_len R; rw [e4, natI_len] at this; exact this
              have HL6 : Hid (∀ i (hi : i < c.length), ∃ g off, a6 = some ⟨g, off, none⟩ ∧ g < w4.heap.size ∧ w4.cell? ⟨g, off + i, none⟩ = some (.int .i64 (c[i] : Nat)) ∧ c[i] < R.length) := fun i hi => by
                obtain ⟨g, off, e, hc⟩ := h6 i (by rw [natI_len]; exact hi)
                rw [natI_at hi] at hc
                exact ⟨g, off, e, World.block_lt_of_cell? w4 _ hc, hc, hcy.1.1 _ (List.getElem_mem hi)⟩
              have HNxt : Hid (∀ i (hi : i < c.length), gB R c[i] (c[(i + 1) % c.length]'(Nat.mod_lt _ hpos)) = true) := fun i hi => by
                by_cases e : i + 1 < c.length
                · simp only [Nat.mod_eq_of_lt e]
                  exact hcy.1.2 i e
                · have ei : i = c.length - 1 := by omega
                  have e0 : (i + 1) % c.length = 0 := by rw [show i + 1 = c.length by omega]; exact Nat.mod_self _
                  simp only [e0]
                  obtain ⟨h0, hg⟩ := hcy.2
                  subst ei
                  exact hg
              have hmk := made_nums w4 R.length (by omega)
              have HBx : Hid (Below w4.heap.size w4 (w4.alloc (.cells (madeCells #[.int .i64 0] R.length) 3))) := belA (Below.refl _ _) _
              rw [e5, eo, ec]
              have HAll : Hid (∀ k (hk : k < c.length), ∃ x y k2 lg lo : Nat, a6 = some ⟨lg, lo, none⟩ ∧ lg < w4.heap.size ∧ k2 < c.length ∧ Int.tmod ((k : Int) + 1) (c.length : Int) = (k2 : Int) ∧ x < R.length ∧ y < R.length ∧ gB R x y = true ∧ w4.cell? ⟨lg, lo + k, none⟩ = some (.int .i64 (x : Nat)) ∧ w4.cell? ⟨lg, lo + k2, none⟩ = some (.int .i64 (y : Nat))) := fun k hk => by
                have hml := Nat.mod_lt (k + 1) hpos
                obtain ⟨lg, lo, rfl, hlg, hlc, hll⟩ := HL6.out k hk
                obtain ⟨lg2, lo2, he2, hlg2, hlc2, hll2⟩ := HL6.out ((k + 1) % c.length) hml
                cases he2
                exact ⟨c[k], c[(k + 1) % c.length], (k + 1) % c.length, lg, lo, rfl, hlg, hml, by rw [show ((k : Int) + 1) = ((k + 1 : Nat) : Int) by omega, Int.tmod_eq_emod_of_nonneg (by omega)]; rfl, hll, hll2, HNxt.out k hk, hlc, hlc2⟩
              clear e1 e2 e3 e4 e5 eo ec HE HOg HCg HH44 HH64 h6 HG8 HRs hcy HNxt
              rw [hcl] at hc6 ⊢
              clear hcl
              generalize gB R = g at *
              go_wp2
              clear hmk
              generalize w4.alloc _ = W5 at HBx ⊢
              go_loopw [13] (fun v wr => v = .int .i64 0 ∧ Below w4.heap.size w4 wr) (fun v _ => 0)
              case atStart => exact ⟨rfl, HBx.out⟩
              case round =>
                clear HBx
                obtain ⟨rfl, hb⟩ := hrel
                have HB := hideIt hb
                clear hb
                go_wp2
                go_loopw [14] (fun v wr => v = .int .i64 0 ∧ Below w4.heap.size w4 wr) (fun v _ => 0)
                case atStart => exact ⟨rfl, HB.out⟩
                case round =>
                  clear HB
                  obtain ⟨rfl, hb⟩ := hrel
                  have HB := hideIt hb
                  clear hb
                  by_cases hR0 : 0 < R.length
                  · have hR0' : (0 : Int) < R.length := by omega
                    go_wp2
                    go_loopw [16] (fun v wr => ∃ k : Nat, k ≤ c.length ∧ v = .int .i64 k ∧ Below w4.heap.size w4 wr) (fun v _ => c.length - (intOf v).toNat)
                    case atStart => exact ⟨0, Nat.zero_le _, rfl, HB.out⟩
                    case round =>
                      clear HB
                      obtain ⟨k, hk, rfl, hb⟩ := hrel
                      have HB := hideIt hb
                      clear hb
                      by_cases hkc : k < c.length
                      · have hkc' : (k : Int) < c.length := by omega
                        obtain ⟨x, y, k2, lg, lo, rfl, hlg, hk2, htm, hx, hy, hxy, hlc, hlc2⟩ := HAll.out k hkc
                        have lc := (HB.out.cell (p := ⟨lg, lo + k, none⟩) hlg).trans hlc
                        have lc2 := (HB.out.cell (p := ⟨lg, lo + k2, none⟩) hlg).trans hlc2
                        obtain ⟨b, off, rfl, rb, ro, rc, r0, _, hr⟩ := HAt.out wr (belJ HB4.out HB.out) x hx
                        have r1 := hr y hy
                        rw [hxy] at r1
                        have hx2 : decide (R.length ≤ x) = false := by simp; omega
                        have hy2 : decide (R.length ≤ y) = false := by simp; omega
                        have hx3 : (x : Int) < R.length := by omega
                        have hy3 : (y : Int) < R.length := by omega
                        have hml' : (k2 : Int) < c.length := by omega
                        have hc0 : ¬ (c.length : Int) = 0 := by omega
                        clear hr hlc hlc2 HAll hxy
                        go_upto_region 38 with fail
                        go_quiet (fail)
                        go_wp2
                        go_roundw
                        case rel => exact ⟨k + 1, by omega, by go_num, below_drewN HB.out _⟩
                        case measure => simp [intOf]; omega
                      · obtain rfl : k = c.length := by omega
                        go_wp2
                        go_ret
                        exact ⟨rfl, belJ HB4.out HB.out⟩
                  · exact absurd hR0 (by have := (HAll.out 0 hpos); obtain ⟨_, _, _, _, _, _, _, _, _, h, _⟩ := this; omega)
      · have et : tg = .iface 24 (.int .i64 (ckG R)) := by rw [← HTg.out]; exact toldV_pos ok
        have eo : og = .iface 24 (.int .i64 (ckG R)) := by rw [← HOg.out]; unfold oG; rw [if_neg ok]; exact toldV_pos ok
        have ec : cg = .iface 24 (.int .i64 (ckG R)) := by rw [← HCg.out]; unfold cyG; rw [if_neg ok]; exact toldV_pos ok
        have e4 : oL R = [] := by unfold oL; rw [if_neg ok]
        have e6 : cyL R = [] := by unfold cyL; rw [if_neg ok]
        rw [e4] at HH44
        rw [e6] at HH64
        obtain ⟨a4, c4, rfl, _⟩ := HH44.out
        obtain ⟨a6, c6, rfl, _⟩ := HH64.out
        have hl0 : (natI []).length = 0 := rfl
        rw [hl0]
        have HLd := hideIt (led_any w4 (HI.out.below HB4.out).typ)
        rw [et, eo, ec]
        generalize ckG R = cn at *
        clear et eo ec e4 e6 HH44 HH64
        go_wp2_with fail
        refine HLd.out.mono ?_
        clear HLd
        rintro e w5 ⟨rfl, hb5⟩
        go_wp2
        go_ret
        exact ⟨rfl, belJ HB4.out hb5⟩
end Go.Proofs.YtibdchahallbjaaDoor
