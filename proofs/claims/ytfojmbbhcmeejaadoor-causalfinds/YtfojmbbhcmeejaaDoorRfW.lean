/-
  The document's own CausalFinds, walked.
-/
import Derived.Test.YtfojmbbhcmeejaaDoorWkPZ
namespace Go.Proofs.YtfojmbbhcmeejaaDoor
open Go.RowKit

def tripV (t : Int × Int × Int) : Value := .tuple #[.int .i64 t.1, .int .i64 t.2.1, .int .i64 t.2.2]

set_option maxRecDepth 100000 in
set_option maxHeartbeats 1000000 in
theorem rkFinds_none (a : Option Addr) (cap : Nat) (w : World) : Calls Tryd.prog 16 #[.slice a 0 cap] w fun e w' => e = .returned (tripV (findsK [])) ∧ Below w.heap.size w w' := by
  have HA7 := hideIt (ahead7_any [] a cap w (by simp) (.inl rfl))
  go_enter Tryd.func16, Tryd.ntmps16
  go_wp2
  refine wp_loop_rounds 1 ?_
  rw [rounds_succ]
  go_wp2_with fail
  refine HA7.out.mono ?_
  rintro e w2 ⟨v, gs, A, rfl, _, _, _, hb2⟩
  go_wp2
  refine wp_loop_rounds 1 ?_
  rw [rounds_succ]
  go_wp2
  go_loopw [8] (fun j wr => ∃ c : Nat, 3 ≤ c ∧ c ≤ 5 ∧ j = .int .i64 c ∧ wr = w2) (fun j _ => 6 - (intOf j).toNat)
  case atStart => exact ⟨3, by omega, by omega, rfl, rfl⟩
  case round =>
    obtain ⟨c, hc1, hc5, rfl, rfl⟩ := hrel
    by_cases hc : c ≤ 4
    · have hcI : (c : Int) ≤ 4 := by omega
      go_wp2
      refine wp_loop_rounds 1 ?_
      rw [rounds_succ]
      go_wp2
      go_roundw
      case rel => exact ⟨c + 1, by omega, by omega, by go_num, by simp⟩
      case measure => simp [intOf]; omega
    · have hcI : ¬ (c : Int) ≤ 4 := by omega
      go_wp2
      go_ret3
      exact ⟨rfl, hb2⟩

theorem bothD_no {l : List Opn} {A : Nat → Nat → Bool} {c : Int} {i k : Nat} (h : ((opZ l i).d == 1 && ((opZ l k).d == 2 && ((opZ l k).k == (opZ l i).k && A k i))) = false) : bothD l A c i k = false := by unfold bothD; rw [h]; rfl
theorem bothD_three {l : List Opn} {A : Nat → Nat → Bool} {i k : Nat} (h : ((opZ l i).d == 1 && ((opZ l k).d == 2 && ((opZ l k).k == (opZ l i).k && A k i))) = true) : bothD l A 3 i k = (readsD l i == -1) := by unfold bothD; rw [h]; simp
theorem bothD_four {l : List Opn} {A : Nat → Nat → Bool} {i k : Nat} (h : ((opZ l i).d == 1 && ((opZ l k).d == 2 && ((opZ l k).k == (opZ l i).k && A k i))) = true) : bothD l A 4 i k = (decide (0 ≤ readsD l i) && ((k : Int) != readsD l i && A (readsD l i).toNat k)) := by unfold bothD; rw [h]; simp
theorem readsD_lt {l : List Opn} {i : Nat} : readsD l i < l.length := by
  unfold readsD
  split
  · omega
  · rcases firstN_cases (fun k => (opZ l k).d == 2 && ((opZ l k).k == (opZ l i).k && (opZ l k).a == (opZ l i).r)) l.length with ⟨e, _⟩ | ⟨k, hk, e, _⟩
    · rw [e]; show (-2 : Int) < _; omega
    · rw [e]; show (k : Int) < _; omega

/-- Where the pairs of a code are looked for: all that were tried before have been false. -/
def NoneTo (P : Nat → Nat → Bool) (n i : Nat) : Prop := ∀ a, a < i → ∀ b, b < n → P a b = false

set_option maxRecDepth 100000 in
set_option maxHeartbeats 8000000 in
theorem rkFinds_some (l : List Opn) (ok : KOk l) (b off cap : Nat) (w : World) (h0 : 0 < l.length) (hl : OpsAt w b off l) (hb : b < w.heap.size) :
    Calls Tryd.prog 16 #[.slice (some ⟨b, off, none⟩) l.length cap] w fun e w' => e = .returned (tripV (findsK l)) ∧ Below w.heap.size w w' := by
  have hlen := ok.few
  have HO := hideIt hl
  have HOk := hideIt ok
  have HRd : Hid (∀ w1 i, i < l.length → Below w.heap.size w w1 → Calls Tryd.prog 12 #[.slice (some ⟨b, off, none⟩) l.length cap, .int .i64 (i : Nat)] w1 fun e w' => e = .returned (.int .i64 (readsD l i)) ∧ Below w1.heap.size w1 w') := fun w1 i hi h1 => reads_any l _ cap i w1 (by omega) (.inr ⟨b, off, rfl, Nat.lt_of_lt_of_le hb h1.size, hl.below hb h1⟩) hi
  have HA7 : Hid (∀ w1, Below w.heap.size w w1 → Calls Tryd.prog 13 #[.slice (some ⟨b, off, none⟩) l.length cap] w1 fun e w' => A7Told l w1 e w') := fun w1 h1 => ahead7_any l _ cap w1 (by omega) (.inr ⟨b, off, rfl, Nat.lt_of_lt_of_le hb h1.size, hl.below hb h1⟩)
  clear hl
  go_enter Tryd.func16, Tryd.ntmps16
  go_wp2
  go_loopw [16] (fun v wr => ∃ k : Nat, k ≤ l.length ∧ v = .int .i64 k ∧ (∀ j, j < k → (readsD l j == -2) = false) ∧ Below w.heap.size w wr) (fun v _ => l.length - (intOf v).toNat)
  case atStart => exact ⟨0, Nat.zero_le _, rfl, fun j hj => absurd hj (by omega), Below.refl _ _⟩
  case round =>
    obtain ⟨k, hk, rfl, hth, hb1⟩ := hrel
    have HTh := hideIt hth
    have HB1 := hideIt hb1
    clear hth hb1
    by_cases hkl : k < l.length
    · have HR := hideIt (HRd.out wr k hkl HB1.out)
      cases ht : readsD l k == -2
      · have R1 : Hid (∀ j, j < k + 1 → (readsD l j == -2) = false) := fun j hj => by
          by_cases e : j = k
          · subst e; exact ht
          · exact HTh.out j (by omega)
        generalize readsD l k = rd at HR ht
        go_wp2_with (go_at_call 12; refine HR.out.mono ?_; rintro e w5 ⟨rfl, hb5⟩)
        go_roundw
        case rel => exact ⟨k + 1, by omega, by go_num, R1.out, belJ HB1.out hb5⟩
        case measure => simp [intOf]; omega
      · have R1 : Hid (findsK l = pairK 1 (k, k)) := by
          show findsK l = pairK 1 (k, k)
          unfold findsK
          rw [firstN_at hkl (fun j hj => by rw [← readsD_thin HOk.out (by omega)]; exact HTh.out j hj) (by rw [← readsD_thin HOk.out hkl]; exact ht)]
        generalize readsD l k = rd at HR ht
        go_wp2_with (go_at_call 12; refine HR.out.mono ?_; rintro e w5 ⟨rfl, hb5⟩)
        go_ret3
        exact ⟨by rw [R1.out]; rfl, belJ HB1.out hb5⟩
    · have HF1 : Hid (firstN (fun i => readsD l i == -2) l.length = none) := firstN_none fun j hj => HTh.out j (by omega)
      go_wp2_with fail
      refine (HA7.out _ HB1.out).mono ?_
      rintro e w5 ⟨v, gs, A, rfl, ho, hgl, hA, hb5⟩
      have HB5 := hideIt (belJ HB1.out hb5)
      have HEq := hideIt (findsD_eq HOk.out hA)
      obtain ⟨g, og, cg, rfl, hcg, _⟩ := ho.read (by omega)
      rw [hgl]
      have HRead : Hid (∀ W, Below w5.heap.size w5 W → ∀ i, i < l.length → W.cell? ⟨g, og + i, none⟩ = some (.slice (some ⟨gs.getD i 0, 0, none⟩) l.length l.length) ∧ ∀ k, k < l.length → W.cell? ⟨gs.getD i 0, k, none⟩ = some (.bool (A i k))) := fun W hW i hi => by
        obtain ⟨g', og', cg', e, _, hr⟩ := (ho.below hW (Nat.le_refl _)).read (by omega)
        injection e with e1 e2 e3
        injection e1 with e1
        injection e1 with e4 e5 e6
        subst e4 e5
        have := hr i (by omega)
        rw [show gs.getD i 0 = gs[i]'(by omega) from by simp [List.getD_eq_getElem?_getD, List.getElem?_eq_getElem (show i < gs.length by omega)]]
        exact this
      clear ho hA hb5 HTh HB1 HA7
      generalize hrr : (fun i => gs.getD i 0) = rr at HRead
      have HRead : Hid (∀ W, Below w5.heap.size w5 W → ∀ i, i < l.length → W.cell? ⟨g, og + i, none⟩ = some (.slice (some ⟨rr i, 0, none⟩) l.length l.length) ∧ ∀ k, k < l.length → W.cell? ⟨rr i, k, none⟩ = some (.bool (A i k))) := by rw [← hrr]; exact HRead
      clear hrr hgl
      go_wp2
      go_loopw [30] (fun v wr => ∃ k : Nat, k ≤ l.length ∧ v = .int .i64 k ∧ (∀ j, j < k → A j j = false) ∧ wr = w5) (fun v _ => l.length - (intOf v).toNat)
      case atStart => exact ⟨0, Nat.zero_le _, rfl, fun j hj => absurd hj (by omega), rfl⟩
      case round =>
        clear hkl hk
        obtain ⟨k, hk, rfl, hro, hwr⟩ := hrel
        have hwr' := hwr.symm
        subst hwr'
        clear hwr
        have HRo := hideIt hro
        clear hro
        by_cases hkl : k < l.length
        · obtain ⟨c1, c2⟩ := HRead.out _ (Below.refl _ _) k hkl
          have c3 := c2 k hkl
          clear c2
          cases hx : A k k
          · rw [hx] at c3
            have R1 : Hid (∀ j, j < k + 1 → A j j = false) := fun j hj => by
              by_cases e : j = k
              · subst e; exact hx
              · exact HRo.out j (by omega)
            clear hx
            go_wp2
            go_roundw
            case rel => exact ⟨k + 1, by omega, by go_num, R1.out, by simp⟩
            case measure => simp [intOf]; omega
          · rw [hx] at c3
            have R1 : Hid (findsK l = pairK 2 (k, k)) := by
              show findsK l = pairK 2 (k, k)
              rw [← HEq.out]
              unfold findsD
              rw [HF1.out]
              simp only
              rw [firstN_at hkl HRo.out hx]
            clear hx
            go_wp2
            go_ret3
            exact ⟨by rw [R1.out]; rfl, HB5.out⟩
        · have HF2 : Hid (firstN (fun i => A i i) l.length = none) := firstN_none fun j hj => HRo.out j (by omega)
          have HK : Hid (findsK l = match firstP (bothD l A 3) l.length with
              | some p => pairK 3 p
              | none => match firstP (bothD l A 4) l.length with
                | some p => pairK 4 p
                | none => (0, 0, 0)) := by
            show findsK l = _
            rw [← HEq.out]
            unfold findsD
            rw [HF1.out]
            simp only
            rw [HF2.out]
            rfl
          clear HF1 HF2 HEq HRo
          go_wp2
          go_loopw [8] (fun v wr => ∃ c : Nat, 3 ≤ c ∧ c ≤ 5 ∧ v = .int .i64 c ∧ (∀ d : Nat, 3 ≤ d → d < c → firstP (bothD l A d) l.length = none) ∧ Below w5.heap.size w5 wr) (fun v _ => 6 - (intOf v).toNat)
          case atStart => exact ⟨3, by omega, by omega, rfl, fun d h1 h2 => absurd h2 (by omega), Below.refl _ _⟩
          case round =>
            clear hkl hk
            obtain ⟨c, hc3, hc5, rfl, hcd, hb6⟩ := hrel
            have HCD := hideIt hcd
            have HB6 := hideIt hb6
            clear hcd hb6
            by_cases hc4 : c ≤ 4
            · have hcI : (c : Int) ≤ 4 := by omega
              have hc34 : c = 3 ∨ c = 4 := by omega
              have HRet : Hid (∀ p, firstP (bothD l A c) l.length = some p → findsK l = pairK c p) := fun p hp => by
                rw [HK.out]
                rcases hc34 with rfl | rfl
                · have e : firstP (bothD l A 3) l.length = some p := hp
                  rw [e]; rfl
                · have e3 : firstP (bothD l A 3) l.length = none := HCD.out 3 (by omega) (by omega)
                  have e4 : firstP (bothD l A 4) l.length = some p := hp
                  rw [e3]
                  simp only
                  rw [e4]; rfl
              go_wp2
              go_loopw [49] (fun v wr => ∃ i : Nat, i ≤ l.length ∧ v = .int .i64 i ∧ NoneTo (bothD l A c) l.length i ∧ Below w5.heap.size w5 wr) (fun v _ => l.length - (intOf v).toNat)
              case atStart => exact ⟨0, Nat.zero_le _, rfl, fun a ha => absurd ha (by omega), HB6.out⟩
              case round =>
                clear HB6
                obtain ⟨i, hi, rfl, hno, hb7⟩ := hrel
                have HNo := hideIt hno
                have HB7 := hideIt hb7
                have HBw := hideIt (HB5.out.trans (hb7.mono HB5.out.size))
                clear hno hb7
                by_cases hil : i < l.length
                · obtain ⟨c0, c1, c2, c3, c4, c5, c6, c7⟩ := (HO.out i hil).below hb HBw.out
                  have HX : Hid (opZ l i = l[i]) := opZ_at hil
                  generalize l[i] = x at c0 c1 c2 c3 c4 c5 c6 c7 HX
                  have HBox : Hid (OpAt (wr.alloc (.cells #[.int .i64 x.p, .int .i64 x.k, .int .i64 x.d, .int .i64 x.a, .int .i64 x.b, .int .i64 x.r, .int .i64 x.c, .int .i64 x.e] 48)) wr.heap.size 0 x ∧ wr.heap.size < (wr.alloc (.cells #[.int .i64 x.p, .int .i64 x.k, .int .i64 x.d, .int .i64 x.a, .int .i64 x.b, .int .i64 x.r, .int .i64 x.c, .int .i64 x.e] 48)).heap.size) := by
                    refine ⟨⟨?_, ?_, ?_, ?_, ?_, ?_, ?_, ?_⟩, ?_⟩ <;> simp
                  have HB8 : Hid (Below w5.heap.size w5 (wr.alloc (.cells #[.int .i64 x.p, .int .i64 x.k, .int .i64 x.d, .int .i64 x.a, .int .i64 x.b, .int .i64 x.r, .int .i64 x.c, .int .i64 x.e] 48))) := belA HB7.out _
                  go_wp2
                  clear c0 c1 c2 c3 c4 c5 c6 c7
                  generalize hW : wr.alloc _ = W1
                  rw [hW] at HBox HB8
                  generalize wr.heap.size = X at HBox ⊢
                  clear hW HB7 HBw
                  go_loopw [56] (fun v wr => ∃ k : Nat, k ≤ l.length ∧ v = .int .i64 k ∧ (∀ q, q < k → bothD l A c i q = false) ∧ OpAt wr X 0 x ∧ X < wr.heap.size ∧ Below w5.heap.size w5 wr) (fun v _ => l.length - (intOf v).toNat)
                  case atStart => exact ⟨0, Nat.zero_le _, rfl, fun q hq => absurd hq (by omega), HBox.out.1, HBox.out.2, HB8.out⟩
                  case round =>
                    clear HBox HB8
                    obtain ⟨k, hk, rfl, hnk, hox, hxl, hb9⟩ := hrel
                    have HNK := hideIt hnk
                    have HOX := hideIt hox
                    have HXL := hideIt hxl
                    have HB9 := hideIt hb9
                    have HBw := hideIt (HB5.out.trans (hb9.mono HB5.out.size))
                    clear hnk hb9
                    by_cases hkl : k < l.length
                    · obtain ⟨c0, c1, c2, c3, c4, c5, c6, c7⟩ := (HO.out k hkl).below hb HBw.out
                      have HY : Hid (opZ l k = l[k]) := opZ_at hkl
                      generalize l[k] = y at c0 c1 c2 c3 c4 c5 c6 c7 HY
                      have hXn : X ≠ wr.heap.size := by omega
                      obtain ⟨_, d1, d2, _⟩ := hox
                      have d1' : ∀ o : Obj, (wr.alloc o).cell? ⟨X, 0 + 1, none⟩ = some (.int .i64 x.k) := fun o => by rw [World.cell?_alloc_lt _ _ ⟨X, 0 + 1, none⟩ HXL.out]; exact d1
                      have d2' : ∀ o : Obj, (wr.alloc o).cell? ⟨X, 0 + 2, none⟩ = some (.int .i64 x.d) := fun o => by rw [World.cell?_alloc_lt _ _ ⟨X, 0 + 2, none⟩ HXL.out]; exact d2
                      have HM : Hid (∀ o : Obj, (wr.alloc o).cell? ⟨g, og + k, none⟩ = some (.slice (some ⟨rr k, 0, none⟩) l.length l.length) ∧ (wr.alloc o).cell? ⟨rr k, i, none⟩ = some (.bool (A k i))) := fun o => by
                        obtain ⟨h1, h2⟩ := HRead.out _ (belA HB9.out o) k hkl
                        exact ⟨h1, h2 i hil⟩
                      have e1 : ∀ o : Obj, (wr.alloc o).cell? ⟨g, og + k, none⟩ = some (.slice (some ⟨rr k, 0, none⟩) l.length l.length) := fun o => (HM.out o).1
                      have e2 : ∀ o : Obj, (wr.alloc o).cell? ⟨rr k, i, none⟩ = some (.bool (A k i)) := fun o => (HM.out o).2
                      clear d1 d2
                      have HKeep : Hid (∀ o w2, Below (wr.alloc o).heap.size (wr.alloc o) w2 → OpAt w2 X 0 x ∧ X < w2.heap.size ∧ Below w5.heap.size w5 w2) := fun o w2 h2 => by
                        have h3 : Below wr.heap.size wr w2 := belJ (belA (Below.refl _ _) o) h2
                        exact ⟨HOX.out.below HXL.out h3, Nat.lt_of_lt_of_le HXL.out h3.size, belJ HB9.out h3⟩
                      have HNext : Hid (bothD l A c i k = false → ∀ q, q < k + 1 → bothD l A c i q = false) := fun h q hq => by
                        by_cases e : q = k
                        · subst e; exact h
                        · exact HNK.out q (by omega)
                      have HP : Hid (((opZ l i).d == 1 && ((opZ l k).d == 2 && ((opZ l k).k == (opZ l i).k && A k i))) = (x.d == 1 && (y.d == 2 && (y.k == x.k && A k i)))) := by
                        show ((opZ l i).d == 1 && ((opZ l k).d == 2 && ((opZ l k).k == (opZ l i).k && A k i))) = _
                        rw [HX.out, HY.out]
                      have HFound : Hid (bothD l A c i k = true → findsK l = pairK c (i, k)) := fun h => HRet.out _ (firstP_at hil hkl HNo.out HNK.out h)
                      have HRR := hideIt (HRd.out)
                      have HRi : Hid (∀ w1, Below w5.heap.size w5 w1 → Calls Tryd.prog 12 #[.slice (some ⟨b, off, none⟩) l.length cap, .int .i64 (i : Nat)] w1 fun e w' => e = .returned (.int .i64 (readsD l i)) ∧ Below w1.heap.size w1 w') := fun w1 h1 => HRd.out w1 i hil (HB5.out.trans (h1.mono HB5.out.size))
                      clear HRR HOX HXL HNK
                      by_cases hx1 : x.d = 1
                      · have hx1' : (x.d != 1) = false := by simp [hx1]
                        by_cases hy2 : y.d = 2
                        · have hy2' : (y.d != 2) = false := by simp [hy2]
                          by_cases hyk : y.k = x.k
                          · have hyk' : (y.k != x.k) = false := by simp [hyk]
                            cases hA1 : A k i
                            · have R1 := hideIt (HNext.out (bothD_no (by rw [HP.out, hA1]; simp)))
                              rw [hA1] at e2
                              clear hx1 hy2 hyk hA1
                              go_wp2
                              go_roundw
                              case rel => exact ⟨k + 1, by omega, by go_num, R1.out, (HKeep.out _ _ (Below.refl _ _)).1, (HKeep.out _ _ (Below.refl _ _)).2.1, (HKeep.out _ _ (Below.refl _ _)).2.2⟩
                              case measure => simp [intOf]; omega
                            · have HPT : Hid (((opZ l i).d == 1 && ((opZ l k).d == 2 && ((opZ l k).k == (opZ l i).k && A k i))) = true) := by
                                show ((opZ l i).d == 1 && ((opZ l k).d == 2 && ((opZ l k).k == (opZ l i).k && A k i))) = true
                                rw [HP.out, hA1, hyk, hx1, hy2]; simp
                              rw [hA1] at e2
                              clear hx1 hy2 hyk hA1 HP
                              have hRlt := readsD_lt (l := l) (i := i)
                              rcases hc34 with hcc | hcc
                              · have HB3 : Hid (bothD l A c i k = (readsD l i == -1)) := by
                                  show bothD l A c i k = (readsD l i == -1)
                                  rw [hcc]; exact bothD_three HPT.out
                                have hq3 : ((c : Int) == 3) = true := by simp [hcc]
                                have hq4 : ((c : Int) == 4) = false := by simp [hcc]
                                clear hcc
                                have HA2 : Hid (∀ w2, Below w5.heap.size w5 w2 → True) := fun _ _ => trivial
                                cases hrd : readsD l i == -1
                                · have R1 := hideIt (HNext.out (by rw [HB3.out]; exact hrd))
                                  generalize readsD l i = rd at HRi hrd
                                  go_wp2_with (go_at_call 12; refine (HRi.out _ (belA HB9.out _)).mono ?_; rintro e w2 ⟨rfl, hb2⟩)
                                  go_roundw
                                  case rel => exact ⟨k + 1, by omega, by go_num, R1.out, (HKeep.out _ _ hb2).1, (HKeep.out _ _ hb2).2.1, (HKeep.out _ _ hb2).2.2⟩
                                  case measure => simp [intOf]; omega
                                · have R1 := hideIt (HFound.out (by rw [HB3.out]; exact hrd))
                                  generalize readsD l i = rd at HRi hrd
                                  go_wp2_with (go_at_call 12; refine (HRi.out _ (belA HB9.out _)).mono ?_; rintro e w2 ⟨rfl, hb2⟩)
                                  go_ret3
                                  exact ⟨by rw [R1.out]; rfl, HB5.out.trans ((HKeep.out _ _ hb2).2.2.mono HB5.out.size)⟩
                              · have HB4 : Hid (bothD l A c i k = (decide (0 ≤ readsD l i) && ((k : Int) != readsD l i && A (readsD l i).toNat k))) := by
                                  show bothD l A c i k = _
                                  rw [hcc]; exact bothD_four HPT.out
                                have hq3 : ((c : Int) == 3) = false := by simp [hcc]
                                have hq4 : ((c : Int) == 4) = true := by simp [hcc]
                                clear hcc
                                by_cases hge : 0 ≤ readsD l i
                                · obtain ⟨m, hm⟩ : ∃ m : Nat, readsD l i = m := ⟨(readsD l i).toNat, by omega⟩
                                  rw [hm] at HB4 HRi hRlt
                                  have hml : m < l.length := by omega
                                  have hge' : (0 : Int) ≤ (m : Int) := by omega
                                  rw [Int.toNat_natCast, show decide ((0 : Int) ≤ (m : Int)) = true from by simp] at HB4
                                  have HA2 : Hid (∀ w2, Below w5.heap.size w5 w2 → w2.cell? ⟨g, og + m, none⟩ = some (.slice (some ⟨rr m, 0, none⟩) l.length l.length) ∧ w2.cell? ⟨rr m, k, none⟩ = some (.bool (A m k))) := fun w2 h2 => ⟨(HRead.out w2 h2 m hml).1, (HRead.out w2 h2 m hml).2 k hkl⟩
                                  clear hge hm
                                  cases hkm : ((k : Int) != (m : Int))
                                  · have R1 := hideIt (HNext.out (by rw [HB4.out, hkm]; rfl))
                                    go_wp2_with (go_at_call 12; refine (HRi.out _ (belA HB9.out _)).mono ?_; rintro e w2 ⟨rfl, hb2⟩; obtain ⟨k2, k3⟩ := HA2.out w2 (HKeep.out _ _ hb2).2.2)
                                    go_roundw
                                    case rel => exact ⟨k + 1, by omega, by go_num, R1.out, (HKeep.out _ _ hb2).1, (HKeep.out _ _ hb2).2.1, (HKeep.out _ _ hb2).2.2⟩
                                    case measure => simp [intOf]; omega
                                  · cases hAm : A m k
                                    · have R1 := hideIt (HNext.out (by rw [HB4.out, hAm]; simp))
                                      rw [hAm] at HA2
                                      clear hAm
                                      go_wp2_with (go_at_call 12; refine (HRi.out _ (belA HB9.out _)).mono ?_; rintro e w2 ⟨rfl, hb2⟩; obtain ⟨k2, k3⟩ := HA2.out w2 (HKeep.out _ _ hb2).2.2)
                                      go_roundw
                                      case rel => exact ⟨k + 1, by omega, by go_num, R1.out, (HKeep.out _ _ hb2).1, (HKeep.out _ _ hb2).2.1, (HKeep.out _ _ hb2).2.2⟩
                                      case measure => simp [intOf]; omega
                                    · have R1 := hideIt (HFound.out (by rw [HB4.out, hAm, hkm]; rfl))
                                      rw [hAm] at HA2
                                      clear hAm
                                      go_wp2_with (go_at_call 12; refine (HRi.out _ (belA HB9.out _)).mono ?_; rintro e w2 ⟨rfl, hb2⟩; obtain ⟨k2, k3⟩ := HA2.out w2 (HKeep.out _ _ hb2).2.2)
                                      go_ret3
                                      exact ⟨by rw [R1.out]; rfl, HB5.out.trans ((HKeep.out _ _ hb2).2.2.mono HB5.out.size)⟩
                                · have hge' : decide (0 ≤ readsD l i) = false := by simp [hge]
                                  have R1 := hideIt (HNext.out (by rw [HB4.out, hge']; rfl))
                                  have HA2 : Hid (∀ w2, Below w5.heap.size w5 w2 → True) := fun _ _ => trivial
                                  generalize readsD l i = rd at HRi hge hge'
                                  clear HB4 hRlt
                                  go_wp2_with (go_at_call 12; refine (HRi.out _ (belA HB9.out _)).mono ?_; rintro e w2 ⟨rfl, hb2⟩)
                                  go_roundw
                                  case rel => exact ⟨k + 1, by omega, by go_num, R1.out, (HKeep.out _ _ hb2).1, (HKeep.out _ _ hb2).2.1, (HKeep.out _ _ hb2).2.2⟩
                                  case measure => simp [intOf]; omega
                          · have hyk' : (y.k != x.k) = true := by simp [hyk]
                            have R1 := hideIt (HNext.out (bothD_no (by rw [HP.out]; simp [hyk])))
                            clear hx1 hy2 hyk
                            go_wp2
                            go_roundw
                            case rel => exact ⟨k + 1, by omega, by go_num, R1.out, (HKeep.out _ _ (Below.refl _ _)).1, (HKeep.out _ _ (Below.refl _ _)).2.1, (HKeep.out _ _ (Below.refl _ _)).2.2⟩
                            case measure => simp [intOf]; omega
                        · have hy2' : (y.d != 2) = true := by simp [hy2]
                          have R1 := hideIt (HNext.out (bothD_no (by rw [HP.out]; simp [hy2])))
                          clear hx1 hy2
                          go_wp2
                          go_roundw
                          case rel => exact ⟨k + 1, by omega, by go_num, R1.out, (HKeep.out _ _ (Below.refl _ _)).1, (HKeep.out _ _ (Below.refl _ _)).2.1, (HKeep.out _ _ (Below.refl _ _)).2.2⟩
                          case measure => simp [intOf]; omega
                      · have hx1' : (x.d != 1) = true := by simp [hx1]
                        have R1 := hideIt (HNext.out (bothD_no (by rw [HP.out]; simp [hx1])))
                        clear hx1
                        go_wp2
                        go_roundw
                        case rel => exact ⟨k + 1, by omega, by go_num, R1.out, (HKeep.out _ _ (Below.refl _ _)).1, (HKeep.out _ _ (Below.refl _ _)).2.1, (HKeep.out _ _ (Below.refl _ _)).2.2⟩
                        case measure => simp [intOf]; omega
                    · have R1 : Hid (NoneTo (bothD l A c) l.length (i + 1)) := fun a ha q hq => by
                        by_cases e : a = i
                        · subst e; exact HNK.out q (by omega)
                        · exact HNo.out a (by omega) q hq
                      go_wp2
                      go_roundw
                      case rel => exact ⟨i + 1, by omega, by go_num, R1.out, HB9.out⟩
                      case measure => simp [intOf]; omega
                · have R1 : Hid (∀ d : Nat, 3 ≤ d → d < c + 1 → firstP (bothD l A d) l.length = none) := fun d h1 h2 => by
                    by_cases e : d = c
                    · subst e; exact firstP_none fun a ha q hq => HNo.out a (by omega) q hq
                    · exact HCD.out d h1 (by omega)
                  go_wp2
                  go_roundw
                  case rel => exact ⟨c + 1, by omega, by omega, by go_num, R1.out, HB7.out⟩
                  case measure => simp [intOf]; omega
            · have hcI : ¬ (c : Int) ≤ 4 := by omega
              have R1 : Hid (findsK l = (0, 0, 0)) := by
                show findsK l = (0, 0, 0)
                have e3 : firstP (bothD l A 3) l.length = none := HCD.out 3 (by omega) (by omega)
                have e4 : firstP (bothD l A 4) l.length = none := HCD.out 4 (by omega) (by omega)
                rw [HK.out, e3]
                simp only
                rw [e4]
              have R2 := hideIt (HB5.out.trans (HB6.out.mono HB5.out.size))
              go_wp2
              go_ret3
              exact ⟨by rw [R1.out]; rfl, R2.out⟩

end Go.Proofs.YtfojmbbhcmeejaaDoor
