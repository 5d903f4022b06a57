/-
  The document's own Fits, walked.
-/
import Derived.Test.YtelndpbkheoeaaaDoorZonWZ
namespace Go.Proofs.YtelndpbkheoeaaaDoor
open Go.RowKit

def badR (x y : Zon) (i k : Nat) : Bool := (y.fw && decide ((i : Int) < k) && decide (y.lo < x.hi)) || (!y.fw && decide (x.lo < y.lo) && decide (y.hi < x.hi))
theorem badR_eq {L : List Zon} (hs : L.Pairwise (fun x y => x.lo < y.lo)) {i k : Nat} (hi : i < L.length) (hk : k < L.length) (hf : (zonI L i).fw = true) :
    badR (zonI L i) (zonI L k) i k = (decide (i < k) && clashZ (zonI L i) (zonI L k)) := by
  have lt_ : ∀ i k, i < k → k < L.length → (zonI L i).lo < (zonI L k).lo := fun i k hik hk => by
    rw [zonI_at hk, zonI_at (Nat.lt_trans hik hk)]
    exact (List.pairwise_iff_getElem.1 hs) i k (Nat.lt_trans hik hk) hk hik
  unfold badR clashZ
  rw [hf]
  rcases Nat.lt_trichotomy i k with h | h | h
  · have h1 := lt_ i k h hk
    have h2 : (i : Int) < (k : Int) := by omega
    cases (zonI L k).fw <;> simp [h1, h2, h]
  · subst h
    cases (zonI L i).fw <;> simp
  · have h1 := lt_ k i h hi
    have h2 : ¬ (i : Int) < (k : Int) := by omega
    have h3 : ¬ i < k := by omega
    have h4 : ¬ (zonI L i).lo < (zonI L k).lo := by omega
    cases (zonI L k).fw <;> simp [h2, h3, h4]

theorem zonAt_newR (w : World) (z : Zon) : ZonAt (w.alloc (.cells #[.int .i64 z.v, .int .i64 z.lo, .int .i64 z.hi, .bool z.fw] 37)) w.heap.size 0 z := ⟨by simp, by simp, by simp, by simp⟩

set_option maxHeartbeats 2000000 in
theorem rFits_any (L : List Zon) (v : Value) (w : World) (hz : ZonsH w v L) (hs : L.Pairwise (fun x y => x.lo < y.lo)) :
    Calls Tryd.prog 12 #[v] w fun e w' => ∃ fit p q, e = .returned (.tuple #[.bool fit, .int .i64 p, .int .i64 q]) ∧ FTold L fit p q ∧ Below w.heap.size w w' := by
  obtain ⟨az, capz, rfl, hc1, hc2, hz⟩ := hz
  have HZ := hideIt hz
  have HS := hideIt hs
  clear hz hs
  go_enter Tryd.func12, Tryd.ntmps12
  go_wp2
  go_loopw [12] (fun i wr => ∃ k : Nat, k ≤ L.length ∧ i = .int .i64 k ∧ (∀ i' k', i' < k → i' < k' → k' < L.length → clashZ (zonI L i') (zonI L k') = false) ∧ Below w.heap.size w wr) (fun i _ => L.length - (intOf i).toNat)
  case atStart => exact ⟨0, Nat.zero_le _, rfl, fun i' k' hj => absurd hj (by omega), Below.refl _ _⟩
  case round =>
    obtain ⟨k, hk, rfl, ha, hnx⟩ := hrel
    have HA := hideIt ha
    have HNX := hideIt hnx
    clear ha
    by_cases hkl : k < L.length
    · rcases HZ.out with e | ⟨g, rfl, hgw, HO⟩
      · subst e; simp at hkl
      · have HOO := hideIt HO
        clear HO
        obtain ⟨c0, c1, c2, c3⟩ := (HOO.out k hkl).below hgw hnx
        rw [Nat.zero_add] at c0 c1 c2 c3
        have HX : Hid (zonI L k = L[k]) := zonI_at hkl
        generalize L[k] = x at c0 c1 c2 c3 HX
        have hgr : g < wr.heap.size := Nat.lt_of_lt_of_le hgw hnx.size
        clear HZ
        go_wp2
        go_loopw [19] (fun i wy => ∃ j : Nat, j ≤ L.length ∧ i = .int .i64 j ∧ (x.fw = true ∨ j = 0) ∧ (∀ k', k < k' → k' < j → clashZ x (zonI L k') = false) ∧ Below (wr.alloc (.cells #[.int .i64 x.v, .int .i64 x.lo, .int .i64 x.hi, .bool x.fw] 37)).heap.size (wr.alloc (.cells #[.int .i64 x.v, .int .i64 x.lo, .int .i64 x.hi, .bool x.fw] 37)) wy) (fun i _ => L.length - (intOf i).toNat)
        case atStart => exact ⟨0, Nat.zero_le _, rfl, .inr rfl, fun k' h1 h2 => absurd h2 (by omega), Below.refl _ _⟩
        case round =>
          obtain ⟨j, hj, rfl, hfw, hb, hny⟩ := hrel
          have HBB := hideIt hb
          have HNY := hideIt hny
          have HFW := hideIt hfw
          have HBW := hideIt ((belA HNX.out (.cells #[.int .i64 x.v, .int .i64 x.lo, .int .i64 x.hi, .bool x.fw] 37)).trans (hny.mono (belA HNX.out _).size))
          have hxl := Nat.lt_of_lt_of_le (size_lt_alloc _ _) hny.size
          clear hb hfw
          have R0 : Hid (j = L.length ∨ x.fw = false → ∀ i' k', i' < k + 1 → i' < k' → k' < L.length → clashZ (zonI L i') (zonI L k') = false) := fun hc i' k' h1 h2 h3 => by
            by_cases e : i' = k
            · subst e
              rw [HX.out]
              rcases hc with hc | hc
              · exact HBB.out k' h2 (by omega)
              · unfold clashZ; rw [hc]; rfl
            · exact HA.out i' k' (by omega) h2 h3
          by_cases hjl : j < L.length
          · obtain ⟨x0, x1, x2, x3⟩ := (zonAt_newR _ x).below (size_lt_alloc _ _) hny
            rw [Nat.zero_add] at x1 x2 x3
            obtain ⟨d0, d1, d2, d3⟩ := (HOO.out j hjl).below hgw HBW.out
            rw [Nat.zero_add] at d0 d1 d2 d3
            have hg2 : g < wr.heap.size := Nat.lt_of_lt_of_le hgw HBW.out.size
            have y0 : ∀ o : Obj, (wr.alloc o).cell? _ = some (.int .i64 x.v) := fun o => (World.cell?_alloc_lt _ _ _ hxl).trans x0
            have y1 : ∀ o : Obj, (wr.alloc o).cell? _ = some (.int .i64 x.lo) := fun o => (World.cell?_alloc_lt _ _ _ hxl).trans x1
            have y2 : ∀ o : Obj, (wr.alloc o).cell? _ = some (.int .i64 x.hi) := fun o => (World.cell?_alloc_lt _ _ _ hxl).trans x2
            have y3 : ∀ o : Obj, (wr.alloc o).cell? _ = some (.bool x.fw) := fun o => (World.cell?_alloc_lt _ _ _ hxl).trans x3
            have HY : Hid (zonI L j = L[j]) := zonI_at hjl
            generalize L[j] = y at d0 d1 d2 d3 HY
            clear hny
            cases hxf : x.fw
            · have R1 := hideIt (R0.out (.inr hxf))
              go_wp2
              go_roundw
              case rel => exact ⟨k + 1, by omega, by go_num, R1.out, belA HBW.out _⟩
              case measure => simp [intOf]; omega
            · have HBR := hideIt (badR_eq HS.out hkl hjl (by rw [HX.out]; exact hxf))
              rw [HX.out, HY.out] at HBR
              cases hyf : y.fw
              · by_cases h1 : x.lo < y.lo
                · have h1' : decide (x.lo < y.lo) = true := by simp [h1]
                  by_cases h2 : y.hi < x.hi
                  · have h2' : decide (y.hi < x.hi) = true := by simp [h2]
                    have hh := HBR.out
                    rw [show badR x y k j = true from by unfold badR; simp [hyf, h1, h2]] at hh
                    have hh2 : k < j ∧ clashZ x y = true := by have := hh.symm; simpa using this
                    have R1 : Hid (FTold L false x.v y.v) := .inr ⟨k, j, hh2.1, hjl, by rw [HX.out, HY.out]; exact hh2.2, HA.out, fun k' g1 g2 => by rw [HX.out]; exact HBB.out k' g1 g2, rfl, by rw [HX.out], by rw [HY.out]⟩
                    clear hh hh2
                    go_wp2_with fail
                    go_big_quiet (fail)
                    go_wp2
                    go_ret3
                    exact ⟨false, x.v, y.v, rfl, R1.out, below_drewN (belA HBW.out _) _⟩
                  · have h2' : decide (y.hi < x.hi) = false := by simp [h2]
                    have R1 : Hid (∀ k', k < k' → k' < j + 1 → clashZ x (zonI L k') = false) := fun k' g1 g2 => by
                      by_cases e : k' = j
                      · subst e
                        rw [HY.out]
                        have hh := HBR.out
                        rw [show badR x y k k' = false from by unfold badR; simp [hyf, h2]] at hh
                        cases hc : clashZ x y
                        · rfl
                        · rw [hc] at hh; simp at hh; omega
                      · exact HBB.out k' g1 (by omega)
                    have R2 := hideIt (HNY.out.alloc HNY.out.size (.cells #[.int .i64 y.v, .int .i64 y.lo, .int .i64 y.hi, .bool y.fw] 37))
                    rw [hyf] at R2
                    go_wp2
                    go_roundw
                    case rel => exact ⟨j + 1, by omega, by go_num, .inl trivial, R1.out, by have h9 := R2.out; rw [hxf] at h9; exact h9⟩
                    case measure => simp [intOf]; omega
                · have h1' : decide (x.lo < y.lo) = false := by simp [h1]
                  have R1 : Hid (∀ k', k < k' → k' < j + 1 → clashZ x (zonI L k') = false) := fun k' g1 g2 => by
                    by_cases e : k' = j
                    · subst e
                      rw [HY.out]
                      have hh := HBR.out
                      rw [show badR x y k k' = false from by unfold badR; simp [hyf, h1]] at hh
                      cases hc : clashZ x y
                      · rfl
                      · rw [hc] at hh; simp at hh; omega
                    · exact HBB.out k' g1 (by omega)
                  have R2 := hideIt (HNY.out.alloc HNY.out.size (.cells #[.int .i64 y.v, .int .i64 y.lo, .int .i64 y.hi, .bool y.fw] 37))
                  rw [hyf] at R2
                  go_wp2
                  go_roundw
                  case rel => exact ⟨j + 1, by omega, by go_num, .inl trivial, R1.out, by have h9 := R2.out; rw [hxf] at h9; exact h9⟩
                  case measure => simp [intOf]; omega
              · by_cases h1 : (k : Int) < (j : Int)
                · have h1' : decide ((k : Int) < (j : Int)) = true := by simp [h1]
                  by_cases h2 : y.lo < x.hi
                  · have h2' : decide (y.lo < x.hi) = true := by simp [h2]
                    have hh := HBR.out
                    rw [show badR x y k j = true from by unfold badR; simp [hyf, h1, h2]] at hh
                    have hh2 : k < j ∧ clashZ x y = true := by have := hh.symm; simpa using this
                    have R1 : Hid (FTold L false x.v y.v) := .inr ⟨k, j, hh2.1, hjl, by rw [HX.out, HY.out]; exact hh2.2, HA.out, fun k' g1 g2 => by rw [HX.out]; exact HBB.out k' g1 g2, rfl, by rw [HX.out], by rw [HY.out]⟩
                    clear hh hh2
                    go_wp2_with fail
                    go_big_quiet (fail)
                    go_wp2
                    go_ret3
                    exact ⟨false, x.v, y.v, rfl, R1.out, below_drewN (belA HBW.out _) _⟩
                  · have h2' : decide (y.lo < x.hi) = false := by simp [h2]
                    have R1 : Hid (∀ k', k < k' → k' < j + 1 → clashZ x (zonI L k') = false) := fun k' g1 g2 => by
                      by_cases e : k' = j
                      · subst e
                        rw [HY.out]
                        have hh := HBR.out
                        rw [show badR x y k k' = false from by unfold badR; simp [hyf, h2]] at hh
                        cases hc : clashZ x y
                        · rfl
                        · rw [hc] at hh; simp at hh; omega
                      · exact HBB.out k' g1 (by omega)
                    have R2 := hideIt (HNY.out.alloc HNY.out.size (.cells #[.int .i64 y.v, .int .i64 y.lo, .int .i64 y.hi, .bool y.fw] 37))
                    rw [hyf] at R2
                    go_wp2
                    go_roundw
                    case rel => exact ⟨j + 1, by omega, by go_num, .inl trivial, R1.out, by have h9 := R2.out; rw [hxf] at h9; exact h9⟩
                    case measure => simp [intOf]; omega
                · have h1' : decide ((k : Int) < (j : Int)) = false := by simp [h1]
                  have R1 : Hid (∀ k', k < k' → k' < j + 1 → clashZ x (zonI L k') = false) := fun k' g1 g2 => by
                    by_cases e : k' = j
                    · subst e
                      rw [HY.out]
                      have hh := HBR.out
                      rw [show badR x y k k' = false from by unfold badR; simp [hyf, h1]] at hh
                      cases hc : clashZ x y
                      · rfl
                      · rw [hc] at hh; simp at hh; omega
                    · exact HBB.out k' g1 (by omega)
                  have R2 := hideIt (HNY.out.alloc HNY.out.size (.cells #[.int .i64 y.v, .int .i64 y.lo, .int .i64 y.hi, .bool y.fw] 37))
                  rw [hyf] at R2
                  go_wp2
                  go_roundw
                  case rel => exact ⟨j + 1, by omega, by go_num, .inl trivial, R1.out, by have h9 := R2.out; rw [hxf] at h9; exact h9⟩
                  case measure => simp [intOf]; omega
          · have R1 := hideIt (R0.out (.inl (by omega)))
            go_wp2
            go_roundw
            case rel => exact ⟨k + 1, by omega, by go_num, R1.out, HBW.out⟩
            case measure => simp [intOf]; omega
    · have R1 : Hid (FTold L true 0 0) := .inl ⟨rfl, rfl, rfl, fun i' k' h1 h2 => HA.out i' k' (by omega) h1 h2⟩
      go_wp2
      go_ret3
      exact ⟨true, 0, 0, rfl, R1.out, HNX.out⟩

end Go.Proofs.YtelndpbkheoeaaaDoor
