/-
  The statement ModelBack walked: whatever the object, the kinds and the values, true.
-/
import Derived.Test.YtcfomkogojggnaaDoorBackW
namespace Go.Proofs.YtcfomkogojggnaaDoor
open Go.RowKit

theorem own_has {w : World} {base : Nat} {v : Value} {st : List Int} (h : Own w base v st) : HasInts w v st := (rowAt_owns h).has

set_option maxRecDepth 100000 in
set_option maxHeartbeats 4000000 in
theorem modelBack_walk (o : Int) (kinds values : List Int) (u v : Value) (w : World) (hu : HasInts w u kinds) (hv : HasInts w v values) (hK : KnownAt w) :
    Calls Tryd.prog 8 #[.int .i64 o, u, v] w fun e w' => e = .returned (.bool true) ∧ Below w.heap.size w w' := by
  have hpos : 1 < w.heap.size := World.block_lt_of_cell? w ⟨1, 0 * 13 + 0, none⟩ (hK 0 0 (by decide) (by decide))
  obtain ⟨a, cap, rfl, hm1, hm2, _, hkc⟩ := hu
  obtain ⟨a', cap', rfl, hm3, hm4, _, hvc⟩ := hv
  unfold maxLen at hm2 hm4
  have HKC : Hid (∀ n, (hn : n < kinds.length) → ∃ g off, a = some ⟨g, off, none⟩ ∧ ∀ wr, Below w.heap.size w wr → wr.cell? ⟨g, off + n, none⟩ = some (.int .i64 kinds[n])) := fun n hn => by
    obtain h | ⟨g, off, e, hc⟩ := hkc
    · subst h; simp at hn
    · exact ⟨g, off, e, fun wr hW => (hW.cell (World.block_lt_of_cell? w _ (hc n hn))).trans (hc n hn)⟩
  have HVC : Hid (∀ n, (hn : n < values.length) → ∃ g off, a' = some ⟨g, off, none⟩ ∧ ∀ wr, Below w.heap.size w wr → wr.cell? ⟨g, off + n, none⟩ = some (.int .i64 values[n])) := fun n hn => by
    obtain h | ⟨g, off, e, hc⟩ := hvc
    · subst h; simp at hn
    · exact ⟨g, off, e, fun wr hW => (hW.cell (World.block_lt_of_cell? w _ (hc n hn))).trans (hc n hn)⟩
  have HK := hideIt hK
  clear hkc hvc hK
  by_cases h30 : 30 < kinds.length
  · have h30' : decide (30 < (kinds.length : Int)) = true := by simp; omega
    go_enter Tryd.func8, Tryd.ntmps8
    go_wp2
    go_ret
    exact ⟨rfl, Below.refl _ _⟩
  have h30' : decide (30 < (kinds.length : Int)) = false := by simp; omega
  by_cases hvl : values.length < kinds.length
  · have hvl' : decide ((values.length : Int) < (kinds.length : Int)) = true := by simp; omega
    go_enter Tryd.func8, Tryd.ntmps8
    go_wp2
    go_ret
    exact ⟨rfl, Below.refl _ _⟩
  have hvl' : decide ((values.length : Int) < (kinds.length : Int)) = false := by simp; omega
  have hsc := start_any o w
  have hba := back_start (w := w) o
  obtain ⟨V0, hV0⟩ : ∃ V0, V0 = startV w o := ⟨_, rfl⟩
  obtain ⟨W0, hW0⟩ : ∃ W0, W0 = startW w o := ⟨_, rfl⟩
  rw [← hV0, ← hW0] at hsc hba
  have HSC := hideIt hsc
  have HBA := hideIt hba
  clear hV0 hW0 hsc hba
  go_enter Tryd.func8, Tryd.ntmps8
  go_wp2_with (go_at_call 20; refine HSC.out.mono ?_; rintro e w1 ⟨rfl, hw1⟩; have hw1 := hw1.symm; subst hw1)
  go_loopw [7, 8, 9, 10] (fun vS vO vN i wr => ∃ (n : Nat) (L : List Opn) (st : List Int), n ≤ kinds.length ∧ i = .int .i64 n ∧ L.length ≤ n ∧ BackAt w wr o vS vO vN L st) (fun _ _ _ i _ => kinds.length - (intOf i).toNat)
  case atStart => exact ⟨0, [], _, by omega, rfl, by simp, HBA.out⟩
  case round =>
    obtain ⟨n, L, st, hn, rfl, hL, hb⟩ := hrel
    have HB := hideIt hb
    obtain ⟨aO, capO, rfl, hmO, _⟩ := hb.rowO.has
    clear hb
    by_cases hnl : n < kinds.length
    · obtain ⟨g1, off1, rfl, c1⟩ := HKC.out n hnl
      obtain ⟨g2, off2, rfl, c2⟩ := HVC.out n (by omega)
      have c1 := c1 _ HB.out.bel
      have c2 := c2 _ HB.out.bel
      obtain ⟨x, hx⟩ : ∃ x, kinds[n] = x := ⟨_, rfl⟩
      obtain ⟨y, hy⟩ : ∃ y, values[n]'(by omega) = y := ⟨_, rfl⟩
      rw [hx] at c1
      rw [hy] at c2
      clear hx hy
      have k1 : (0 : Int) ≤ (n : Int) := by omega
      have k2 : (n : Int) < (kinds.length : Int) := by omega
      have k3 : (n : Int) < (values.length : Int) := by omega
      have hwr : IntKind.i64.wrap ((n : Int) + 1) = (n : Int) + 1 := by rw [IntKind.wrap_i64]; omega
      have hw2 : IntKind.i64.wrap (2 * (n : Int)) = 2 * (n : Int) := by rw [IntKind.wrap_i64]; omega
      have hw3 : IntKind.i64.wrap (2 * (n : Int) + 1) = 2 * (n : Int) + 1 := by rw [IntKind.wrap_i64]; omega
      have HST := hideIt (fun (W : World) (hW : Below wr.heap.size wr W) (k a b : Int) => back_step (HB.out.below hW) HK.out hpos (by omega) k a b (2 * (n : Int)) (2 * (n : Int) + 1) (by omega))
      go_wp2_with (first | (go_at_call 27; refine (pick12_any _ _).mono ?_; rintro e w1 ⟨⟨p, rfl⟩, hw1⟩; have hw1 := hw1.symm; subst hw1) | fail)
      go_region_held3 (fun w' => w'.cell? ⟨g2, off2 + n, none⟩ = some (.int .i64 y)) (go_keep)
        (first | (go_at_call 27; refine (pick4_any _ _).mono ?_; rintro e w1 ⟨⟨p1, rfl⟩, hw1⟩; have hw1 := hw1.symm; subst hw1))
      all_goals
        go_wp2_with fail
        refine (HST.out _ (Below.drew (Below.refl _ _)) _ _ _).mono ?_
        rintro x w1 (⟨rfl, hba⟩ | ⟨st', r, v', V1, W1, V2, W2, rfl, hrun1, hrun2, hba⟩)
        · have HBA := hideIt hba
          clear hba
          go_wp2
          go_roundw
          case rel => exact ⟨n + 1, L, st, by omega, by go_num, by omega, HBA.out⟩
          case measure => simp [intOf]; omega
        · have HBA := hideIt hba
          have R1 := hideIt hrun1
          have R2 := hideIt hrun2
          clear hba hrun1 hrun2
          go_wp2_with (first | (at_builtin; refine Lib.wpList_append_run _ rfl _ _ 47 47 rfl _ _ rfl rfl V1 W1 R1.out ?_) | (at_builtin; refine Lib.wpList_append_run _ rfl _ _ 23 23 rfl _ _ rfl rfl V2 W2 R2.out ?_))
          go_roundw
          case rel => exact ⟨n + 1, L ++ [_], st', by omega, by go_num, by simp; omega, HBA.out⟩
          case measure => simp [intOf]; omega
    · have HSP := hideIt (stepped_any wr (HK.out.below hpos HB.out.bel) (Nat.lt_of_lt_of_le hpos HB.out.bel.size))
      have hkey : ∀ op ∈ L, 0 ≤ op.k ∧ op.k < 8 := fun op hop => by rw [HB.out.made.2.2 op hop]; decide
      have HRUN : Hid (∀ W, Below wr.heap.size wr W → Calls Tryd.prog 25 #[.int .i64 o, .slice aO L.length capO, u9] W fun e w' => e = .returned (.int .i64 (-1)) ∧ Below W.heap.size W w') := fun W hW => by
        have hb := HB.out.below hW
        refine (run_any o L (ordL L.length) _ _ W hb.rowO.has (own_has hb.rowN) (HK.out.below hpos hb.bel) (Nat.lt_of_lt_of_le hpos hb.bel.size) (by rw [ordL_len]; omega) hkey).mono ?_
        rintro e w' ⟨z, rfl, ht, hb'⟩
        rw [made_run hb.made ht]
        exact ⟨rfl, hb'⟩
      by_cases h0 : L = []
      · have hl0 : ((L.length : Int) == 0) = true := by simp [h0]
        clear h0
        go_wp2_with (first | (go_at_call 28; refine HSP.out.mono ?_; rintro e w1 ⟨rfl, hb1⟩; have HB1 := hideIt hb1; clear hb1) | (go_at_call 25; refine (HRUN.out _ HB1.out).mono ?_; rintro e w2 ⟨rfl, hb2⟩; have HB2 := hideIt hb2; clear hb2))
        go_ret
        exact ⟨rfl, belJ (belJ HB.out.bel HB1.out) HB2.out⟩
      · obtain ⟨L0, op, rfl⟩ : ∃ L0 op, L = L0 ++ [op] := ⟨L.dropLast, L.getLast h0, (List.dropLast_concat_getLast h0).symm⟩
        obtain ⟨g, hg⟩ : ∃ g, aO = some ⟨g, 0, none⟩ := by
          rcases HB.out.rowO.2 with ⟨_, h⟩ | ⟨g, cap, cur, e, _⟩
          · simp at h
          · exact ⟨g, by simpa using (by simpa using e : aO = some ⟨g, 0, none⟩ ∧ capO = cap).1⟩
        subst hg
        have hgb : w.heap.size ≤ g := (World.ownsRow.lt HB.out.rowO g rfl).1
        have hne : wrap64 (op.r + 1) ≠ op.r := by unfold wrap64; omega
        have HLAST : Hid (∀ W, Below wr.heap.size wr W → W.cell? ⟨g, L0.length * 8 + 5, none⟩ = some (.int .i64 op.r) ∧ W.frozen? ⟨g, L0.length * 8 + 5, none⟩ = false ∧ Below w.heap.size w (W.setCell ⟨g, L0.length * 8 + 5, none⟩ (.int .i64 (wrap64 (op.r + 1)))) ∧
            Calls Tryd.prog 25 #[.int .i64 o, .slice (some ⟨g, 0, none⟩) (L0 ++ [op]).length capO, u9] (W.setCell ⟨g, L0.length * 8 + 5, none⟩ (.int .i64 (wrap64 (op.r + 1)))) fun e w' => e = .returned (.int .i64 L0.length) ∧ Below (W.setCell ⟨g, L0.length * 8 + 5, none⟩ (.int .i64 (wrap64 (op.r + 1)))).heap.size (W.setCell ⟨g, L0.length * 8 + 5, none⟩ (.int .i64 (wrap64 (op.r + 1)))) w') := fun W hW => by
          have hb := HB.out.below hW
          obtain ⟨c5, fz, ho⟩ := last_turned hb.rowO (wrap64 (op.r + 1))
          have hbs : Below w.heap.size w (W.setCell ⟨g, L0.length * 8 + 5, none⟩ (.int .i64 (wrap64 (op.r + 1)))) := hb.bel.setCell (p := ⟨g, L0.length * 8 + 5, none⟩) hgb _
          refine ⟨c5, fz, hbs, ?_⟩
          have hn : HasInts (W.setCell ⟨g, L0.length * 8 + 5, none⟩ (.int .i64 (wrap64 (op.r + 1)))) u9 (ordL (L0 ++ [{ op with r := wrap64 (op.r + 1) }]).length) := by
            have e : (L0 ++ [{ op with r := wrap64 (op.r + 1) }]).length = (L0 ++ [op]).length := by simp
            rw [e]
            exact own_has (World.ownsRow.kept hb.rowN (grown_setCell W ⟨g, L0.length * 8 + 5, none⟩ _) (.inr (hb.aON g rfl)))
          refine (run_any o (L0 ++ [{ op with r := wrap64 (op.r + 1) }]) (ordL (L0 ++ [{ op with r := wrap64 (op.r + 1) }]).length) _ _ _ ho hn (HK.out.below hpos hbs) (Nat.lt_of_lt_of_le hpos hbs.size) (by rw [ordL_len]; simp at hL ⊢; omega) (fun x hx => ?_)).mono ?_
          · rcases List.mem_append.1 hx with hx | hx
            · exact hkey x (by simp [hx])
            · rw [List.mem_singleton.1 hx]; exact hkey op (by simp)
          · rintro e w' ⟨z, rfl, ht, hb'⟩
            rw [made_bad (op' := { op with r := wrap64 (op.r + 1) }) hb.made rfl rfl rfl rfl rfl (hb.ends op (by simp)) hne ht]
            exact ⟨rfl, hb'⟩
        obtain ⟨m, hm⟩ : ∃ m, L0.length = m := ⟨_, rfl⟩
        have hlm : (L0 ++ [op]).length = m + 1 := by simp [hm]
        rw [hm, hlm] at HLAST
        rw [hlm] at HRUN ⊢
        have hm30 : m + 1 ≤ 30 := by rw [hlm] at hL; omega
        have k0 : IntKind.i64.wrap (((m + 1 : Nat) : Int) - 1) = (m : Int) := by rw [IntKind.wrap_i64]; omega
        have k6 : IntKind.i64.wrap (m : Int) = (m : Int) := by rw [IntKind.wrap_i64]; omega
        have k1 : (0 : Int) ≤ (m : Int) := by omega
        have k2 : (m : Int) < ((m + 1 : Nat) : Int) := by omega
        have k7 : (m : Int) < (m : Int) + 1 := by omega
        have k4 : (((m + 1 : Nat) : Int) == 0) = false := beq_false_of_ne (by omega)
        have k5 : (((m : Int) + 1) == 0) = false := beq_false_of_ne (by omega)
        clear h0 hkey hne hm hlm hL
        go_wp2_with (first | (go_at_call 28; refine HSP.out.mono ?_; rintro e w1 ⟨rfl, hb1⟩; have HB1 := hideIt hb1; clear hb1) | fail)
        refine (HRUN.out _ HB1.out).mono ?_
        rintro e w2 ⟨rfl, hb2⟩
        obtain ⟨c5, f5, hbs, hcl⟩ := HLAST.out w2 (belJ HB1.out hb2)
        have HBS := hideIt hbs
        have HCL := hideIt hcl
        clear hb2 hbs hcl
        go_wp2_with (go_at_call 25; refine HCL.out.mono ?_; rintro e w3 ⟨rfl, hb3⟩; have HB3 := hideIt hb3; clear hb3)
        go_ret
        exact ⟨by simp, belJ HBS.out HB3.out⟩

end Go.Proofs.YtcfomkogojggnaaDoor
