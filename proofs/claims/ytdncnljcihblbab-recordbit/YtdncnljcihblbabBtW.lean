/-
  The statement RecordBit: walked.
-/
import Derived.Test.YtdncnljcihblbabLdX
import Derived.Test.YtdncnljcihblbabRcT
namespace Go.Proofs.Ytdncnljcihblbab
open Go.RowKit

set_option maxHeartbeats 4000000 in
set_option maxRecDepth 100000 in
theorem bit_any (vl : Value) (l : List Ev) (ap : Int) (to' : Nat) (w : World) (hl : EvQ w vl l) (ht : to' < 256) :
    Calls Try.prog 5 #[vl, .int .i64 ap, .int .u8 (to' : Nat)] w fun r w' => r = .returned (.bool true) ∧ Below w.heap.size w w' := by
  have HL := hideIt hl
  obtain ⟨al, cl, rfl, hcl, _⟩ := hl
  by_cases h40 : l.length ≤ 40
  · have h40' : ¬ (40 : Int) < (l.length : Int) := by omega
    go_enter Try.func5, Try.ntmps5
    go_wp2_with fail
    refine (logged_any _ _ l [] _ HL.out ⟨none, 0, rfl, Nat.le_refl _, Or.inl rfl⟩ (by omega)).mono ?_
    rintro x w1 ⟨G, all, sure, va, rfl, hlog, hsu, hal, hown, hb1, hG⟩
    obtain ⟨aa, ca, rfl, hca⟩ := own_shape2 hown
    have HB1 := hideIt hb1
    have HLG := hideIt hlog
    have HO1 := hideIt hown
    have HOK := hideIt hlog.ok
    have hfl := frames_len hlog.ok
    clear hlog hown hb1
    go_wp2_with fail
    refine (sync_any _ _ _ _ HLG.out).mono ?_
    rintro x w2 ⟨rfl, hl2, hg2⟩
    have HL2 := hideIt hl2
    have HB2 := hideIt (below_grown HB1.out hg2 hG)
    have HE2 := hideIt (own_evq (HO1.out.kept hg2 (own_not HO1.out (by omega))))
    clear hl2 hg2 HO1 HLG
    have hcr := crash_ok G all (framesL all).length 0 (.slice none 0 0) [] w2 HL2.out (Nat.zero_le _) ⟨fun _ h => (List.not_mem_nil h).elim, Or.inl ⟨rfl, none, 0, rfl, fun _ => rfl⟩⟩ (by simp)
    rw [Nat.add_zero, List.take_length, List.append_nil] at hcr
    have HC := hideIt hcr
    clear hcr
    go_wp2_with fail
    refine HC.out.mono ?_
    rintro x w3 ⟨v3, rfl, ho3, hb3⟩
    have HQ3 := hideIt (own_byq (frames_byte HOK.out) ho3)
    have HB3 := hideIt (below_join HB2.out hb3)
    have HE3 := hideIt (HE2.out.below hb3)
    have hform : (framesL all).length = 0 ∨ ∃ g c, v3 = .slice (some ⟨g, 0, none⟩) (framesL all).length c ∧ (framesL all).length ≤ c ∧ g < w3.heap.size ∧ BysAt w3 g 0 (framesL all) := by
      by_cases h0 : (framesL all).length = 0
      · exact Or.inl h0
      · obtain ⟨g, c, rfl⟩ := own_form ho3 (by omega)
        refine Or.inr ⟨g, c, rfl, ?_, (ho3.lt g rfl).2, own_bys ho3⟩
        obtain ⟨a, c', h1, h2⟩ := own_shape2 ho3
        cases h1; exact h2
    obtain ⟨a3, c3, hv3, hc3⟩ := own_shape2 ho3
    subst hv3
    clear ho3 hb3 HE2 HL2 HC
    go_wp2_with fail
    refine (kept_any _).mono ?_
    rintro x w4 ⟨rfl, hb4⟩
    have HB4 := hideIt (below_join HB3.out hb4)
    have HE4 := hideIt (HE3.out.below hb4)
    have HQ4 := hideIt (HQ3.out.below hb4)
    rcases hform with h0 | ⟨g, c, hv, hc, hg, hA⟩
    · have h0' : (((framesL all).length : Int) == 0) = true := by simp [h0]
      clear hb4
      go_wp2
      go_ret
      exact ⟨rfl, HB4.out⟩
    · cases hv
      by_cases h0 : (framesL all).length = 0
      · have h0' : (((framesL all).length : Int) == 0) = true := by simp [h0]
        clear hb4 hA
        go_wp2
        go_ret
        exact ⟨rfl, HB4.out⟩
      · have h0' : (((framesL all).length : Int) == 0) = false := by simp [h0]
        have HA := hideIt (hA.below hg hb4)
        have hgz := Nat.lt_of_lt_of_le hg hb4.size
        clear hA hb4
        obtain ⟨m, hm⟩ : ∃ m, m = pickN ap (framesL all).length := ⟨_, rfl⟩
        have hml : m < (framesL all).length := by rw [hm]; exact Nat.mod_lt _ (by omega)
        have HP := hideIt (pick_is ap (framesL all).length w4 (by omega) (by omega))
        rw [← hm] at HP
        have HH := hideIt (frames_head all HOK.out)
        have HSU := hideIt (frames_succ all)
        have HBR := hideIt (fun k hk h1 h2 => bit_rec all HOK.out k hk m to' h1 h2 ht)
        have HFB : Hid (Byt (framesL all)) := frames_byte HOK.out
        have HFT : Hid ((framesL (all.take all.length)).length = (framesL all).length) := by show (framesL (all.take all.length)).length = (framesL all).length; rw [List.take_length]
        clear hm
        generalize framesL all = F at *
        go_wp2_with fail
        refine HP.out.mono ?_
        rintro x w5 ⟨rfl, rfl⟩
        go_wp2
        go_loopw [12, 13] (fun fr bg wr => ∃ k n : Nat, k < all.length ∧ fr = .int .i64 k ∧ bg = .int .i64 ((framesL (all.take k)).length : Nat) ∧ (framesL (all.take k)).length ≤ m ∧ wr = w5.drewN n) (fun fr _ _ => all.length - (intOf fr).toNat)
        case atStart =>
          refine ⟨0, 0, ?_, rfl, rfl, by simp [framesL], rfl⟩
          rcases Nat.eq_zero_or_pos all.length with he | he
          · have := HFT.out; rw [he] at this; simp [framesL] at this; omega
          · exact he
        case round =>
          obtain ⟨k, n, hk, rfl, rfl, hbm, rfl⟩ := hrel
          obtain ⟨hh1, hh2, hh3⟩ := HH.out k hk
          have hs := HSU.out k hk
          have hbr := HBR.out k hk
          have hby := encL_len (okE_of (HOK.out _ (List.getElem_mem hk)))
          have HHB := hideIt hbr
          have HS2 := hideIt hs
          obtain ⟨L, hL⟩ : ∃ L, L = (encL all[k]).length := ⟨_, rfl⟩
          rw [← hL] at hh1 hh3 hby HS2 HHB
          obtain ⟨B, hB⟩ : ∃ B, B = (framesL (all.take k)).length := ⟨_, rfl⟩
          rw [← hB] at hh1 hh2 hh3 hbm HS2 HHB ⊢
          have HLL := hideIt hL
          have HBB := hideIt hB
          clear hL hB hs hbr
          have d0 : w5.cell? ⟨g, B, none⟩ = some (.int .u8 0) := by
            have h := HA.out B (by omega)
            rw [Nat.zero_add] at h
            rw [h]
            have := (List.getElem?_eq_some_iff.1 hh2).2
            rw [this]; rfl
          have d1 : w5.cell? ⟨g, B + 1, none⟩ = some (.int .u8 (L : Nat)) := by
            have h := HA.out (B + 1) (by omega)
            rw [Nat.zero_add] at h
            rw [h]
            have := (List.getElem?_eq_some_iff.1 hh3).2
            rw [this]
          clear hh2 hh3
          have hb6 : ¬ (F.length : Int) < (B : Int) + 6 := by omega
          by_cases hin : m < B + 6 + L
          · have hin' : (m : Int) < (B : Int) + 6 + (L : Int) := by omega
            have dm : w5.cell? ⟨g, m, none⟩ = some (.int .u8 (F[m] : Nat)) := by
              have h := HA.out m hml
              rw [Nat.zero_add] at h; exact h
            have HFM : Hid (F.getD m 0 = F[m]) := by show F.getD m 0 = F[m]; rw [List.getD_eq_getElem?_getD, List.getElem?_eq_getElem hml]; rfl
            have hxb := HFB.out.at hml
            generalize F[m] = x at *
            by_cases h2 : m < B + 2
            · have h2' : (m : Int) < (B : Int) + 2 := by omega
              go_wp2_with fail
              go_quiet (fail)
              go_wp2
              go_ret
              exact ⟨rfl, below_drewN HB4.out _⟩
            · have h2' : ¬ (m : Int) < (B : Int) + 2 := by omega
              by_cases hx : x = to'
              · subst hx
                have hx' : (((x : Nat) : Int) == ((x : Nat) : Int)) = true := by simp
                go_wp2_with fail
                go_quiet (fail)
                go_wp2
                go_ret
                exact ⟨rfl, below_drewN HB4.out _⟩
              · have hx' : (((x : Nat) : Int) == ((to' : Nat) : Int)) = false := by simp; omega
                have hrec := HHB.out (by omega) hin (by rw [HFM.out]; exact hx)
                have HRC := hideIt hrec
                clear hrec
                go_wp2_with fail
                go_quiet (fail)
                go_wp2_with (at_builtin; refine wpList_append_by rfl _ _ rfl w5.heap.size (.slice (some ⟨w5.heap.size, 0, none⟩) 0 0) (.slice (some ⟨g, 0, none⟩) F.length c3) [] F rfl rfl ?o1 ?o2 (by simp; omega) ?o3 ?_)
                case o1 => exact World.ownsRow_made (base := w5.heap.size) (e := 5) (size := 1) (w5.drewN _) #[] 0 (Nat.le_refl _) (by decide) rfl
                case o2 => exact (HQ4.out.below (below_drewN (Below.refl _ _) _)).below (below_alloc (Below.refl _ _) _)
                case o3 => simp
                intro v6 w6 ho6 hb6
                have hW6 : Below w5.heap.size w5 w6 := (below_alloc (below_drewN (Below.refl _ _) _) _).trans hb6
                have ho6' : w6.ownsRow w5.heap.size 5 1 v6 F.length (byCs F) := ho6
                obtain ⟨g6, c6, hv6⟩ := own_form ho6' (by omega)
                subst hv6
                have e0 := ho6'.cellAt m (by omega)
                have e1 : w6.cell? ⟨g6, m, none⟩ = some ((byCs F)[m]'(by rw [byCs_len]; exact hml)) := by rw [e0, List.getElem?_eq_getElem]
                have e2 := ho6'.frozenAt m
                have hg6 := (ho6'.lt g6 rfl)
                have ho7 := (ho6'.stored m (.int .u8 (to' : Nat))).1
                have hst : (byCs F).set m (.int .u8 (to' : Nat)) = byCs (F.set m to') := by simp [byCs, List.map_set]
                rw [hst] at ho7
                have hlen7 : F.length = (F.set m to').length := by simp
                have HR7 : Hid (Calls Try.prog 9 #[.slice (some ⟨g6, 0, none⟩) F.length c6] (w6.setCell ⟨g6, m, none⟩ (.int .u8 (to' : Nat))) fun e w' => ∃ v', e = .returned (.tuple #[v', .int .i64 (B : Nat)]) ∧ w'.ownsRow (w6.setCell ⟨g6, m, none⟩ (.int .u8 (to' : Nat))).heap.size 38 7 v' (all.take k).length (evCells (all.take k)) ∧ Below (w6.setCell ⟨g6, m, none⟩ (.int .u8 (to' : Nat))).heap.size (w6.setCell ⟨g6, m, none⟩ (.int .u8 (to' : Nat))) w') := by
                  have hb7 : Byt (F.set m to') := fun y hy => by
                    rcases List.mem_or_eq_of_mem_set hy with hy | rfl
                    · exact HFB.out y hy
                    · exact ht
                  have h := recover_any (.slice (some ⟨g6, 0, none⟩) F.length c6) (F.set m to') (w6.setCell ⟨g6, m, none⟩ (.int .u8 (to' : Nat))) (own_byq hb7 (by rw [← hlen7]; exact ho7)) (by rw [← hlen7]; omega)
                  rw [HRC.out] at h
                  exact h
                have hW7 : Below w5.heap.size w5 (w6.setCell ⟨g6, m, none⟩ (.int .u8 (to' : Nat))) := hW6.setCell hg6.1 _
                have HE7 := hideIt (HE4.out.below hW7)
                have HB7 := hideIt (below_join HB4.out hW7)
                have hmc : m < F.length := hml
                generalize hcell : (byCs F)[m]'(by rw [byCs_len]; exact hml) = cm at e1
                clear ho6 hb6 hW6 ho6' e0 ho7 hst hlen7 hW7 hcell
                go_wp2_with fail
                refine HR7.out.mono ?_
                rintro y w8 ⟨v8, rfl, ho8, hb8⟩
                have hkl : (all.take k).length = k := by simp; omega
                have HE8 := hideIt (HE7.out.below hb8)
                have HB8 := hideIt (below_join HB7.out hb8)
                have HG8 := hideIt (own_evq ho8)
                rw [hkl] at ho8
                obtain ⟨a8, c8, hv8, hc8⟩ := own_shape2 ho8
                subst hv8
                have HBt := hideIt (begins_true _ _ (all.take k) all w8 HG8.out HE8.out (List.take_prefix _ _) (by omega))
                clear ho8 hb8 hkl HR7
                go_wp2_with fail
                refine HBt.out.mono ?_
                rintro y w9 ⟨rfl, n9, rfl⟩
                go_wp2
                go_ret
                exact ⟨rfl, below_drewN HB8.out _⟩
          · have hin' : ¬ (m : Int) < (B : Int) + 6 + (L : Int) := by omega
            go_wp2_with fail
            go_quiet (fail)
            go_wp2
            go_roundw
            case rel =>
              refine ⟨k + 1, _, ?_, by go_num, val_int ?_, ?_, rfl⟩
              · rcases Nat.lt_or_ge (k + 1) all.length with h | h
                · exact h
                · exfalso
                  have h3 := HFT.out
                  rw [show all.length = k + 1 by omega, HS2.out] at h3
                  omega
              · rw [HS2.out]; omega
              · rw [HS2.out]; omega
            case measure => simp [intOf]; omega
  · have h40' : (40 : Int) < (l.length : Int) := by omega
    go_enter Try.func5, Try.ntmps5
    go_wp2
    go_ret
    exact ⟨rfl, Below.refl _ _⟩

end Go.Proofs.Ytdncnljcihblbab
