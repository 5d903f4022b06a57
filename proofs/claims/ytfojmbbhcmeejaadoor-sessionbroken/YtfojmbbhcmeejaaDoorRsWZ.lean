/-
  The document's own SessionCheck, walked.
  The document's way to the broken pairs, in plain Lean: from the last pair down to the first one.
  What lies in memory while the document's Broken goes over the pairs.
  The document's own Broken, walked.
-/
import Derived.Test.YtfojmbbhcmeejaaDoorSsPZ
import Derived.Test.YtfojmbbhcmeejaaDoorA7W
import Derived.Test.YtfojmbbhcmeejaaDoorRpWZ
import Derived.Laws.AppendOwn
import Derived.Deep.DeepCutAuto
import Derived.BigQuiet
namespace Go.Proofs.YtfojmbbhcmeejaaDoor
open Go.RowKit

theorem idxI_lt {xs : List Int} {v : Int} : decide (idxI xs v < 0) = !xs.contains v := by
  rw [← idxI_neg]
  by_cases h : 0 ≤ idxI xs v
  · simp [h]
  · simp [h]; omega

set_option maxRecDepth 100000 in
set_option maxHeartbeats 4000000 in
theorem rsCheck_any (l : List Opn) (V : List (List Int)) (a : Option Addr) (cap : Nat) (v : Value) (w : World) (hlen : l.length ≤ 60) (hcap : l.length ≤ cap) (hl : OpsQ w a l) (hv : VersAt w v V) (hs : ShortV V) :
    Calls Tryd.prog 20 #[.slice a l.length cap, v] w fun e w' => ∃ n, e = .returned (.int .i64 n) ∧ STold l V n ∧ Below w.heap.size w w' := by
  have HC := hideIt (rkCheck_any l a cap w hlen hcap hl)
  have HL := hideIt hl
  have HV := hideIt hv
  obtain ⟨va, vc, rfl, _⟩ := hv
  have hVl := hs.1
  clear hl
  go_enter Tryd.func20, Tryd.ntmps20
  go_wp2_with fail
  refine HC.out.mono ?_
  rintro e w1 ⟨n, rfl, hct, hb1⟩
  have HCT := hideIt hct
  have HB1 := hideIt hb1
  clear hct hb1 HC
  by_cases hn : n = 0
  · subst hn
    have HOk := hideIt (kOk_of HCT.out)
    by_cases h8 : V.length = 8
    · obtain ⟨vb, vo, vcap, hvv, hcap8, hvb, hrow⟩ := HV.out.row h8
      injection hvv with hva hvn hvc
      subst hva hvc
      have HRow := hideIt hrow
      clear hrow
      rw [h8]
      have HE0 := hideIt (eight_new w1)
      have HG0 : Hid (Below w1.heap.size w1 (w1.alloc (.cells #[.int .i64 0, .int .i64 0, .int .i64 0, .int .i64 0, .int .i64 0, .int .i64 0, .int .i64 0, .int .i64 0] 74))) := belA (Below.refl _ _) _
      have HVk : Hid (∀ wr, Below w1.heap.size w1 wr → Below w.heap.size w wr) := fun wr h => HB1.out.trans (h.mono HB1.out.size)
      go_wp2
      generalize w1.heap.size = G at HE0 HG0 HVk ⊢
      go_loopw [20] (fun i wr => ∃ k : Nat, k ≤ l.length ∧ i = .int .i64 k ∧ (∀ j, j < k → vFaultAt l V j = 0) ∧ EightAt wr G (fun q => wrN l q k) ∧ Below G w1 wr) (fun i _ => l.length - (intOf i).toNat)
      case atStart => exact ⟨0, Nat.zero_le _, rfl, fun j hj => absurd hj (by omega), HE0.out, HG0.out⟩
      case round =>
        clear HE0 HG0
        obtain ⟨k, hk, rfl, ha, he8, hnx⟩ := hrel
        have HA := hideIt ha
        have HE8 := hideIt he8
        have HNX := hideIt hnx
        have HBw := hideIt (HVk.out wr hnx)
        clear ha hnx he8
        by_cases hkl : k < l.length
        · obtain ⟨b, off, hea, hlt, hops⟩ : ∃ b off, a = some ⟨b, off, none⟩ ∧ b < w.heap.size ∧ OpsAt w b off l := by
            rcases HL.out with h | h
            · subst h; simp at hkl
            · exact h
          subst hea
          obtain ⟨c0, c1, c2, c3, c4, c5, c6, c7⟩ := (hops k hkl).below hlt HBw.out
          have HX : Hid (opZ l k = l[k]) := opZ_at hkl
          have HNum := hideIt (HOk.out.num k hkl)
          have HKind := hideIt (HOk.out.kind k hkl)
          rw [HX.out] at HNum HKind
          generalize l[k] = x at c0 c1 c2 c3 c4 c5 c6 c7 HX HNum HKind
          have hk0 : (0 : Int) ≤ x.k := by have := HNum.out; omega
          have hk8 : x.k < 8 := by have := HNum.out; omega
          have hkn : x.k.toNat < 8 := by omega
          have HKN : Hid (((x.k.toNat : Nat) : Int) = x.k) := by show ((x.k.toNat : Nat) : Int) = x.k; omega
          obtain ⟨s, hs1, hs2⟩ := HRow.out x.k.toNat hkn
          rw [HKN.out] at hs2
          obtain ⟨sa, sn, sc, hsl⟩ : ∃ sa sn sc, s = .slice sa sn sc := by
            obtain ⟨sa, sc, e, _⟩ := hs2
            exact ⟨sa, _, sc, e⟩
          subst hsl
          have HBox : Hid (∀ W, W = wr.alloc (.cells #[.int .i64 x.p, .int .i64 x.k, .int .i64 x.d, .int .i64 x.a, .int .i64 x.b, .int .i64 x.r, .int .i64 x.c, .int .i64 x.e] 48) → OpAt W wr.heap.size 0 x ∧ wr.heap.size < W.heap.size ∧ Below wr.heap.size wr W) := by
            rintro W rfl
            refine ⟨⟨?_, ?_, ?_, ?_, ?_, ?_, ?_, ?_⟩, ?_, belA (Below.refl _ _) _⟩ <;> simp
          have HCn : Hid (∀ W, Below w.heap.size w W → W.cell? ⟨vb, vo + x.k.toNat, none⟩ = some (.slice sa sn sc) ∧ ∀ u, Calls Tryd.prog 37 #[.slice sa sn sc, .int .i64 u] W fun e w' => e = .returned (.int .i64 (idxI (rowI V x.k) u)) ∧ w' = W) := fun W hW =>
            ⟨(hW.cell (p := ⟨vb, vo + x.k.toNat, none⟩) hvb).trans hs1, fun u => rIndex_any _ u _ W (hs2.below hW) (hs.row x.k)⟩
          have hGl : Hid (G < wr.heap.size) := HE8.out.lt
          clear hops HL hs1 hs2
          have HKn : Hid ((rowI V (opZ l k).k).contains (valO (opZ l k)) = (rowI V x.k).contains (valO x)) := by
            show (rowI V (opZ l k).k).contains (valO (opZ l k)) = _
            rw [HX.out]
          have HNext : Hid (vFaultAt l V k = 0 → ∀ j, j < k + 1 → vFaultAt l V j = 0) := fun h => fine_succ HA.out h
          rcases HKind.out with hd | hd
          · have hd2 : (x.d == 2) = false := by simp [hd]
            have HD : Hid ((opZ l k).d ≠ 2) := by show (opZ l k).d ≠ 2; rw [HX.out, hd]; decide
            have hvx : valO x = x.r := by unfold valO; rw [if_neg (by omega)]
            rw [hvx] at HKn
            have HCu : Hid (∀ W, Below w.heap.size w W → Calls Tryd.prog 37 #[.slice sa sn sc, .int .i64 x.r] W fun e w' => e = .returned (.int .i64 (idxI (rowI V x.k) x.r)) ∧ w' = W) := fun W hW => (HCn.out W hW).2 x.r
            have HIx := hideIt (idxI_lt (xs := rowI V x.k) (v := x.r))
            clear hd hvx
            by_cases hr : x.r = 0
            · have hr' : (x.r != 0) = false := by simp [hr]
              have R1 := hideIt (HNext.out (vFault_zero HD.out (by rw [HX.out]; exact hr)))
              have R3 : Hid (∀ W, Below wr.heap.size wr W → EightAt W G (fun q => wrN l q (k + 1)) ∧ Below G w1 W) := fun W hW => ⟨(HE8.out.below hW hGl.out).same fun q _ => wrN_keep HD.out q, HNX.out.trans (hW.mono (Nat.le_of_lt hGl.out))⟩
              clear hr
              go_wp2_with fail
              go_big_quiet (fail)
              go_wp2
              go_roundw
              case rel => exact ⟨k + 1, by omega, by go_num, R1.out, (R3.out _ (below_drewN (belA (Below.refl _ _) _) _)).1, (R3.out _ (below_drewN (belA (Below.refl _ _) _) _)).2⟩
              case measure => simp [intOf]; omega
            · have hr' : (x.r != 0) = true := by simp [hr]
              generalize idxI (rowI V x.k) x.r = ix at HCu HIx
              generalize (rowI V x.k).contains x.r = kb at HIx HKn
              go_wp2
              clear c0 c1 c2 c3 c4 c5 c6 c7
              generalize hW0 : wr.alloc _ = W0
              obtain ⟨hox, hXl, hbox⟩ := HBox.out W0 hW0.symm
              generalize hXX : wr.heap.size = X at hox hXl ⊢
              have HS : Hid (∀ w2, Below W0.heap.size W0 w2 → OpAt w2 X 0 x ∧ w2.cell? ⟨vb, vo + x.k.toNat, none⟩ = some (.slice sa sn sc) ∧ Below wr.heap.size wr w2 ∧ Below w.heap.size w w2) := fun w2 h2 => by
                have h3 : Below wr.heap.size wr w2 := belJ hbox h2
                exact ⟨hox.below hXl h2, (HCn.out w2 (belJ HBw.out h3)).1, h3, belJ HBw.out h3⟩
              have HB0 := hideIt (belJ HBw.out hbox)
              obtain ⟨⟨c0, c1, c2, c3, c4, c5, c6, c7⟩, cv, _, _⟩ := HS.out W0 (Below.refl _ _)
              clear HBox hW0 hox hXX hbox
              go_region_held3 (fun w' => w'.cell? ⟨X, 0, none⟩ = some (.int .i64 x.p) ∧ w'.cell? ⟨X, 0 + 1, none⟩ = some (.int .i64 x.k) ∧ w'.cell? ⟨X, 0 + 2, none⟩ = some (.int .i64 x.d) ∧ w'.cell? ⟨X, 0 + 3, none⟩ = some (.int .i64 x.a) ∧ w'.cell? ⟨X, 0 + 4, none⟩ = some (.int .i64 x.b) ∧ w'.cell? ⟨X, 0 + 5, none⟩ = some (.int .i64 x.r) ∧ w'.cell? ⟨X, 0 + 6, none⟩ = some (.int .i64 x.c) ∧ w'.cell? ⟨X, 0 + 7, none⟩ = some (.int .i64 x.e) ∧ w'.cell? ⟨vb, vo + x.k.toNat, none⟩ = some (.slice sa sn sc)) (go_keep)
                (first | (go_at_call 37; refine (HCu.out _ HB0.out.drew).mono ?_; rintro e w3 ⟨rfl, rfl⟩))
              obtain ⟨_, _, hbr3, hbw3⟩ := HS.out W0.drew ((Below.refl W0.heap.size W0).drew)
              have HE3 := hideIt ((HE8.out.below hbr3 hGl.out).same fun q _ => wrN_keep HD.out q)
              have HN3 : Hid (Below G w1 W0.drew) := HNX.out.trans (hbr3.mono (Nat.le_of_lt hGl.out))
              have HW3 := hideIt hbw3
              clear c0 c1 c2 c3 c4 c5 c6 c7 cv hbr3 hbw3 HS HCn HCu
              cases kb
              · have hix : ix < 0 := by simpa using HIx.out
                have R1 : Hid (STold l V 8) := sTold_at HCT.out h8 hkl HA.out (vFault_read HKn.out HD.out (by rw [HX.out]; exact hr)) (by decide)
                clear hr
                go_wp2
                go_ret
                exact ⟨8, rfl, R1.out, HW3.out⟩
              · have hix : ¬ ix < 0 := by simpa using HIx.out
                have R1 := hideIt (HNext.out (vFault_has HKn.out))
                clear hr
                go_wp2
                go_roundw
                case rel => exact ⟨k + 1, by omega, by go_num, R1.out, HE3.out, HN3.out⟩
                case measure => simp [intOf]; omega
          · have hd2 : (x.d == 2) = true := by simp [hd]
            have HD : Hid ((opZ l k).d = 2) := by show (opZ l k).d = 2; rw [HX.out, hd]
            have hvx : valO x = x.a := by unfold valO; rw [if_pos hd]
            rw [hvx] at HKn
            have HCu : Hid (∀ W, Below w.heap.size w W → Calls Tryd.prog 37 #[.slice sa sn sc, .int .i64 x.a] W fun e w' => e = .returned (.int .i64 (idxI (rowI V x.k) x.a)) ∧ w' = W) := fun W hW => (HCn.out W hW).2 x.a
            have HIx := hideIt (idxI_lt (xs := rowI V x.k) (v := x.a))
            clear hd hvx
            generalize idxI (rowI V x.k) x.a = ix at HCu HIx
            generalize (rowI V x.k).contains x.a = kb at HIx HKn
            go_wp2
            clear c0 c1 c2 c3 c4 c5 c6 c7
            generalize hW0 : wr.alloc _ = W0
            obtain ⟨hox, hXl, hbox⟩ := HBox.out W0 hW0.symm
            generalize hXX : wr.heap.size = X at hox hXl ⊢
            have HS : Hid (∀ w2, Below W0.heap.size W0 w2 → OpAt w2 X 0 x ∧ w2.cell? ⟨vb, vo + x.k.toNat, none⟩ = some (.slice sa sn sc) ∧ Below wr.heap.size wr w2 ∧ Below w.heap.size w w2) := fun w2 h2 => by
              have h3 : Below wr.heap.size wr w2 := belJ hbox h2
              exact ⟨hox.below hXl h2, (HCn.out w2 (belJ HBw.out h3)).1, h3, belJ HBw.out h3⟩
            have HB0 := hideIt (belJ HBw.out hbox)
            obtain ⟨⟨c0, c1, c2, c3, c4, c5, c6, c7⟩, cv, _, _⟩ := HS.out W0 (Below.refl _ _)
            clear HBox hW0 hox hXX hbox
            go_region_held3 (fun w' => w'.cell? ⟨X, 0, none⟩ = some (.int .i64 x.p) ∧ w'.cell? ⟨X, 0 + 1, none⟩ = some (.int .i64 x.k) ∧ w'.cell? ⟨X, 0 + 2, none⟩ = some (.int .i64 x.d) ∧ w'.cell? ⟨X, 0 + 3, none⟩ = some (.int .i64 x.a) ∧ w'.cell? ⟨X, 0 + 4, none⟩ = some (.int .i64 x.b) ∧ w'.cell? ⟨X, 0 + 5, none⟩ = some (.int .i64 x.r) ∧ w'.cell? ⟨X, 0 + 6, none⟩ = some (.int .i64 x.c) ∧ w'.cell? ⟨X, 0 + 7, none⟩ = some (.int .i64 x.e) ∧ w'.cell? ⟨vb, vo + x.k.toNat, none⟩ = some (.slice sa sn sc)) (go_keep)
              (first | (go_at_call 37; refine (HCu.out _ HB0.out.drew).mono ?_; rintro e w3 ⟨rfl, rfl⟩))
            obtain ⟨⟨p0, p1, _, _, _, _, _, _⟩, _, hbr3, hbw3⟩ := HS.out W0.drew ((Below.refl W0.heap.size W0).drew)
            have HE3 := hideIt (HE8.out.below hbr3 hGl.out)
            have HN3 : Hid (Below G w1 W0.drew) := HNX.out.trans (hbr3.mono (Nat.le_of_lt hGl.out))
            have HW3 := hideIt hbw3
            clear c0 c1 c2 c3 c4 c5 c6 c7 cv hbr3 hbw3 HS HCn HCu p0
            generalize hWD : W0.drew = W3 at HE3 HN3 HW3 p1 ⊢
            clear hWD
            cases kb
            · have hix : ix < 0 := by simpa using HIx.out
              have R1 : Hid (STold l V 7) := sTold_at HCT.out h8 hkl HA.out (vFault_write HKn.out HD.out) (by decide)
              go_wp2
              go_ret
              exact ⟨7, rfl, R1.out, HW3.out⟩
            · have hix : ¬ ix < 0 := by simpa using HIx.out
              have R1 := hideIt (HNext.out (vFault_has HKn.out))
              have g1 := HE3.out.at_ x.k.toNat hkn
              have g2 := HE3.out.fz x.k.toNat
              have hwn : wrN l x.k.toNat k ≤ 60 := Nat.le_trans (wrN_le _ _ _) (by omega)
              have R3 := hideIt ((HE3.out.put hkn (wrN l x.k.toNat k + 1)).same fun q _ => wrN_put HD.out (by rw [HX.out]; exact HKN.out.symm) q)
              have R4 := hideIt (HN3.out.setCell (p := ⟨G, x.k.toNat, none⟩) (Nat.le_refl _) (.int .i64 ((wrN l x.k.toNat k + 1 : Nat) : Int)))
              rw [show (((wrN l x.k.toNat k + 1 : Nat)) : Int) = ((wrN l x.k.toNat k : Nat) : Int) + 1 from by omega] at R3 R4
              have hwI : ((wrN l x.k.toNat k : Nat) : Int) ≤ 60 := by omega
              have hw0 : (0 : Int) ≤ ((wrN l x.k.toNat k : Nat) : Int) := by omega
              generalize ((wrN l x.k.toNat k : Nat) : Int) = wn at g1 R3 R4 hwI hw0
              go_wp2
              go_roundw
              case rel => exact ⟨k + 1, by omega, by go_num, R1.out, R3.out, R4.out⟩
              case measure => simp [intOf]; omega
        · have HVf : Hid (∀ j, j < l.length → vFaultAt l V j = 0) := fun j hj => HA.out j (by omega)
          obtain rfl : k = l.length := by omega
          go_wp2
          go_loopw [59] (fun i wz => ∃ q : Nat, q ≤ 8 ∧ i = .int .i64 q ∧ (∀ j, j < q → lFaultAt l V j = 0) ∧ Below wr.heap.size wr wz) (fun i _ => 8 - (intOf i).toNat)
          case atStart => exact ⟨0, by omega, rfl, fun j hj => absurd hj (by omega), Below.refl _ _⟩
          case round =>
            obtain ⟨q, hq, rfl, hlf, hwz⟩ := hrel
            have HWZ := hideIt hwz
            have HLF := hideIt hlf
            have HBz := hideIt (belJ HBw.out hwz)
            have HE9 := hideIt (HE8.out.below hwz HE8.out.lt)
            clear hlf hwz
            by_cases hq8 : q < 8
            · have hq8I : (q : Int) < 8 := by omega
              obtain ⟨s, hs1, hs2⟩ := HRow.out q hq8
              obtain ⟨sa, sc, hsl, _⟩ := hs2
              subst hsl
              have hc1 := (HBz.out.cell (p := ⟨vb, vo + q, none⟩) hvb).trans hs1
              have hc2 := HE9.out.at_ q hq8
              have HF : Hid (lFaultAt l V q = if (rowI V q).length = wrN l q l.length then 0 else 3) := rfl
              generalize (rowI V q).length = a1 at hc1 HF
              generalize wrN l q l.length = a2 at hc2 HF
              clear hs1
              by_cases he : a1 = a2
              · have he' : ((a1 : Int) != (a2 : Int)) = false := by simp [he]
                have R1 := hideIt (fine_succ HLF.out (by rw [HF.out, if_pos he]))
                clear he
                go_wp2_with fail
                go_big_quiet (fail)
                go_wp2
                go_roundw
                case rel => exact ⟨q + 1, by omega, by go_num, R1.out, below_drewN HWZ.out _⟩
                case measure => simp [intOf]; omega
              · have he' : ((a1 : Int) != (a2 : Int)) = true := by simp; omega
                have R1 : Hid (STold l V 3) := sTold_len HCT.out h8 HVf.out hq8 HLF.out (by rw [HF.out, if_neg he])
                clear he
                go_wp2_with fail
                go_big_quiet (fail)
                go_wp2
                go_ret
                exact ⟨3, rfl, R1.out, below_drewN HBz.out _⟩
            · have R1 : Hid (STold l V 0) := sTold_all HCT.out h8 HVf.out fun j hj => HLF.out j (by omega)
              go_wp2
              go_ret
              exact ⟨0, rfl, R1.out, HBz.out⟩
    · have h8' : ((V.length : Int) != 8) = true := by simp; omega
      have R1 := hideIt (sTold_form (V := V) HCT.out h8)
      clear h8
      go_wp2
      go_ret
      exact ⟨3, rfl, R1.out, HB1.out⟩
  · have R1 := hideIt (sTold_err (V := V) HCT.out hn)
    have hn' : (n != 0) = true := by simp [hn]
    go_wp2
    go_ret
    exact ⟨n, rfl, R1.out, HB1.out⟩

end Go.Proofs.YtfojmbbhcmeejaaDoor

namespace Go.Proofs.YtfojmbbhcmeejaaDoor

/-- Those pairs that stand at (K, I) or behind it. -/
def consB (P : Nat → Nat → Bool) (K I : Nat) (a b : Nat) : Bool := P a b && (decide (K < a) || (decide (a = K) && decide (I ≤ b)))
def prOf (o : Option (Nat × Nat)) : Int × Int := match o with
  | some (k, i) => ((i : Int), (k : Int))
  | none => (-1, -1)
theorem brkI_pr (l : List Opn) (V : List (List Int)) (g : Nat) : brkI l V g = prOf (firstP (brkB l V g) l.length) := rfl
theorem cons_begin (P : Nat → Nat → Bool) (n : Nat) : prOf (firstP (consB P n 0) n) = (-1, -1) := by
  rw [firstP_none fun a ha b hb => by unfold consB; rw [show decide (n < a) = false from by simp; omega, show decide (a = n) = false from by simp; omega]; simp]
  rfl
theorem cons_end (P : Nat → Nat → Bool) (n : Nat) : firstP (consB P 0 0) n = firstP P n := firstP_congr fun a b _ _ => by
  unfold consB
  by_cases e : a = 0
  · subst e; simp
  · rw [show decide (0 < a) = true from by simp; omega]; simp
theorem cons_row {P : Nat → Nat → Bool} {n k I : Nat} (h : ∀ b, I ≤ b → b < n → P k b = false) : firstP (consB P k I) n = firstP (consB P (k + 1) 0) n := firstP_congr fun a b _ hb => by
  unfold consB
  by_cases e : a = k
  · subst e
    rw [show decide (a < a) = false from by simp, show decide (a + 1 < a) = false from by simp, show decide (a = a + 1) = false from by simp]
    by_cases hI : I ≤ b
    · rw [h b hI hb]; simp
    · simp [hI]
  · by_cases hk : k < a
    · rw [show decide (k < a) = true from by simp [hk]]
      by_cases e' : a = k + 1
      · subst e'; simp
      · rw [show decide (k + 1 < a) = true from by simp; omega]; simp
    · rw [show decide (k < a) = false from by simp [hk], show decide (a = k) = false from by simp [e], show decide (k + 1 < a) = false from by simp; omega, show decide (a = k + 1) = false from by simp; omega]; simp
theorem cons_skip {P : Nat → Nat → Bool} {n k i : Nat} (h : P k i = false) : firstP (consB P k i) n = firstP (consB P k (i + 1)) n := firstP_congr fun a b _ _ => by
  unfold consB
  by_cases e : a = k
  · subst e
    by_cases e' : b = i
    · subst e'; rw [h]; rfl
    · rw [show decide (i ≤ b) = decide (i + 1 ≤ b) from by
        by_cases h1 : i + 1 ≤ b
        · rw [show decide (i + 1 ≤ b) = true from by simp [h1], show decide (i ≤ b) = true from by simp; omega]
        · rw [show decide (i + 1 ≤ b) = false from by simp [h1], show decide (i ≤ b) = false from by simp; omega]]
  · rw [show decide (a = k) = false from by simp [e]]; rfl
theorem cons_found {P : Nat → Nat → Bool} {n k i : Nat} (hk : k < n) (hi : i < n) (h : P k i = true) : prOf (firstP (consB P k i) n) = ((i : Int), (k : Int)) := by
  rw [firstP_at hk hi (fun a ha b _ => by unfold consB; rw [show decide (k < a) = false from by simp; omega, show decide (a = k) = false from by simp; omega]; simp)
    (fun b hb => by unfold consB; rw [show decide (k < k) = false from by simp, show decide (i ≤ b) = false from by simp; omega]; simp) (by unfold consB; rw [h]; simp)]
  rfl

/-- The kinds of the four. -/
def kA (q : Nat) : Int := if q = 0 ∨ q = 2 then 2 else 1
def kB (q : Nat) : Int := if q = 0 ∨ q = 1 then 1 else 2
theorem name_kinds {d e : Int} (hd : d = 1 ∨ d = 2) (he : e = 1 ∨ e = 2) {q : Nat} (hq : q < 4) : (nameI d e = q) ↔ (d = kA q ∧ e = kB q) := by
  have hq4 : q = 0 ∨ q = 1 ∨ q = 2 ∨ q = 3 := by omega
  rcases hd with rfl | rfl <;> rcases he with rfl | rfl <;> rcases hq4 with rfl | rfl | rfl | rfl <;> simp [nameI, kA, kB]
/-- The document's condition is ours. -/
theorem brkB_doc {l : List Opn} {V : List (List Int)} (h : SOk l V) {q k i : Nat} (hq : q < 4) (hk : k < l.length) (hi : i < k) :
    brkB l V q k i = ((opZ l i).d == kA q && ((opZ l k).d == kB q && ((opZ l i).p == (opZ l k).p && ((opZ l i).k == (opZ l k).k && decide (idxI (rowI V (opZ l i).k) (valO (opZ l k)) < idxI (rowI V (opZ l i).k) (valO (opZ l i))))))) := by
  have hil : i < l.length := by omega
  have hn := name_kinds (h.ok.kind i hil) (h.ok.kind k hk) hq
  unfold brkB fallB
  rw [show decide (i < k) = true from by simp [hi]]
  by_cases hkk : (opZ l i).k = (opZ l k).k
  · have e1 := ageI_idx h hil
    have e2 := ageI_idx h hk
    rw [← hkk] at e2
    rw [e1, e2, hkk]
    by_cases hnm : nameI (opZ l i).d (opZ l k).d = q
    · obtain ⟨g1, g2⟩ := hn.1 hnm
      rw [hnm, g1, g2]
      cases ((opZ l i).p == (opZ l k).p) <;> simp
    · have : ((opZ l i).d == kA q && (opZ l k).d == kB q) = false := by
        cases hx : ((opZ l i).d == kA q && (opZ l k).d == kB q)
        · rfl
        · simp at hx; exact absurd (hn.2 hx) hnm
      rw [show (nameI (opZ l i).d (opZ l k).d == q) = false from by simp [hnm], ← Bool.and_assoc ((opZ l i).d == kA q), this]
      simp
  · rw [show ((opZ l i).k == (opZ l k).k) = false from by simp [hkk]]
    simp

end Go.Proofs.YtfojmbbhcmeejaaDoor

namespace Go.Proofs.YtfojmbbhcmeejaaDoor
open Go.RowKit

/-- The pairs told, as cells. -/
def flatP (f : Nat → Int × Int) : Nat → List Value
  | 0 => []
  | q + 1 => flatP f q ++ [.int .i64 (f q).1, .int .i64 (f q).2]
theorem flatP_len (f : Nat → Int × Int) : ∀ q, (flatP f q).length = q * 2
  | 0 => rfl
  | q + 1 => by unfold flatP; rw [List.length_append, flatP_len f q]; simp; omega

structure RbAt (w wr : World) (L : Nat) (vo : Value) (f : Nat → Int × Int) (q Gb Fb : Nat) (pr : Int × Int) : Prop where
  out : wr.ownsRow (w.heap.size + 1) 57 2 vo q (flatP f q)
  llt : L < wr.heap.size
  lit : ∀ p, p < 4 → wr.cell? ⟨L, p * 2, none⟩ = some (.int .i64 (kA p)) ∧ wr.cell? ⟨L, p * 2 + 1, none⟩ = some (.int .i64 (kB p))
  glt : Gb < wr.heap.size
  gb : wr.cell? ⟨Gb, 0, none⟩ = some (.int .i64 (kA q)) ∧ wr.cell? ⟨Gb, 1, none⟩ = some (.int .i64 (kB q))
  fblk : ∃ cur t, wr.heap[Fb]? = some (.cells cur t (0, 0))
  fb : wr.cell? ⟨Fb, 0, none⟩ = some (.int .i64 pr.1) ∧ wr.cell? ⟨Fb, 1, none⟩ = some (.int .i64 pr.2)
  ne : Fb ≠ Gb ∧ Fb ≠ L ∧ vo.ownBlock ≠ some Fb ∧ w.heap.size ≤ Fb
  bel : Below w.heap.size w wr

theorem ownsRow_block {w w' : World} {base : Nat} {e : TypeId} {size : Nat} {v : Value} {n : Nat} {xs : List Value} (h : w.ownsRow base e size v n xs) (hb : ∀ k, v.ownBlock = some k → w'.heap[k]? = w.heap[k]?) : w'.ownsRow base e size v n xs := by
  obtain ⟨hl, h | ⟨g, cap, cur, rfl, h0, hg, h1⟩⟩ := h
  · exact ⟨hl, .inl h⟩
  · exact ⟨hl, .inr ⟨g, cap, cur, rfl, h0, (hb g rfl).trans hg, h1⟩⟩

section
variable {w wr : World} {L : Nat} {vo : Value} {f : Nat → Int × Int} {q Gb Fb : Nat} {pr : Int × Int}
theorem RbAt.flt (h : RbAt w wr L vo f q Gb Fb pr) : Fb < wr.heap.size := by
  obtain ⟨cur, t, hc⟩ := h.fblk
  exact lt_of_heap hc
theorem RbAt.fz (h : RbAt w wr L vo f q Gb Fb pr) (i : Nat) : wr.frozen? ⟨Fb, i, none⟩ = false := by
  obtain ⟨cur, t, hc⟩ := h.fblk
  exact frozen_of_row wr Fb i cur t hc
theorem RbAt.below {w' : World} (h : RbAt w wr L vo f q Gb Fb pr) (hb : Below wr.heap.size wr w') : RbAt w w' L vo f q Gb Fb pr := by
  obtain ⟨cur, t, hc⟩ := h.fblk
  have hF := h.flt
  refine ⟨ownsRow_block h.out fun k hk => hb.block k (h.out.lt k hk).2, Nat.lt_of_lt_of_le h.llt hb.size, fun p hp => ?_, Nat.lt_of_lt_of_le h.glt hb.size, ?_, ⟨cur, t, (hb.block Fb hF).trans hc⟩, ?_, h.ne, belJ h.bel hb⟩
  · exact ⟨(hb.cell (p := ⟨L, p * 2, none⟩) h.llt).trans (h.lit p hp).1, (hb.cell (p := ⟨L, p * 2 + 1, none⟩) h.llt).trans (h.lit p hp).2⟩
  · exact ⟨(hb.cell (p := ⟨Gb, 0, none⟩) h.glt).trans h.gb.1, (hb.cell (p := ⟨Gb, 1, none⟩) h.glt).trans h.gb.2⟩
  · exact ⟨(hb.cell (p := ⟨Fb, 0, none⟩) hF).trans h.fb.1, (hb.cell (p := ⟨Fb, 1, none⟩) hF).trans h.fb.2⟩
theorem RbAt.put (h : RbAt w wr L vo f q Gb Fb pr) (x y : Int) : RbAt w ((wr.setCell ⟨Fb, 0, none⟩ (.int .i64 x)).setCell ⟨Fb, 1, none⟩ (.int .i64 y)) L vo f q Gb Fb (x, y) := by
  obtain ⟨cur, t, hc⟩ := h.fblk
  obtain ⟨cur1, hc1, _⟩ := heap_setCell hc 0 (.int .i64 x)
  obtain ⟨cur2, hc2, _⟩ := heap_setCell hc1 1 (.int .i64 y)
  obtain ⟨n1, n2, n3, n4⟩ := h.ne
  have hblk : ∀ k, k ≠ Fb → ((wr.setCell ⟨Fb, 0, none⟩ (.int .i64 x)).setCell ⟨Fb, 1, none⟩ (.int .i64 y)).heap[k]? = wr.heap[k]? := fun k hk =>
    (Below.heap_setCell _ ⟨Fb, 1, none⟩ _ k hk).trans (Below.heap_setCell _ ⟨Fb, 0, none⟩ _ k hk)
  have hcell : ∀ B o, B ≠ Fb → ((wr.setCell ⟨Fb, 0, none⟩ (.int .i64 x)).setCell ⟨Fb, 1, none⟩ (.int .i64 y)).cell? ⟨B, o, none⟩ = wr.cell? ⟨B, o, none⟩ := fun B o hB => World.cell?_of_block (a := ⟨B, o, none⟩) (hblk B hB)
  have hsz : ((wr.setCell ⟨Fb, 0, none⟩ (.int .i64 x)).setCell ⟨Fb, 1, none⟩ (.int .i64 y)).heap.size = wr.heap.size := by simp
  refine ⟨ownsRow_block h.out fun k hk => hblk k (fun e => n3 (by rw [hk, e])), by rw [hsz]; exact h.llt, fun p hp => ?_, by rw [hsz]; exact h.glt, ?_, ⟨cur2, t, hc2⟩, ?_, h.ne, (h.bel.setCell (p := ⟨Fb, 0, none⟩) n4 _).setCell (p := ⟨Fb, 1, none⟩) n4 _⟩
  · rw [hcell _ _ (Ne.symm n2), hcell _ _ (Ne.symm n2)]; exact h.lit p hp
  · rw [hcell _ _ (Ne.symm n1), hcell _ _ (Ne.symm n1)]; exact h.gb
  · refine ⟨?_, ?_⟩
    · rw [World.cell?_setCell_other _ _ _ _ (offNe (by omega))]
      exact World.cell?_setCell_same _ _ _ h.fb.1
    · have h2 : (wr.setCell ⟨Fb, 0, none⟩ (.int .i64 x)).cell? ⟨Fb, 1, none⟩ = some (.int .i64 pr.2) := by
        rw [World.cell?_setCell_other _ _ _ _ (offNe (by omega))]
        exact h.fb.2
      exact World.cell?_setCell_same _ _ _ h2
theorem RbAt.turn (h : RbAt w wr L vo f q Gb Fb pr) {pr' : Int × Int} (e : pr = pr') : RbAt w wr L vo f q Gb Fb pr' := e ▸ h
end

end Go.Proofs.YtfojmbbhcmeejaaDoor

namespace Go.Proofs.YtfojmbbhcmeejaaDoor
open Go.RowKit

set_option maxRecDepth 100000 in
set_option maxHeartbeats 8000000 in
theorem rBroken_some (l : List Opn) (V : List (List Int)) (so : SOk l V) (a : Option Addr) (cap vb vof vc : Nat) (w : World) (hl : OpsQ w a l) (hcap : l.length ≤ cap) (hv : VersAt w (.slice (some ⟨vb, vof, none⟩) 8 vc) V) (hs : ShortV V) :
    Calls Tryd.prog 21 #[.slice a l.length cap, .slice (some ⟨vb, vof, none⟩) 8 vc] w fun e w' => ∃ v', e = .returned v' ∧ w'.ownsRow w.heap.size 57 2 v' 4 (flatP (brkI l V) 4) ∧ Below w.heap.size w w' := by
  have hlen := so.ok.few
  have HQ := hideIt hl
  have HSO := hideIt so
  clear hl
  go_enter Tryd.func21, Tryd.ntmps21
  have HL0 : Hid (∀ p, p < 4 → (w.alloc (.cells #[.int .i64 2, .int .i64 1, .int .i64 1, .int .i64 1, .int .i64 2, .int .i64 2, .int .i64 1, .int .i64 2] 57)).cell? ⟨w.heap.size, p * 2, none⟩ = some (.int .i64 (kA p)) ∧ (w.alloc (.cells #[.int .i64 2, .int .i64 1, .int .i64 1, .int .i64 1, .int .i64 2, .int .i64 2, .int .i64 1, .int .i64 2] 57)).cell? ⟨w.heap.size, p * 2 + 1, none⟩ = some (.int .i64 (kB p))) := fun p hp => by
    rw [cell_of_row _ _ _ _ 57 _ (heap_alloc_new w _), cell_of_row _ _ _ _ 57 _ (heap_alloc_new w _)]
    match p, hp with
    | 0, _ => exact ⟨rfl, rfl⟩
    | 1, _ => exact ⟨rfl, rfl⟩
    | 2, _ => exact ⟨rfl, rfl⟩
    | 3, _ => exact ⟨rfl, rfl⟩
    | p + 4, h => omega
  have HB0 : Hid (Below w.heap.size w (w.alloc (.cells #[.int .i64 2, .int .i64 1, .int .i64 1, .int .i64 1, .int .i64 2, .int .i64 2, .int .i64 1, .int .i64 2] 57)) ∧ w.heap.size < (w.alloc (.cells #[.int .i64 2, .int .i64 1, .int .i64 1, .int .i64 1, .int .i64 2, .int .i64 2, .int .i64 1, .int .i64 2] 57)).heap.size) := ⟨belA (Below.refl _ _) _, by simp⟩
  have HV := hideIt hv
  clear hv
  go_wp2
  go_loopw [5, 19] (fun v i wr => ∃ q : Nat, q ≤ 4 ∧ i = .int .i64 q ∧ wr.ownsRow (w.heap.size + 1) 57 2 v q (flatP (brkI l V) q) ∧ (∀ p, p < 4 → wr.cell? ⟨w.heap.size, p * 2, none⟩ = some (.int .i64 (kA p)) ∧ wr.cell? ⟨w.heap.size, p * 2 + 1, none⟩ = some (.int .i64 (kB p))) ∧ w.heap.size < wr.heap.size ∧ Below w.heap.size w wr) (fun _ i _ => 4 - (intOf i).toNat)
  case atStart => exact ⟨0, by omega, rfl, ⟨rfl, .inl ⟨rfl, rfl⟩⟩, HL0.out, HB0.out.2, HB0.out.1⟩
  case round =>
    clear HL0 HB0
    obtain ⟨q, hq, rfl, hout, hlit, hwl, hb1⟩ := hrel
    have HOut := hideIt hout
    have HLit := hideIt hlit
    have HB1 := hideIt hb1
    clear hout hlit hb1
    by_cases hq4 : q < 4
    · obtain ⟨c0, c1⟩ := HLit.out q hq4
      have HRb : Hid (∀ W, W = (wr.alloc (.cells #[.int .i64 (kA q), .int .i64 (kB q)] 57)).alloc (.cells #[.int .i64 (-1), .int .i64 (-1)] 57) → RbAt w W w.heap.size u5 (brkI l V) q wr.heap.size (wr.heap.size + 1) (-1, -1)) := by
        rintro W rfl
        have hb2 : Below wr.heap.size wr ((wr.alloc (.cells #[.int .i64 (kA q), .int .i64 (kB q)] 57)).alloc (.cells #[.int .i64 (-1), .int .i64 (-1)] 57)) := belA (belA (Below.refl _ _) _) _
        have hs1 : (wr.alloc (.cells #[.int .i64 (kA q), .int .i64 (kB q)] 57)).heap.size = wr.heap.size + 1 := by simp
        have hnew := heap_alloc_new (wr.alloc (.cells #[.int .i64 (kA q), .int .i64 (kB q)] 57)) (.cells #[.int .i64 (-1), .int .i64 (-1)] 57)
        rw [hs1] at hnew
        refine ⟨ownsRow_block HOut.out fun k hk => hb2.block k (HOut.out.lt k hk).2, by simp; omega, fun p hp => ?_, by simp; omega, ?_, ⟨_, _, hnew⟩, ?_, ⟨by omega, by omega, fun e => by have := (HOut.out.lt _ e).2; omega, by omega⟩, belJ HB1.out hb2⟩
        · exact ⟨(hb2.cell (p := ⟨w.heap.size, p * 2, none⟩) hwl).trans (HLit.out p hp).1, (hb2.cell (p := ⟨w.heap.size, p * 2 + 1, none⟩) hwl).trans (HLit.out p hp).2⟩
        · have hg := (Below.heap_alloc (wr.alloc (.cells #[.int .i64 (kA q), .int .i64 (kB q)] 57)) (.cells #[.int .i64 (-1), .int .i64 (-1)] 57) wr.heap.size (by simp)).trans (heap_alloc_new wr (.cells #[.int .i64 (kA q), .int .i64 (kB q)] 57))
          rw [cell_of_row _ _ _ _ 57 _ hg, cell_of_row _ _ _ _ 57 _ hg]
          exact ⟨rfl, rfl⟩
        · rw [cell_of_row _ _ _ _ 57 _ hnew, cell_of_row _ _ _ _ 57 _ hnew]
          exact ⟨rfl, rfl⟩
      have hq4I : (q : Int) < 4 := by omega
      go_wp2
      generalize hW0 : (wr.alloc _).alloc _ = W0
      have hrb := HRb.out W0 hW0.symm
      generalize wr.heap.size = Gb at hrb ⊢
      generalize hFb : Gb + 1 = Fb at hrb ⊢
      have HRB := hideIt hrb
      clear hW0 HRb hrb c0 c1 HOut HB1 hFb
      go_loopw [9] (fun v wr => ∃ K : Nat, K ≤ l.length ∧ v = .int .i64 ((K : Int) - 1) ∧ RbAt w wr w.heap.size u5 (brkI l V) q Gb Fb (prOf (firstP (consB (brkB l V q) K 0) l.length))) (fun v _ => (intOf v + 1).toNat)
      case atStart => exact ⟨l.length, Nat.le_refl _, by go_num, HRB.out.turn (cons_begin _ _).symm⟩
      case round =>
        clear HRB
        obtain ⟨K, hK, rfl, hrb⟩ := hrel
        have HRB := hideIt hrb
        clear hrb
        cases K with
        | zero =>
          have HRB0 : Hid (RbAt w wr w.heap.size u5 (brkI l V) q Gb Fb (brkI l V q)) := HRB.out.turn (by rw [cons_end, brkI_pr])
          obtain ⟨f1, f2⟩ := HRB0.out.fb
          have hFl := HRB0.out.flt
          obtain ⟨i0, hi0, hz0, hz1, hz2⟩ := info_parts info57
          generalize hpr : brkI l V q = pr at f1 f2
          have hown := HRB0.out.out
          have HOwn := hideIt hown
          have hbw := HRB0.out.bel.size
          have hll := HRB0.out.llt
          clear hown
          go_wp2_with (at_builtin; refine wpList_append_own _ rfl _ _ 51 rfl (w.heap.size + 1) 57 i0 _ 2 16 Tryd.underlying51 hi0 hz0 hz1 hz2 rfl (by decide) _ _ _ rfl (HOwn.out.alloc _) ⟨wr.heap.size, 0, none⟩ 1 1 [.int .i64 pr.1, .int .i64 pr.2] rfl rfl ?c1 ?c2 ?c3 ?c4 ?c5 ?_)
          case c1 =>
            intro j v hj
            match j, hj with
            | 0, hj => simp at hj; subst hj; first | (simp; done) | simp [Addr.add]
            | 1, hj => simp at hj; subst hj; first | (simp; done) | simp [Addr.add]
            | m + 2, hj => simp at hj
          case c2 => intro v hv; simp at hv; rcases hv with rfl | rfl <;> rfl
          case c3 => unfold maxLen; omega
          case c4 => omega
          case c5 => simp; omega
          intro v' w5 hown5 hgrow hnil5
          have hbl : ∀ k, u5.ownBlock = some k → w.heap.size + 1 ≤ k := fun k hk => (HOwn.out.lt k hk).1
          have hkeep : ∀ o, w5.cell? ⟨w.heap.size, o, none⟩ = wr.cell? ⟨w.heap.size, o, none⟩ := fun o => by
            have e1 := hgrow.block w.heap.size (by simp; omega) (fun e => by have := hbl _ e.symm; omega)
            rw [World.cell?_of_block (a := ⟨w.heap.size, o, none⟩) e1, World.cell?_alloc_lt _ _ ⟨w.heap.size, o, none⟩ hll]
          have R1 : Hid (w5.ownsRow (w.heap.size + 1) 57 2 v' (q + 1) (flatP (brkI l V) (q + 1))) := by
            show w5.ownsRow (w.heap.size + 1) 57 2 v' (q + 1) (flatP (brkI l V) (q + 1))
            unfold flatP
            rw [hpr]; exact hown5
          have R2 : Hid (∀ p, p < 4 → w5.cell? ⟨w.heap.size, p * 2, none⟩ = some (.int .i64 (kA p)) ∧ w5.cell? ⟨w.heap.size, p * 2 + 1, none⟩ = some (.int .i64 (kB p))) := fun p hp => by rw [hkeep, hkeep]; exact HRB0.out.lit p hp
          have R3 : Hid (Below w.heap.size w w5) := (belA HRB0.out.bel _).grown hgrow (by simp; omega) (fun k hk => by have := hbl k hk; omega)
          have R4 : Hid (w.heap.size < w5.heap.size) := by
            show w.heap.size < w5.heap.size
            have := hgrow.size
            simp at this; omega
          clear hown5 hgrow hnil5 hkeep
          go_wp2
          go_roundw
          case rel => exact ⟨q + 1, by omega, by go_num, R1.out, R2.out, R4.out, R3.out⟩
          case measure => simp [intOf]; omega
        | succ k =>
          have hkl : k < l.length := by omega
          obtain ⟨b, off, hea, hb, hops⟩ : ∃ b off, a = some ⟨b, off, none⟩ ∧ b < w.heap.size ∧ OpsAt w b off l := by
            rcases HQ.out with h | h
            · subst h; simp at hkl
            · exact h
          subst hea
          have HO := hideIt hops
          clear hops HQ
          rw [show (((k + 1 : Nat) : Int) - 1) = (k : Int) from by omega]
          go_wp2
          go_loopw [10] (fun v wr => ∃ I : Nat, I ≤ k ∧ v = .int .i64 ((I : Int) - 1) ∧ RbAt w wr w.heap.size u5 (brkI l V) q Gb Fb (prOf (firstP (consB (brkB l V q) k I) l.length))) (fun v _ => (intOf v + 1).toNat)
          case atStart => exact ⟨k, Nat.le_refl _, by go_num, HRB.out.turn (by rw [cons_row fun b hb _ => brkB_late hb])⟩
          case round =>
            clear HRB
            obtain ⟨I, hI, rfl, hrb⟩ := hrel
            have HRB := hideIt hrb
            clear hrb
            cases I with
            | zero =>
              go_wp2
              go_roundw
              case rel => exact ⟨k, by omega, by go_num, HRB.out⟩
              case measure => simp [intOf]
            | succ i =>
              rw [show (((i + 1 : Nat) : Int) - 1) = (i : Int) from by omega]
              have hil : i < l.length := by omega
              obtain ⟨a0, a1, a2, a3, a4, a5, a6, a7⟩ := (HO.out i hil).below hb HRB.out.bel
              obtain ⟨b0, b1, b2, b3, b4, b5, b6, b7⟩ := (HO.out k hkl).below hb HRB.out.bel
              have HX : Hid (opZ l i = l[i]) := opZ_at hil
              have HY : Hid (opZ l k = l[k]) := opZ_at hkl
              generalize l[i] = x at a0 a1 a2 a3 a4 a5 a6 a7 HX
              generalize l[k] = y at b0 b1 b2 b3 b4 b5 b6 b7 HY
              have hbl : b < wr.heap.size := Nat.lt_of_lt_of_le hb HRB.out.bel.size
              have hn1 : ¬ b = wr.heap.size := by omega
              have hn2 : ¬ b = wr.heap.size + 1 := by omega
              have hn3 : ¬ wr.heap.size = b := by omega
              have hn4 : ¬ wr.heap.size + 1 = b := by omega
              go_upto_region 12 with fail
              go_cut [11, 12] (fun c d wx => ∃ XA XB, c = .pointer (some ⟨XA, 0, none⟩) ∧ d = .pointer (some ⟨XB, 0, none⟩) ∧ OpAt wx XA 0 x ∧ OpAt wx XB 0 y ∧ XA < wx.heap.size ∧ XB < wx.heap.size ∧ Below wr.heap.size wr wx)
              case first =>
                clear HO HSO HV HRB HX HY HLit
                go_region
                all_goals
                  go_wp2
                  go_meet
                  refine ⟨_, _, rfl, rfl, ⟨?_, ?_, ?_, ?_, ?_, ?_, ?_, ?_⟩, ⟨?_, ?_, ?_, ?_, ?_, ?_, ?_, ?_⟩, ?_, ?_, (belA (belA (Below.refl _ _) _) _).drew⟩
                  all_goals first | (simp; done) | (simp; omega)
              case rest =>
                obtain ⟨XA, XB, rfl, rfl, hoa, hob, hla, hlb, hbx⟩ := hcut
                have HRC := hideIt (HRB.out.below hbx)
                have HPr := hideIt (brkB_doc HSO.out hq4 hkl (show i < k by omega))
                rw [HX.out, HY.out] at HPr
                have HKi := hideIt (HSO.out.ok.num i hil).1
                rw [HX.out] at HKi
                clear a0 a1 a2 a3 a4 a5 a6 a7 b0 b1 b2 b3 b4 b5 b6 b7 hn1 hn2 hn3 hn4 hbl
                obtain ⟨h8a, h8b, h8c, hve, hvcap, hvb, hrow⟩ := HV.out.row HSO.out.eight
                injection hve with e1 e2 e3
                injection e1 with e1
                injection e1 with e4 e5 e6
                subst e4 e5 e3
                have hk0 : (0 : Int) ≤ x.k := HKi.out.1
                have hk8 : x.k < 8 := by have := HKi.out.2; omega
                have hkn : x.k.toNat < 8 := by omega
                have HKN : Hid (((x.k.toNat : Nat) : Int) = x.k) := by show ((x.k.toNat : Nat) : Int) = x.k; omega
                obtain ⟨s, hs1, hs2⟩ := hrow x.k.toNat hkn
                rw [HKN.out] at hs2
                obtain ⟨sa, sn, sc, hsl⟩ : ∃ sa sn sc, s = .slice sa sn sc := by
                  obtain ⟨sa, sc, e, _⟩ := hs2
                  exact ⟨sa, _, sc, e⟩
                subst hsl
                have hbel := HRC.out.bel
                have HIx : Hid (∀ W, Below wc.heap.size wc W → ∀ u, Calls Tryd.prog 37 #[.slice sa sn sc, .int .i64 u] W fun e w' => e = .returned (.int .i64 (idxI (rowI V x.k) u)) ∧ w' = W) := fun W hW u => rIndex_any _ u _ W (hs2.below (belJ hbel hW)) (hs.row x.k)
                have HVx : Hid (∀ W, Calls Tryd.prog 38 #[x.agg] W fun e w' => e = .returned (.int .i64 (valO x)) ∧ Below W.heap.size W w') := fun W => rValue_any x W
                have HVy : Hid (∀ W, Calls Tryd.prog 38 #[y.agg] W fun e w' => e = .returned (.int .i64 (valO y)) ∧ Below W.heap.size W w') := fun W => rValue_any y W
                have HG := hideIt HRC.out.gb
                have hgl := HRC.out.glt
                generalize hga : kA q = ga at HG HPr
                generalize hgb : kB q = gb at HG HPr
                have HS : Hid (∀ w1, Below wc.heap.size wc w1 → w1.cell? ⟨XA, 0, none⟩ = some (.int .i64 x.p) ∧ w1.cell? ⟨XA, 0 + 1, none⟩ = some (.int .i64 x.k) ∧ w1.cell? ⟨XA, 0 + 2, none⟩ = some (.int .i64 x.d) ∧ w1.cell? ⟨XA, 0 + 3, none⟩ = some (.int .i64 x.a) ∧ w1.cell? ⟨XA, 0 + 4, none⟩ = some (.int .i64 x.b) ∧ w1.cell? ⟨XA, 0 + 5, none⟩ = some (.int .i64 x.r) ∧ w1.cell? ⟨XA, 0 + 6, none⟩ = some (.int .i64 x.c) ∧ w1.cell? ⟨XA, 0 + 7, none⟩ = some (.int .i64 x.e) ∧ w1.cell? ⟨XB, 0, none⟩ = some (.int .i64 y.p) ∧ w1.cell? ⟨XB, 0 + 1, none⟩ = some (.int .i64 y.k) ∧ w1.cell? ⟨XB, 0 + 2, none⟩ = some (.int .i64 y.d) ∧ w1.cell? ⟨XB, 0 + 3, none⟩ = some (.int .i64 y.a) ∧ w1.cell? ⟨XB, 0 + 4, none⟩ = some (.int .i64 y.b) ∧ w1.cell? ⟨XB, 0 + 5, none⟩ = some (.int .i64 y.r) ∧ w1.cell? ⟨XB, 0 + 6, none⟩ = some (.int .i64 y.c) ∧ w1.cell? ⟨XB, 0 + 7, none⟩ = some (.int .i64 y.e) ∧ w1.cell? ⟨Gb, 0, none⟩ = some (.int .i64 ga) ∧ w1.cell? ⟨Gb, 1, none⟩ = some (.int .i64 gb) ∧ w1.cell? ⟨vb, vof + x.k.toNat, none⟩ = some (.slice sa sn sc)) := fun w1 h1 => by
                  obtain ⟨a0, a1, a2, a3, a4, a5, a6, a7⟩ := hoa.below hla h1
                  obtain ⟨b0, b1, b2, b3, b4, b5, b6, b7⟩ := hob.below hlb h1
                  exact ⟨a0, a1, a2, a3, a4, a5, a6, a7, b0, b1, b2, b3, b4, b5, b6, b7, (h1.cell (p := ⟨Gb, 0, none⟩) hgl).trans HG.out.1, (h1.cell (p := ⟨Gb, 1, none⟩) hgl).trans HG.out.2, ((belJ hbel h1).cell (p := ⟨vb, vof + x.k.toNat, none⟩) hvb).trans hs1⟩
                have HGA := hideIt hga
                have HGB := hideIt hgb
                clear hs1 hs2 hrow hga hgb hoa hob hla hlb hbel HG hgl hbx
                generalize hbk : brkB l V q k i = bk at HPr
                go_upto_region 13 with fail
                go_cut [89] (fun c wx => c = .bool bk ∧ Below wc.heap.size wc wx)
                case first =>
                  obtain ⟨s0, s1, s2, s3, s4, s5, s6, s7, s8, s9, s10, s11, s12, s13, s14, s15, s16, s17, s18⟩ := HS.out wc (Below.refl _ _)
                  clear HO HSO HV HRB HRC HX HY HLit HKi HKN hbk
                  by_cases h1 : x.d = ga
                  · have h1' : (x.d == ga) = true := by simp [h1]
                    by_cases h2 : y.d = gb
                    · have h2' : (y.d == gb) = true := by simp [h2]
                      by_cases h3 : x.p = y.p
                      · have h3' : (x.p == y.p) = true := by simp [h3]
                        by_cases h4 : x.k = y.k
                        · have h4' : (x.k == y.k) = true := by simp [h4]
                          have HR : Hid (bk = decide (idxI (rowI V x.k) (valO y) < idxI (rowI V x.k) (valO x))) := by show bk = _; rw [HPr.out, h1', h2', h3', h4']; rfl
                          clear HPr h1 h2 h3 h4
                          unfold Opn.agg at HVx HVy
                          generalize valO x = ux at HVx HR
                          generalize valO y = uy at HVy HR
                          refine wp_region_held_drew (S := (fun w' => w'.cell? ⟨XA, 0, none⟩ = some (.int .i64 x.p) ∧ w'.cell? ⟨XA, 0 + 1, none⟩ = some (.int .i64 x.k) ∧ w'.cell? ⟨XA, 0 + 2, none⟩ = some (.int .i64 x.d) ∧ w'.cell? ⟨XA, 0 + 3, none⟩ = some (.int .i64 x.a) ∧ w'.cell? ⟨XA, 0 + 4, none⟩ = some (.int .i64 x.b) ∧ w'.cell? ⟨XA, 0 + 5, none⟩ = some (.int .i64 x.r) ∧ w'.cell? ⟨XA, 0 + 6, none⟩ = some (.int .i64 x.c) ∧ w'.cell? ⟨XA, 0 + 7, none⟩ = some (.int .i64 x.e) ∧ w'.cell? ⟨XB, 0, none⟩ = some (.int .i64 y.p) ∧ w'.cell? ⟨XB, 0 + 1, none⟩ = some (.int .i64 y.k) ∧ w'.cell? ⟨XB, 0 + 2, none⟩ = some (.int .i64 y.d) ∧ w'.cell? ⟨XB, 0 + 3, none⟩ = some (.int .i64 y.a) ∧ w'.cell? ⟨XB, 0 + 4, none⟩ = some (.int .i64 y.b) ∧ w'.cell? ⟨XB, 0 + 5, none⟩ = some (.int .i64 y.r) ∧ w'.cell? ⟨XB, 0 + 6, none⟩ = some (.int .i64 y.c) ∧ w'.cell? ⟨XB, 0 + 7, none⟩ = some (.int .i64 y.e) ∧ w'.cell? ⟨Gb, 0, none⟩ = some (.int .i64 ga) ∧ w'.cell? ⟨Gb, 1, none⟩ = some (.int .i64 gb) ∧ w'.cell? ⟨vb, vof + x.k.toNat, none⟩ = some (.slice sa sn sc))) (by kernel_rfl) (by simpa using HS.out _ (Below.refl _ _)) (fun hHeld => ?_)
                          refine wpAnyH_take (i := 0) (v := ?_) rfl (by kernel_rfl) (by kernel_rfl) (by kernel_rfl) (fun _ _ _ h => h) (Or.inl ⟨by rfl, ?_⟩) (by assumption) ?_
                          rotate_left 1
                          · intro w ⟨s0, s1, s2, s3, s4, s5, s6, s7, s8, s9, s10, s11, s12, s13, s14, s15, s16, s17, s18⟩
                            go_simp
                            all_goals with_reducible rfl
                          simp only [Act.put, List.setIfInBounds_toArray, List.set_cons_zero, List.set_cons_succ, List.getElem_toArray, List.getElem_cons_zero]
                          refine wpAnyH_take (i := 1) (v := ?_) rfl (by kernel_rfl) (by kernel_rfl) (by kernel_rfl) (fun _ _ _ h => h) (Or.inl ⟨by rfl, ?_⟩) (by assumption) ?_
                          rotate_left 1
                          · intro w ⟨s0, s1, s2, s3, s4, s5, s6, s7, s8, s9, s10, s11, s12, s13, s14, s15, s16, s17, s18⟩
                            go_simp
                            all_goals with_reducible rfl
                          simp only [Act.put, List.setIfInBounds_toArray, List.set_cons_zero, List.set_cons_succ, List.getElem_toArray, List.getElem_cons_zero, List.getElem_cons_succ]
                          refine wpAnyH_take (i := 2) (v := ?_) rfl (by kernel_rfl) (by kernel_rfl) (by kernel_rfl) (fun _ _ _ h => h) (Or.inl ⟨by rfl, ?_⟩) (by assumption) ?_
                          rotate_left 1
                          · intro w ⟨s0, s1, s2, s3, s4, s5, s6, s7, s8, s9, s10, s11, s12, s13, s14, s15, s16, s17, s18⟩
                            go_simp
                            all_goals with_reducible rfl
                          simp only [Act.put, List.setIfInBounds_toArray, List.set_cons_zero, List.set_cons_succ, List.getElem_toArray, List.getElem_cons_zero, List.getElem_cons_succ]
                          refine wpAnyH_take (i := 3) (v := ?_) rfl (by kernel_rfl) (by kernel_rfl) (by kernel_rfl) (fun _ _ _ h => h) (Or.inl ⟨by rfl, ?_⟩) (by assumption) ?_
                          rotate_left 1
                          · intro w ⟨s0, s1, s2, s3, s4, s5, s6, s7, s8, s9, s10, s11, s12, s13, s14, s15, s16, s17, s18⟩
                            go_simp
                            all_goals with_reducible rfl
                          simp only [Act.put, List.setIfInBounds_toArray, List.set_cons_zero, List.set_cons_succ, List.getElem_toArray, List.getElem_cons_zero, List.getElem_cons_succ]
                          refine wpAnyH_take (i := 4) (v := ?_) rfl (by kernel_rfl) (by kernel_rfl) (by kernel_rfl) (fun _ _ _ h => h) (Or.inl ⟨by rfl, ?_⟩) (by assumption) ?_
                          rotate_left 1
                          · intro w ⟨s0, s1, s2, s3, s4, s5, s6, s7, s8, s9, s10, s11, s12, s13, s14, s15, s16, s17, s18⟩
                            go_simp
                            all_goals with_reducible rfl
                          simp only [Act.put, List.setIfInBounds_toArray, List.set_cons_zero, List.set_cons_succ, List.getElem_toArray, List.getElem_cons_zero, List.getElem_cons_succ]
                          refine wpAnyH_take (i := 5) (v := ?_) rfl (by kernel_rfl) (by kernel_rfl) (by kernel_rfl) (fun _ _ _ h => h) (Or.inl ⟨by rfl, ?_⟩) (by assumption) ?_
                          rotate_left 1
                          · intro w ⟨s0, s1, s2, s3, s4, s5, s6, s7, s8, s9, s10, s11, s12, s13, s14, s15, s16, s17, s18⟩
                            go_simp
                            all_goals with_reducible rfl
                          simp only [Act.put, List.setIfInBounds_toArray, List.set_cons_zero, List.set_cons_succ, List.getElem_toArray, List.getElem_cons_zero, List.getElem_cons_succ]
                          refine wpAnyH_take (i := 6) (v := ?_) rfl (by kernel_rfl) (by kernel_rfl) (by kernel_rfl) (fun _ _ _ h => h) (Or.inl ⟨by rfl, ?_⟩) (by assumption) ?_
                          rotate_left 1
                          · intro w ⟨s0, s1, s2, s3, s4, s5, s6, s7, s8, s9, s10, s11, s12, s13, s14, s15, s16, s17, s18⟩
                            go_simp
                            all_goals with_reducible rfl
                          simp only [Act.put, List.setIfInBounds_toArray, List.set_cons_zero, List.set_cons_succ, List.getElem_toArray, List.getElem_cons_zero, List.getElem_cons_succ]
                          refine wpAnyH_take (i := 7) (v := ?_) rfl (by kernel_rfl) (by kernel_rfl) (by kernel_rfl) (fun _ _ _ h => h) (Or.inl ⟨by rfl, ?_⟩) (by assumption) ?_
                          rotate_left 1
                          · intro w ⟨s0, s1, s2, s3, s4, s5, s6, s7, s8, s9, s10, s11, s12, s13, s14, s15, s16, s17, s18⟩
                            go_simp
                            all_goals with_reducible rfl
                          simp only [Act.put, List.setIfInBounds_toArray, List.set_cons_zero, List.set_cons_succ, List.getElem_toArray, List.getElem_cons_zero, List.getElem_cons_succ]
                          refine wpAnyH_take (i := 8) (v := ?_) rfl (by kernel_rfl) (by kernel_rfl) (by kernel_rfl) (fun _ _ _ h => h) (Or.inl ⟨by rfl, ?_⟩) (by assumption) ?_
                          rotate_left 1
                          · intro w ⟨s0, s1, s2, s3, s4, s5, s6, s7, s8, s9, s10, s11, s12, s13, s14, s15, s16, s17, s18⟩
                            go_simp
                            all_goals with_reducible rfl
                          simp only [Act.put, List.setIfInBounds_toArray, List.set_cons_zero, List.set_cons_succ, List.getElem_toArray, List.getElem_cons_zero, List.getElem_cons_succ]
                          refine wpAnyH_take (i := 9) (v := ?_) rfl (by kernel_rfl) (by kernel_rfl) (by kernel_rfl) (fun _ _ _ h => h) (Or.inl ⟨by rfl, ?_⟩) (by assumption) ?_
                          rotate_left 1
                          · intro w ⟨s0, s1, s2, s3, s4, s5, s6, s7, s8, s9, s10, s11, s12, s13, s14, s15, s16, s17, s18⟩
                            go_simp
                            all_goals with_reducible rfl
                          simp only [Act.put, List.setIfInBounds_toArray, List.set_cons_zero, List.set_cons_succ, List.getElem_toArray, List.getElem_cons_zero, List.getElem_cons_succ]
                          refine wpAnyH_take (i := 10) (v := ?_) rfl (by kernel_rfl) (by kernel_rfl) (by kernel_rfl) (fun _ _ _ h => h) (Or.inl ⟨by rfl, ?_⟩) (by assumption) ?_
                          rotate_left 1
                          · intro w ⟨s0, s1, s2, s3, s4, s5, s6, s7, s8, s9, s10, s11, s12, s13, s14, s15, s16, s17, s18⟩
                            go_simp
                            all_goals with_reducible rfl
                          simp only [Act.put, List.setIfInBounds_toArray, List.set_cons_zero, List.set_cons_succ, List.getElem_toArray, List.getElem_cons_zero, List.getElem_cons_succ]
                          refine wpAnyH_take (i := 11) (v := ?_) rfl (by kernel_rfl) (by kernel_rfl) (by kernel_rfl) (fun _ _ _ h => h) (Or.inl ⟨by rfl, ?_⟩) (by assumption) ?_
                          rotate_left 1
                          · intro w ⟨s0, s1, s2, s3, s4, s5, s6, s7, s8, s9, s10, s11, s12, s13, s14, s15, s16, s17, s18⟩
                            go_simp
                            all_goals with_reducible rfl
                          simp only [Act.put, List.setIfInBounds_toArray, List.set_cons_zero, List.set_cons_succ, List.getElem_toArray, List.getElem_cons_zero, List.getElem_cons_succ]
                          refine wpAnyH_take (i := 12) (v := ?_) rfl (by kernel_rfl) (by kernel_rfl) (by kernel_rfl) (fun _ _ _ h => h) (Or.inl ⟨by rfl, ?_⟩) (by assumption) ?_
                          rotate_left 1
                          · intro w ⟨s0, s1, s2, s3, s4, s5, s6, s7, s8, s9, s10, s11, s12, s13, s14, s15, s16, s17, s18⟩
                            go_simp
                            all_goals with_reducible rfl
                          simp only [Act.put, List.setIfInBounds_toArray, List.set_cons_zero, List.set_cons_succ, List.getElem_toArray, List.getElem_cons_zero, List.getElem_cons_succ]
                          refine wpAnyH_take (i := 13) (v := ?_) rfl (by kernel_rfl) (by kernel_rfl) (by kernel_rfl) (fun _ _ _ h => h) (Or.inl ⟨by rfl, ?_⟩) (by assumption) ?_
                          rotate_left 1
                          · intro w ⟨s0, s1, s2, s3, s4, s5, s6, s7, s8, s9, s10, s11, s12, s13, s14, s15, s16, s17, s18⟩
                            go_simp
                            all_goals with_reducible rfl
                          simp only [Act.put, List.setIfInBounds_toArray, List.set_cons_zero, List.set_cons_succ, List.getElem_toArray, List.getElem_cons_zero, List.getElem_cons_succ]
                          refine wpAnyH_take (i := 14) (v := ?_) rfl (by kernel_rfl) (by kernel_rfl) (by kernel_rfl) (fun _ _ _ h => h) (Or.inl ⟨by rfl, ?_⟩) (by assumption) ?_
                          rotate_left 1
                          · intro w ⟨s0, s1, s2, s3, s4, s5, s6, s7, s8, s9, s10, s11, s12, s13, s14, s15, s16, s17, s18⟩
                            go_simp
                            all_goals with_reducible rfl
                          simp only [Act.put, List.setIfInBounds_toArray, List.set_cons_zero, List.set_cons_succ, List.getElem_toArray, List.getElem_cons_zero, List.getElem_cons_succ]
                          refine wpAnyH_take (i := 15) (v := ?_) rfl (by kernel_rfl) (by kernel_rfl) (by kernel_rfl) (fun _ _ _ h => h) (Or.inl ⟨by rfl, ?_⟩) (by assumption) ?_
                          rotate_left 1
                          · intro w ⟨s0, s1, s2, s3, s4, s5, s6, s7, s8, s9, s10, s11, s12, s13, s14, s15, s16, s17, s18⟩
                            go_simp
                            all_goals with_reducible rfl
                          simp only [Act.put, List.setIfInBounds_toArray, List.set_cons_zero, List.set_cons_succ, List.getElem_toArray, List.getElem_cons_zero, List.getElem_cons_succ]
                          refine wpAnyH_take (i := 16) (v := ?_) rfl (by kernel_rfl) (by kernel_rfl) (by kernel_rfl) (fun _ _ _ h => h) (Or.inl ⟨by rfl, ?_⟩) (by assumption) ?_
                          rotate_left 1
                          · intro w ⟨s0, s1, s2, s3, s4, s5, s6, s7, s8, s9, s10, s11, s12, s13, s14, s15, s16, s17, s18⟩
                            go_simp
                            all_goals with_reducible rfl
                          simp only [Act.put, List.setIfInBounds_toArray, List.set_cons_zero, List.set_cons_succ, List.getElem_toArray, List.getElem_cons_zero, List.getElem_cons_succ]
                          refine wpAnyH_take (i := 17) (v := ?_) rfl (by kernel_rfl) (by kernel_rfl) (by kernel_rfl) (fun _ _ _ h => h) (Or.inl ⟨by rfl, ?_⟩) (by assumption) ?_
                          rotate_left 1
                          · intro w ⟨s0, s1, s2, s3, s4, s5, s6, s7, s8, s9, s10, s11, s12, s13, s14, s15, s16, s17, s18⟩
                            go_simp
                            all_goals with_reducible rfl
                          simp only [Act.put, List.setIfInBounds_toArray, List.set_cons_zero, List.set_cons_succ, List.getElem_toArray, List.getElem_cons_zero, List.getElem_cons_succ]
                          refine wpAnyH_take (i := 18) (v := ?_) rfl (by kernel_rfl) (by kernel_rfl) (by kernel_rfl) (fun _ _ _ h => h) (Or.inl ⟨by rfl, ?_⟩) (by assumption) ?_
                          rotate_left 1
                          · intro w ⟨s0, s1, s2, s3, s4, s5, s6, s7, s8, s9, s10, s11, s12, s13, s14, s15, s16, s17, s18⟩
                            go_simp
                            all_goals with_reducible rfl
                          simp only [Act.put, List.setIfInBounds_toArray, List.set_cons_zero, List.set_cons_succ, List.getElem_toArray, List.getElem_cons_zero, List.getElem_cons_succ]
                          refine wpAnyH_take (i := 19) (v := ?_) rfl (by kernel_rfl) (by kernel_rfl) (by kernel_rfl) (fun _ _ _ h => h) (Or.inl ⟨by rfl, ?_⟩) (by assumption) ?_
                          rotate_left 1
                          · intro w ⟨s0, s1, s2, s3, s4, s5, s6, s7, s8, s9, s10, s11, s12, s13, s14, s15, s16, s17, s18⟩
                            go_simp
                            all_goals with_reducible rfl
                          simp only [Act.put, List.setIfInBounds_toArray, List.set_cons_zero, List.set_cons_succ, List.getElem_toArray, List.getElem_cons_zero, List.getElem_cons_succ]
                          refine wpAnyH_take (i := 20) (v := ?_) rfl (by kernel_rfl) (by kernel_rfl) (by kernel_rfl) (fun _ _ _ h => h) (Or.inl ⟨by rfl, ?_⟩) (by assumption) ?_
                          rotate_left 1
                          · intro w ⟨s0, s1, s2, s3, s4, s5, s6, s7, s8, s9, s10, s11, s12, s13, s14, s15, s16, s17, s18⟩
                            go_simp
                            all_goals with_reducible rfl
                          simp only [Act.put, List.setIfInBounds_toArray, List.set_cons_zero, List.set_cons_succ, List.getElem_toArray, List.getElem_cons_zero, List.getElem_cons_succ]
                          refine wpAnyH_take (i := 21) (v := ?_) rfl (by kernel_rfl) (by kernel_rfl) (by kernel_rfl) (fun _ _ _ h => h) (Or.inl ⟨by rfl, ?_⟩) (by assumption) ?_
                          rotate_left 1
                          · intro w ⟨s0, s1, s2, s3, s4, s5, s6, s7, s8, s9, s10, s11, s12, s13, s14, s15, s16, s17, s18⟩
                            go_simp
                            all_goals with_reducible rfl
                          simp only [Act.put, List.setIfInBounds_toArray, List.set_cons_zero, List.set_cons_succ, List.getElem_toArray, List.getElem_cons_zero, List.getElem_cons_succ]
                          refine wpAnyH_take (i := 22) (v := ?_) rfl (by kernel_rfl) (by kernel_rfl) (by kernel_rfl) (fun _ _ _ h => h) (Or.inl ⟨by rfl, ?_⟩) (by assumption) ?_
                          rotate_left 1
                          · intro w ⟨s0, s1, s2, s3, s4, s5, s6, s7, s8, s9, s10, s11, s12, s13, s14, s15, s16, s17, s18⟩
                            go_simp
                            all_goals with_reducible rfl
                          simp only [Act.put, List.setIfInBounds_toArray, List.set_cons_zero, List.set_cons_succ, List.getElem_toArray, List.getElem_cons_zero, List.getElem_cons_succ]
                          refine wpAnyH_take (i := 23) (v := ?_) rfl (by kernel_rfl) (by kernel_rfl) (by kernel_rfl) (fun _ _ _ h => h) (Or.inl ⟨by rfl, ?_⟩) (by assumption) ?_
                          rotate_left 1
                          · intro w ⟨s0, s1, s2, s3, s4, s5, s6, s7, s8, s9, s10, s11, s12, s13, s14, s15, s16, s17, s18⟩
                            go_simp
                            all_goals with_reducible rfl
                          simp only [Act.put, List.setIfInBounds_toArray, List.set_cons_zero, List.set_cons_succ, List.getElem_toArray, List.getElem_cons_zero, List.getElem_cons_succ]
                          refine wpAnyH_take (i := 24) (v := ?_) rfl (by kernel_rfl) (by kernel_rfl) (by kernel_rfl) (fun _ _ _ h => h) (Or.inl ⟨by rfl, ?_⟩) (by assumption) ?_
                          rotate_left 1
                          · intro w ⟨s0, s1, s2, s3, s4, s5, s6, s7, s8, s9, s10, s11, s12, s13, s14, s15, s16, s17, s18⟩
                            go_simp
                            all_goals with_reducible rfl
                          simp only [Act.put, List.setIfInBounds_toArray, List.set_cons_zero, List.set_cons_succ, List.getElem_toArray, List.getElem_cons_zero, List.getElem_cons_succ]
                          refine wpAnyH_take (i := 25) (v := ?_) rfl (by kernel_rfl) (by kernel_rfl) (by kernel_rfl) (fun _ _ _ h => h) (Or.inl ⟨by rfl, ?_⟩) (by assumption) ?_
                          rotate_left 1
                          · intro w ⟨s0, s1, s2, s3, s4, s5, s6, s7, s8, s9, s10, s11, s12, s13, s14, s15, s16, s17, s18⟩
                            go_simp
                            all_goals with_reducible rfl
                          simp only [Act.put, List.setIfInBounds_toArray, List.set_cons_zero, List.set_cons_succ, List.getElem_toArray, List.getElem_cons_zero, List.getElem_cons_succ]
                          refine wpAnyH_take (i := 26) (v := ?_) rfl (by kernel_rfl) (by kernel_rfl) (by kernel_rfl) (fun _ _ _ h => h) (Or.inl ⟨by rfl, ?_⟩) (by assumption) ?_
                          rotate_left 1
                          · intro w ⟨s0, s1, s2, s3, s4, s5, s6, s7, s8, s9, s10, s11, s12, s13, s14, s15, s16, s17, s18⟩
                            go_simp
                            all_goals with_reducible rfl
                          simp only [Act.put, List.setIfInBounds_toArray, List.set_cons_zero, List.set_cons_succ, List.getElem_toArray, List.getElem_cons_zero, List.getElem_cons_succ]
                          refine wpAnyH_take (i := 27) (v := ?_) rfl (by kernel_rfl) (by kernel_rfl) (by kernel_rfl) (fun _ _ _ h => h) (Or.inl ⟨by rfl, ?_⟩) (by assumption) ?_
                          rotate_left 1
                          · intro w ⟨s0, s1, s2, s3, s4, s5, s6, s7, s8, s9, s10, s11, s12, s13, s14, s15, s16, s17, s18⟩
                            go_simp
                            all_goals with_reducible rfl
                          simp only [Act.put, List.setIfInBounds_toArray, List.set_cons_zero, List.set_cons_succ, List.getElem_toArray, List.getElem_cons_zero, List.getElem_cons_succ]
                          refine wpAnyH_take (i := 28) (v := ?_) rfl (by kernel_rfl) (by kernel_rfl) (by kernel_rfl) (fun _ _ _ h => h) (Or.inl ⟨by rfl, ?_⟩) (by assumption) ?_
                          rotate_left 1
                          · intro w ⟨s0, s1, s2, s3, s4, s5, s6, s7, s8, s9, s10, s11, s12, s13, s14, s15, s16, s17, s18⟩
                            go_simp
                            all_goals with_reducible rfl
                          simp only [Act.put, List.setIfInBounds_toArray, List.set_cons_zero, List.set_cons_succ, List.getElem_toArray, List.getElem_cons_zero, List.getElem_cons_succ]
                          refine wpAnyH_take (i := 29) (v := ?_) rfl (by kernel_rfl) (by kernel_rfl) (by kernel_rfl) (fun _ _ _ h => h) (Or.inl ⟨by rfl, ?_⟩) (by assumption) ?_
                          rotate_left 1
                          · intro w ⟨s0, s1, s2, s3, s4, s5, s6, s7, s8, s9, s10, s11, s12, s13, s14, s15, s16, s17, s18⟩
                            go_simp
                            all_goals with_reducible rfl
                          simp only [Act.put, List.setIfInBounds_toArray, List.set_cons_zero, List.set_cons_succ, List.getElem_toArray, List.getElem_cons_zero, List.getElem_cons_succ]
                          refine wpAnyH_take (i := 30) (v := ?_) rfl (by kernel_rfl) (by kernel_rfl) (by kernel_rfl) (fun _ _ _ h => h) (Or.inl ⟨by rfl, ?_⟩) (by assumption) ?_
                          rotate_left 1
                          · intro w ⟨s0, s1, s2, s3, s4, s5, s6, s7, s8, s9, s10, s11, s12, s13, s14, s15, s16, s17, s18⟩
                            go_simp
                            all_goals with_reducible rfl
                          simp only [Act.put, List.setIfInBounds_toArray, List.set_cons_zero, List.set_cons_succ, List.getElem_toArray, List.getElem_cons_zero, List.getElem_cons_succ]
                          refine wpAnyH_take (i := 31) (v := ?_) rfl (by kernel_rfl) (by kernel_rfl) (by kernel_rfl) (fun _ _ _ h => h) (Or.inl ⟨by rfl, ?_⟩) (by assumption) ?_
                          rotate_left 1
                          · intro w ⟨s0, s1, s2, s3, s4, s5, s6, s7, s8, s9, s10, s11, s12, s13, s14, s15, s16, s17, s18⟩
                            go_simp
                            all_goals with_reducible rfl
                          simp only [Act.put, List.setIfInBounds_toArray, List.set_cons_zero, List.set_cons_succ, List.getElem_toArray, List.getElem_cons_zero, List.getElem_cons_succ]
                          refine wpAnyH_take (i := 32) (v := ?_) rfl (by kernel_rfl) (by kernel_rfl) (by kernel_rfl) (fun _ _ _ h => h) (Or.inl ⟨by rfl, ?_⟩) (by assumption) ?_
                          rotate_left 1
                          · intro w ⟨s0, s1, s2, s3, s4, s5, s6, s7, s8, s9, s10, s11, s12, s13, s14, s15, s16, s17, s18⟩
                            go_simp
                            all_goals with_reducible rfl
                          simp only [Act.put, List.setIfInBounds_toArray, List.set_cons_zero, List.set_cons_succ, List.getElem_toArray, List.getElem_cons_zero, List.getElem_cons_succ]
                          refine wpAnyH_take (i := 35) (v := ?_) rfl (by kernel_rfl) (by kernel_rfl) (by kernel_rfl) (fun _ _ _ h => h) (Or.inl ⟨by rfl, ?_⟩) (by assumption) ?_
                          rotate_left 1
                          · intro w ⟨s0, s1, s2, s3, s4, s5, s6, s7, s8, s9, s10, s11, s12, s13, s14, s15, s16, s17, s18⟩
                            go_simp
                            all_goals with_reducible rfl
                          simp only [Act.put, List.setIfInBounds_toArray, List.set_cons_zero, List.set_cons_succ, List.getElem_toArray, List.getElem_cons_zero, List.getElem_cons_succ]
                          refine wpAnyH_take (i := 36) (v := ?_) rfl (by kernel_rfl) (by kernel_rfl) (by kernel_rfl) (fun _ _ _ h => h) (Or.inl ⟨by rfl, ?_⟩) (by assumption) ?_
                          rotate_left 1
                          · intro w ⟨s0, s1, s2, s3, s4, s5, s6, s7, s8, s9, s10, s11, s12, s13, s14, s15, s16, s17, s18⟩
                            go_simp
                            all_goals with_reducible rfl
                          simp only [Act.put, List.setIfInBounds_toArray, List.set_cons_zero, List.set_cons_succ, List.getElem_toArray, List.getElem_cons_zero, List.getElem_cons_succ]
                          refine wpAnyH_take (i := 37) (v := ?_) rfl (by kernel_rfl) (by kernel_rfl) (by kernel_rfl) (fun _ _ _ h => h) (Or.inl ⟨by rfl, ?_⟩) (by assumption) ?_
                          rotate_left 1
                          · intro w ⟨s0, s1, s2, s3, s4, s5, s6, s7, s8, s9, s10, s11, s12, s13, s14, s15, s16, s17, s18⟩
                            go_simp
                            all_goals with_reducible rfl
                          simp only [Act.put, List.setIfInBounds_toArray, List.set_cons_zero, List.set_cons_succ, List.getElem_toArray, List.getElem_cons_zero, List.getElem_cons_succ]
                          refine wpAnyH_take (i := 38) (v := ?_) rfl (by kernel_rfl) (by kernel_rfl) (by kernel_rfl) (fun _ _ _ h => h) (Or.inl ⟨by rfl, ?_⟩) (by assumption) ?_
                          rotate_left 1
                          · intro w ⟨s0, s1, s2, s3, s4, s5, s6, s7, s8, s9, s10, s11, s12, s13, s14, s15, s16, s17, s18⟩
                            go_simp
                            all_goals with_reducible rfl
                          simp only [Act.put, List.setIfInBounds_toArray, List.set_cons_zero, List.set_cons_succ, List.getElem_toArray, List.getElem_cons_zero, List.getElem_cons_succ]
                          refine wpAnyH_take (i := 39) (v := ?_) rfl (by kernel_rfl) (by kernel_rfl) (by kernel_rfl) (fun _ _ _ h => h) (Or.inl ⟨by rfl, ?_⟩) (by assumption) ?_
                          rotate_left 1
                          · intro w ⟨s0, s1, s2, s3, s4, s5, s6, s7, s8, s9, s10, s11, s12, s13, s14, s15, s16, s17, s18⟩
                            go_simp
                            all_goals with_reducible rfl
                          simp only [Act.put, List.setIfInBounds_toArray, List.set_cons_zero, List.set_cons_succ, List.getElem_toArray, List.getElem_cons_zero, List.getElem_cons_succ]
                          refine wpAnyH_take (i := 40) (v := ?_) rfl (by kernel_rfl) (by kernel_rfl) (by kernel_rfl) (fun _ _ _ h => h) (Or.inl ⟨by rfl, ?_⟩) (by assumption) ?_
                          rotate_left 1
                          · intro w ⟨s0, s1, s2, s3, s4, s5, s6, s7, s8, s9, s10, s11, s12, s13, s14, s15, s16, s17, s18⟩
                            go_simp
                            all_goals with_reducible rfl
                          simp only [Act.put, List.setIfInBounds_toArray, List.set_cons_zero, List.set_cons_succ, List.getElem_toArray, List.getElem_cons_zero, List.getElem_cons_succ]
                          refine wpAnyH_ready (rs := [33]) (by kernel_rfl) (by simp) (AllReadyH.cons rfl (fun K hK => ?_) AllReadyH.nil)
                          go_simp
                          refine (HVy.out _).mono ?_
                          rintro e w1 ⟨rfl, hb1⟩
                          have HC1 := hideIt (show Below wc.heap.size wc w1 from ((Below.refl wc.heap.size wc).drew).trans hb1)
                          refine hK.out _ _ ?_ (fun hHeld => ?_)
                          · exact HS.out w1 HC1.out
                          clear hK K hb1
                          refine wpAnyH_ready (rs := [34]) (by kernel_rfl) (by simp) (AllReadyH.cons rfl (fun K hK => ?_) AllReadyH.nil)
                          go_simp
                          refine (HIx.out _ HC1.out _).mono ?_
                          rintro e w2 ⟨rfl, hw2⟩
                          subst hw2
                          refine hK.out _ _ ?_ (fun hHeld => ?_)
                          · exact HS.out _ HC1.out
                          clear hK K
                          refine wpAnyH_ready (rs := [41]) (by kernel_rfl) (by simp) (AllReadyH.cons rfl (fun K hK => ?_) AllReadyH.nil)
                          go_simp
                          refine (HVx.out _).mono ?_
                          rintro e w3 ⟨rfl, hb3⟩
                          have HC3 := hideIt (show Below wc.heap.size wc w3 from belJ HC1.out hb3)
                          refine hK.out _ _ ?_ (fun hHeld => ?_)
                          · exact HS.out w3 HC3.out
                          clear hK K hb3
                          refine wpAnyH_ready (rs := [42]) (by kernel_rfl) (by simp) (AllReadyH.cons rfl (fun K hK => ?_) AllReadyH.nil)
                          go_simp
                          refine (HIx.out _ HC3.out _).mono ?_
                          rintro e w4 ⟨rfl, hw4⟩
                          subst hw4
                          refine hK.out _ _ ?_ (fun hHeld => ?_)
                          · exact HS.out _ HC3.out
                          clear hK K
                          refine wpAnyH_take (i := 43) (v := ?_) rfl (by kernel_rfl) (by kernel_rfl) (by kernel_rfl) (fun _ _ _ h => h) (Or.inl ⟨by rfl, ?_⟩) (by assumption) ?_
                          rotate_left 1
                          · intro w ⟨s0, s1, s2, s3, s4, s5, s6, s7, s8, s9, s10, s11, s12, s13, s14, s15, s16, s17, s18⟩
                            go_simp
                            all_goals with_reducible rfl
                          simp only [Act.put, List.setIfInBounds_toArray, List.set_cons_zero, List.set_cons_succ, List.getElem_toArray, List.getElem_cons_zero, List.getElem_cons_succ]
                          refine wpAnyH_take (i := 44) (v := ?_) rfl (by kernel_rfl) (by kernel_rfl) (by kernel_rfl) (fun _ _ _ h => h) (Or.inl ⟨by rfl, ?_⟩) (by assumption) ?_
                          rotate_left 1
                          · intro w ⟨s0, s1, s2, s3, s4, s5, s6, s7, s8, s9, s10, s11, s12, s13, s14, s15, s16, s17, s18⟩
                            go_simp
                            all_goals with_reducible rfl
                          simp only [Act.put, List.setIfInBounds_toArray, List.set_cons_zero, List.set_cons_succ, List.getElem_toArray, List.getElem_cons_zero, List.getElem_cons_succ]
                          refine wpAnyH_done (by kernel_rfl) ?_ _
                          go_wp2
                          go_meet
                          exact ⟨by rw [HR.out], HC3.out⟩
                        · have h4' : (x.k == y.k) = false := by simp [h4]
                          have HR : Hid (bk = false) := by show bk = false; rw [HPr.out, h4']; simp
                          clear HPr h1 h2 h3 h4
                          go_big_quiet (fail)
                          go_wp2
                          go_meet
                          exact ⟨by rw [HR.out], below_drewN (Below.refl _ _) _⟩
                      · have h3' : (x.p == y.p) = false := by simp [h3]
                        have HR : Hid (bk = false) := by show bk = false; rw [HPr.out, h3']; simp
                        clear HPr h1 h2 h3
                        go_big_quiet (fail)
                        go_wp2
                        go_meet
                        exact ⟨by rw [HR.out], below_drewN (Below.refl _ _) _⟩
                    · have h2' : (y.d == gb) = false := by simp [h2]
                      have HR : Hid (bk = false) := by show bk = false; rw [HPr.out, h2']; simp
                      clear HPr h1 h2
                      go_big_quiet (fail)
                      go_wp2
                      go_meet
                      exact ⟨by rw [HR.out], below_drewN (Below.refl _ _) _⟩
                  · have h1' : (x.d == ga) = false := by simp [h1]
                    have HR : Hid (bk = false) := by show bk = false; rw [HPr.out, h1']; simp
                    clear HPr h1
                    go_big_quiet (fail)
                    go_wp2
                    go_meet
                    exact ⟨by rw [HR.out], below_drewN (Below.refl _ _) _⟩
                case rest =>
                  obtain ⟨rfl, hbx2⟩ := hcut
                  have HRD := hideIt (HRC.out.below hbx2)
                  cases bk
                  · have R1 : Hid (RbAt w _ w.heap.size u5 (brkI l V) q Gb Fb (prOf (firstP (consB (brkB l V q) k i) l.length))) := HRD.out.turn (by rw [cons_skip hbk])
                    go_wp2
                    go_roundw
                    case rel => exact ⟨_, ⟨i, by omega, by go_num, R1.out⟩, rfl, HGA.out.symm, HGB.out.symm⟩
                    case measure => first | (simp [intOf]; done) | (simp [intOf]; omega)
                  · obtain ⟨f1, f2⟩ := HRD.out.fb
                    have f3 := HRD.out.fz
                    have R1 : Hid (RbAt w _ w.heap.size u5 (brkI l V) q Gb Fb (prOf (firstP (consB (brkB l V q) k i) l.length))) := (HRD.out.put (i : Int) (k : Int)).turn (cons_found hkl hil hbk).symm
                    go_wp2
                    go_roundw
                    case rel => exact ⟨_, ⟨i, by omega, by go_num, R1.out⟩, rfl, HGA.out.symm, HGB.out.symm⟩
                    case measure => first | (simp [intOf]; done) | (simp [intOf]; omega)
    · obtain rfl : q = 4 := by omega
      go_wp2
      go_ret
      exact ⟨_, rfl, ⟨HOut.out.1, HOut.out.2.imp id fun ⟨g, cp, cur, h1, h2, h3⟩ => ⟨g, cp, cur, h1, by omega, h3⟩⟩, HB1.out⟩

theorem rBroken_any (l : List Opn) (V : List (List Int)) (so : SOk l V) (a : Option Addr) (cap : Nat) (v : Value) (w : World) (hl : OpsQ w a l) (hcap : l.length ≤ cap) (hv : VersAt w v V) (hs : ShortV V) :
    Calls Tryd.prog 21 #[.slice a l.length cap, v] w fun e w' => ∃ v', e = .returned v' ∧ w'.ownsRow w.heap.size 57 2 v' 4 (flatP (brkI l V) 4) ∧ Below w.heap.size w w' := by
  obtain ⟨vb, vof, vc, rfl, _, _, _⟩ := hv.row so.eight
  exact rBroken_some l V so a cap vb vof vc w hl hcap hv hs

end Go.Proofs.YtfojmbbhcmeejaaDoor
