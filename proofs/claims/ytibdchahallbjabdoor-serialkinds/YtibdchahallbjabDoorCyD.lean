/-
  The document's Cycle, walked.
-/
import Derived.Test.YtibdchahallbjabDoorCyW
namespace Go.Proofs.YtibdchahallbjabDoor
open Go.RowKit

section
variable {a : Option Addr} {n cap m : Nat} {w0 w w' : World} {G N F : Nat} {way : List Nat} {fv : Value}
theorem CyBx.put (h : CyBx a n cap m w0 G N F w fv) (ok : CyOk w0 G N F) (v : Value) : CyBx a n cap m w0 G N F (w.setCell ⟨F + 1, 0, none⟩ v) fv ∧ (w.setCell ⟨F + 1, 0, none⟩ v).cell? ⟨F + 1, 0, none⟩ = some v := by
  have h0 := ok.g0
  have h1 := ok.gn
  have h2 := ok.nf
  obtain ⟨c1, t1, e1⟩ := h.fb
  obtain ⟨c2, t2, e2⟩ := h.wb
  obtain ⟨c3, e3, _⟩ := heap_setCell e2 0 v
  obtain ⟨v0, hv0⟩ := h.wc
  have ho : ∀ b, b ≠ F + 1 → (w.setCell ⟨F + 1, 0, none⟩ v).cell? ⟨b, 0, none⟩ = w.cell? ⟨b, 0, none⟩ := fun b hb => World.cell?_setCell_other _ _ _ _ (blkNe (Ne.symm hb))
  have hs := World.cell?_setCell_same w ⟨F + 1, 0, none⟩ v hv0
  exact ⟨⟨h.bel.setCell (p := ⟨F + 1, 0, none⟩) (by show w0.heap.size ≤ F + 1; omega) v, (ho G (by omega)).trans h.gb, (ho N (by omega)).trans h.nb, ⟨c1, t1, (Below.heap_setCell w ⟨F + 1, 0, none⟩ v F (by show F ≠ F + 1; omega)).trans e1⟩, (ho F (by omega)).trans h.fc, ⟨c3, t2, e3⟩, ⟨v, hs⟩, (ho (F + 1 + 1) (by omega)).trans h.kc⟩, hs⟩
theorem CyBx.at (h : CyBx a n cap m w0 G N F w fv) {v : Value} (hv : w.cell? ⟨F + 1, 0, none⟩ = some v) (hr : RowAt w (F + 1 + 1 + 1) v (natI way)) : CyAt a n cap m w0 G N F w way fv := ⟨h.bel, h.gb, h.nb, h.fb, h.fc, h.wb, ⟨v, hv, hr⟩, h.kc⟩
end

/-- The number that a pointer points at. -/
def ptrN (w : World) (v : Value) : Nat := match v with
  | .pointer (some a) => match w.cell? a with
    | some (.int _ x) => x.toNat
    | _ => 0
  | _ => 0
theorem ptrN_at {w : World} {N : Nat} {m : Nat} (h : w.cell? ⟨N, 0, none⟩ = some (.int .i64 (m : Int))) : ptrN w (.pointer (some ⟨N, 0, none⟩)) = m := by
  simp [ptrN, h]
/-- What the document's Cycle tells. -/
def CdTold (R : List (List Bool)) (w : World) (e : Ending) (w' : World) : Prop :=
  ∃ v, e = .returned v ∧ ((cycD (gB R) R.length = none ∧ v = .slice none 0 0) ∨ ∃ c, cycD (gB R) R.length = some c ∧ HasI w' v (natI c)) ∧ Below w.heap.size w w'

set_option maxRecDepth 100000 in
set_option maxHeartbeats 4000000 in
theorem rCycle_any (R : List (List Bool)) (ok : ckG R = 0) (a : Option Addr) (cap : Nat) (w : World) (hg : GrQ w a R) :
    Calls Tryd.prog 26 #[.slice a R.length cap] w fun e w' => CdTold R w e w' := by
  have h40 := (ckG_ok ok).1
  have HD : Hid (cycD (gB R) R.length = (List.range R.length).findSome? fun m => cycL (gB R) R.length (m + 1)) := rfl
  have HLd : Hid (∀ m, cycL (gB R) R.length (m + 1) = (List.range R.length).findSome? fun i => cycW (gB R) R.length m [i]) := fun m => rfl
  have HWk : Hid (∀ (m : Nat), m < R.length → ∀ G N F, CyOk w G N F → ∀ (i : Nat) (fv : Value) (w' : World), i < R.length → CyAt a R.length cap (m + 1) w G N F w' [i] fv → Calls Tryd.prog 49 #[.pointer (some ⟨F + 1, 0, none⟩), .pointer (some ⟨N, 0, none⟩), .pointer (some ⟨G, 0, none⟩), .pointer (some ⟨F, 0, none⟩), .pointer (some ⟨F + 1 + 1, 0, none⟩)] w' fun e w'' => CyTold a R.length cap (m + 1) w G N F (gB R) m [i] fv e w'') := fun m hm G N F hok i fv w' hi hc =>
    walk_any R ok a cap (m + 1) w hg G N F hok (by omega) m [i] fv w' (by simp; omega) (by simp) (fun x hx => by rw [List.mem_singleton.1 hx]; exact hi) hc
  have HB0 : Hid (Below w.heap.size w ((w.alloc (.cells #[.slice a R.length cap] 54)).alloc (.cells #[.int .i64 1] 3))) := belA (belA (Below.refl _ _) _) _
  have x0 : ((w.alloc (.cells #[.slice a R.length cap] 54)).alloc (.cells #[.int .i64 1] 3)).cell? ⟨w.heap.size, 0, none⟩ = some (.slice a R.length cap) := by
    rw [World.cell?_alloc_lt _ _ ⟨w.heap.size, 0, none⟩ (by simp)]; simp
  have x1 : ((w.alloc (.cells #[.slice a R.length cap] 54)).alloc (.cells #[.int .i64 1] 3)).cell? ⟨w.heap.size + 1, 0, none⟩ = some (.int .i64 ((0 + 1 : Nat) : Int)) := by
    have := heap_alloc_new (w.alloc (.cells #[.slice a R.length cap] 54)) (.cells #[.int .i64 1] 3)
    rw [World.size_alloc] at this
    rw [cell_of_row _ _ 0 _ 3 _ this]; rfl
  have X0 := hideIt x0
  have X1 := hideIt x1
  clear hg ok x0 x1
  unfold CdTold
  generalize gB R = g at HD HLd HWk ⊢
  go_enter Tryd.func26, Tryd.ntmps26
  go_wp2
  generalize (w.alloc _).alloc _ = W at HB0 X0 X1 ⊢
  go_loopw [3] (fun p wr => ∃ (m N : Nat), m ≤ R.length ∧ p = .pointer (some ⟨N, 0, none⟩) ∧ w.heap.size < N ∧ wr.cell? ⟨N, 0, none⟩ = some (.int .i64 ((m + 1 : Nat) : Int)) ∧ wr.cell? ⟨w.heap.size, 0, none⟩ = some (.slice a R.length cap) ∧ (∀ j, j < m → cycL g R.length (j + 1) = none) ∧ Below w.heap.size w wr) (fun p wr => R.length + 1 - ptrN wr p)
  case atStart => exact ⟨0, w.heap.size + 1, Nat.zero_le _, rfl, by omega, X1.out, X0.out, fun j hj => absurd hj (by omega), HB0.out⟩
  case round =>
    clear HB0 X0 X1
    obtain ⟨m, N, hm, rfl, hN, x1, x0, hno, hb⟩ := hrel
    have HNo := hideIt hno
    have HB := hideIt hb
    have HX1 := hideIt x1
    have HX0 := hideIt x0
    have HPt := hideIt (ptrN_at x1)
    clear hno hb
    by_cases hmn : m < R.length
    · have hmn' : ((m + 1 : Nat) : Int) ≤ R.length := by omega
      go_upto_region 8 with fail
      have hNl : N < wr.heap.size := World.block_lt_of_cell? wr _ x1
      have hGl : w.heap.size < wr.heap.size := by omega
      have HBx : Hid (CyBx a R.length cap (m + 1) w w.heap.size N wr.heap.size (((wr.alloc (.cells #[.slice none 0 0] 29)).alloc (.cells #[.slice none 0 0] 29)).alloc (.cells #[.func (Fn.func 49) #[] #[.pointer (some ⟨wr.heap.size + 1, 0, none⟩), .pointer (some ⟨N, 0, none⟩), .pointer (some ⟨w.heap.size, 0, none⟩), .pointer (some ⟨wr.heap.size, 0, none⟩), .pointer (some ⟨wr.heap.size + 1 + 1, 0, none⟩)]] 51)) (.slice none 0 0)) := by
        obtain ⟨W1, hW1⟩ : ∃ W1, W1 = wr.alloc (.cells #[.slice none 0 0] 29) := ⟨_, rfl⟩
        obtain ⟨W2, hW2⟩ : ∃ W2, W2 = W1.alloc (.cells #[.slice none 0 0] 29) := ⟨_, rfl⟩
        have s1 : W1.heap.size = wr.heap.size + 1 := by rw [hW1]; simp
        have s2 : W2.heap.size = wr.heap.size + 1 + 1 := by rw [hW2, World.size_alloc, s1]
        have b1 : Below wr.heap.size wr W1 := by rw [hW1]; exact belA (Below.refl _ _) _
        have b2 : Below W1.heap.size W1 W2 := by rw [hW2]; exact belA (Below.refl _ _) _
        have f1 : W1.heap[wr.heap.size]? = some (.cells #[.slice none 0 0] 29 (0, 0)) := by rw [hW1]; exact heap_alloc_new wr _
        have f2 : W2.heap[wr.heap.size + 1]? = some (.cells #[.slice none 0 0] 29 (0, 0)) := by rw [hW2, ← s1]; exact heap_alloc_new W1 _
        rw [← hW1, ← hW2]
        have b3 : Below W2.heap.size W2 (W2.alloc (.cells #[.func (Fn.func 49) #[] #[.pointer (some ⟨wr.heap.size + 1, 0, none⟩), .pointer (some ⟨N, 0, none⟩), .pointer (some ⟨w.heap.size, 0, none⟩), .pointer (some ⟨wr.heap.size, 0, none⟩), .pointer (some ⟨wr.heap.size + 1 + 1, 0, none⟩)]] 51)) := belA (Below.refl _ _) _
        have f3 := heap_alloc_new W2 (.cells #[.func (Fn.func 49) #[] #[.pointer (some ⟨wr.heap.size + 1, 0, none⟩), .pointer (some ⟨N, 0, none⟩), .pointer (some ⟨w.heap.size, 0, none⟩), .pointer (some ⟨wr.heap.size, 0, none⟩), .pointer (some ⟨wr.heap.size + 1 + 1, 0, none⟩)]] 51)
        rw [s2] at f3
        have g1 := (b3.block wr.heap.size (by omega)).trans ((b2.block wr.heap.size (by omega)).trans f1)
        have g2 := (b3.block (wr.heap.size + 1) (by omega)).trans f2
        have hbb := belJ (belJ b1 b2) b3
        refine ⟨belJ HB.out hbb, (hbb.cell (p := ⟨w.heap.size, 0, none⟩) hGl).trans HX0.out, (hbb.cell (p := ⟨N, 0, none⟩) hNl).trans HX1.out, ⟨_, _, g1⟩, ?_, ⟨_, _, g2⟩, ⟨.slice none 0 0, ?_⟩, ?_⟩
        · rw [cell_of_row _ _ 0 _ 29 _ g1]; rfl
        · rw [cell_of_row _ _ 0 _ 29 _ g2]; rfl
        · rw [cell_of_row _ _ 0 _ 51 _ f3]; rfl
      have HOk : Hid (CyOk w w.heap.size N wr.heap.size) := ⟨Nat.le_refl _, hN, hNl⟩
      clear HB HX1 HX0 x0 x1
      generalize ((wr.alloc _).alloc _).alloc _ = W4 at HBx ⊢
      generalize wr.heap.size = F at HBx HOk hNl hGl ⊢
      have x0 := HBx.out.gb
      rw [show decide ((m : Int) + 1 ≤ (R.length : Int)) = true from decide_eq_true (by omega)]
      go_wp2
      go_loopw [17] (fun v wz => ∃ i : Nat, i ≤ R.length ∧ v = .int .i64 i ∧ (∀ j, j < i → cycW g R.length m [j] = none) ∧ CyBx a R.length cap (m + 1) w w.heap.size N F wz (.slice none 0 0)) (fun v _ => R.length - (intOf v).toNat)
      case atStart => exact ⟨0, Nat.zero_le _, rfl, fun j hj => absurd hj (by omega), HBx.out⟩
      case round =>
        clear HBx x0
        obtain ⟨i, hi, rfl, hno2, hbx⟩ := hrel
        have HNo2 := hideIt hno2
        have HBx := hideIt hbx
        clear hno2 hbx
        by_cases hin : i < R.length
        · have hin' : (i : Int) < R.length := by omega
          obtain ⟨vo, hvo⟩ := HBx.out.wc
          have zvo := HBx.out.fzW
          have hFs : F + 1 + 1 < wr.heap.size := World.block_lt_of_cell? wr _ HBx.out.kc
          have hF1 : F + 1 < wr.heap.size := by omega
          have hFn : ¬ F + 1 = wr.heap.size := by omega
          have hFn' : ¬ wr.heap.size = F + 1 := by omega
          have HC1 : Hid (CyAt a R.length cap (m + 1) w w.heap.size N F ((wr.setCell ⟨F + 1, 0, none⟩ (.slice (some ⟨wr.heap.size, 0, none⟩) 1 1)).alloc (.cells #[.int .i64 (i : Int)] 3)) [i] (.slice none 0 0)) := by
            obtain ⟨hp, hcell⟩ := HBx.out.put HOk.out (.slice (some ⟨wr.heap.size, 0, none⟩) 1 1)
            have hss : (wr.setCell ⟨F + 1, 0, none⟩ (.slice (some ⟨wr.heap.size, 0, none⟩) 1 1)).heap.size = wr.heap.size := by simp
            have hb1 := belA (Below.refl _ (wr.setCell ⟨F + 1, 0, none⟩ (.slice (some ⟨wr.heap.size, 0, none⟩) 1 1))) (.cells #[.int .i64 (i : Int)] 3)
            have hbx1 := hp.kept (fun b hb => hb1.block b (by rw [hss]; omega)) (belJ hp.bel hb1) HOk.out
            have hnew := heap_alloc_new (wr.setCell ⟨F + 1, 0, none⟩ (.slice (some ⟨wr.heap.size, 0, none⟩) 1 1)) (.cells #[.int .i64 (i : Int)] 3)
            rw [hss] at hnew
            refine hbx1.at ((hb1.cell (p := ⟨F + 1, 0, none⟩) (by rw [hss]; exact hF1)).trans hcell) (.inr ⟨wr.heap.size, 0, 1, _, rfl, by omega, hnew, by simp [natI], by simp, by decide, fun j hj => ?_⟩)
            obtain rfl : j = 0 := by simp [natI] at hj; omega
            rw [cell_of_row _ _ _ _ 3 _ hnew]
            simp [natI]
          have HCall := hideIt (HWk.out m hmn w.heap.size N F HOk.out i _ _ hin HC1.out)
          have kk := HC1.out.kc
          have hFF : ¬ F + 1 = F + 1 + 1 := by omega
          have hFk : ¬ F + 1 + 1 = wr.heap.size := by omega
          have hFk2 : ¬ wr.heap.size = F + 1 + 1 := by omega
          have kkw := HBx.out.kc
          go_wp2_with fail
          refine HCall.out.mono ?_
          clear HCall kk kkw hvo zvo HC1
          rintro e w4 (⟨rfl, hnone, hc4⟩ | ⟨c, v4, way', rfl, hsome, hc4, hI4⟩)
          · have R1 : Hid (∀ j, j < i + 1 → cycW g R.length m [j] = none) := fun j hj => by
              by_cases e : j = i
              · subst e; exact hnone
              · exact HNo2.out j (by omega)
            have R2 := hideIt hc4.bx
            clear hnone hc4
            go_wp2
            go_roundw
            case rel => exact ⟨i + 1, by omega, by go_num, R1.out, R2.out⟩
            case measure => simp [intOf]; omega
          · have HS : Hid (cycD g R.length = some c) := by
              show cycD g R.length = some c
              rw [HD.out]
              refine findSome_at hmn ?_ HNo.out
              rw [HLd.out]
              exact findSome_at hin hsome HNo2.out
            have y0 := hc4.fc
            have HB4 := hideIt hc4.bel
            have HI4 := hideIt hI4
            obtain ⟨a7, c7, rfl, _⟩ := hI4
            clear hsome hc4
            go_wp2
            go_ret
            exact ⟨_, rfl, .inr ⟨c, HS.out, HI4.out⟩, HB4.out⟩
        · obtain rfl : i = R.length := by omega
          have R1 : Hid (∀ j, j < m + 1 → cycL g R.length (j + 1) = none) := fun j hj => by
            by_cases e : j = m
            · subst e
              rw [HLd.out]
              exact findSome_no HNo2.out
            · exact HNo.out j (by omega)
          have x1 := HBx.out.nb
          have x0 := HBx.out.gb
          have hgl2 : w.heap.size < wr.heap.size := World.block_lt_of_cell? wr _ x0
          have e2 : ((m : Int) + 1 + 1) = ((m + 1 + 1 : Nat) : Int) := by omega
          have HX2 : Hid ((wr.alloc (.cells #[.int .i64 ((m : Int) + 1 + 1)] 3)).cell? ⟨wr.heap.size, 0, none⟩ = some (.int .i64 ((m + 1 + 1 : Nat) : Int))) := by
            show _ = _
            rw [← e2]; simp
          have HX3 : Hid ((wr.alloc (.cells #[.int .i64 ((m : Int) + 1 + 1)] 3)).cell? ⟨w.heap.size, 0, none⟩ = some (.slice a R.length cap)) := (World.cell?_alloc_lt _ _ ⟨w.heap.size, 0, none⟩ hgl2).trans x0
          have HP2 := hideIt (ptrN_at HX2.out)
          have HB5 : Hid (Below w.heap.size w (wr.alloc (.cells #[.int .i64 ((m : Int) + 1 + 1)] 3))) := belA HBx.out.bel _
          clear e2
          go_wp2
          go_roundw
          case rel => exact ⟨m + 1, wr.heap.size, by omega, rfl, hgl2, HX2.out, HX3.out, R1.out, HB5.out⟩
          case measure =>
            have h1 := HP2.out
            have h2 := HPt.out
            rw [h1, h2]
            omega
    · obtain rfl : m = R.length := by omega
      have HN : Hid (cycD g R.length = none) := by
        show cycD g R.length = none
        rw [HD.out]
        exact findSome_no fun j hj => HNo.out j hj
      have hnn : ¬ ((R.length + 1 : Nat) : Int) ≤ R.length := by omega
      go_wp2
      go_ret
      exact ⟨_, rfl, .inl ⟨HN.out, rfl⟩, HB.out⟩
end Go.Proofs.YtibdchahallbjabDoor
