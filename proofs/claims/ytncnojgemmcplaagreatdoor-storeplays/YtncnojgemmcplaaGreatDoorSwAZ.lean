/-
  The program's store, walked: stamps, entries, who is busy, which node one is.
  The document's store, walked: less, Waiting, Drop, Double, Free.
-/
import Derived.Test.YtncnojgemmcplaaGreatDoorStNZ
import Derived.Test.YtncnojgemmcplaaGreatDoorAbX
namespace Go.Proofs.YtncnojgemmcplaaGreatDoor.St
open Go.RowKit

theorem results_one {fn : Func} {p : Tmp} {ty : TypeId} (h : fn.results = #[.cell p ty]) (tmps : Array Value) (w : World) (g : Nat) (v : Value)
    (hp : tmps.getD p undef = .pointer (some ⟨g, 0, none⟩)) (hl : (loadVar ty ⟨g, 0, none⟩).run Tryz.prog w = .ok v w) : (results fn tmps).run Tryz.prog w = .ok v w := by
  have hp' : tmps[p]?.getD undef = .pointer (some ⟨g, 0, none⟩) := by simpa using hp
  simp [results, h, hp', asAddr, hl]
theorem sizeEn : (Tryz.prog.info? 83).map (·.size) = some 3 := by kernel_rfl
theorem loadEn {w : World} {g o : Nat} {h : Hd} (hh : HdAt w g o h) : (loadVar 83 ⟨g, o, none⟩).run Tryz.prog w = .ok (.agg #[.int .i64 h.s.t, .int .i64 h.s.c, .int .i64 h.v]) w :=
  run_loadVar_mid w g o 83 [.int .i64 h.s.t, .int .i64 h.s.c, .int .i64 h.v] _ (fun j y hy => by
    obtain ⟨h0, h1, h2⟩ := hh
    match j with
    | 0 => simp at hy; subst hy; exact h0
    | 1 => simp at hy; subst hy; exact h1
    | 2 => simp at hy; subst hy; exact h2
    | j + 3 => simp at hy) Tryz.underlying83 rfl sizeEn
theorem blkHd {w : World} {g : Nat} {t : TypeId} {h : Hd} (hb : w.heap[g]? = some (.cells #[.int .i64 h.s.t, .int .i64 h.s.c, .int .i64 h.v] t)) : HdAt w g 0 h :=
  ⟨by rw [cell_of_row _ _ _ _ t _ hb]; rfl, by rw [cell_of_row _ _ _ _ t _ hb]; rfl, by rw [cell_of_row _ _ _ _ t _ hb]; rfl⟩

set_option maxRecDepth 100000 in
theorem less_any (a b : Smp) (w : World) : Calls Tryz.prog 120 #[.agg #[.int .i64 a.t, .int .i64 a.c], .agg #[.int .i64 b.t, .int .i64 b.c]] w fun e w' => e = .returned (.bool (decide (a.lt b))) ∧ Below w.heap.size w w' := by
  have HB := hideIt (belA (belA (Below.refl _ w) (.cells #[.int .i64 a.t, .int .i64 a.c] 60)) (.cells #[.int .i64 b.t, .int .i64 b.c] 60))
  by_cases h : a.t = b.t
  · have h1 : (a.t != b.t) = false := by simp [h]
    have HE : Hid (decide (a.lt b) = decide (a.c < b.c)) := decide_eq_decide.2 (by unfold Smp.lt; omega)
    generalize decide (a.lt b) = r at HE ⊢
    clear h
    go_enter Tryz.func120, Tryz.ntmps120
    go_wp2
    go_ret
    exact ⟨ret_bool HE.out.symm, HB.out⟩
  · have h1 : (a.t != b.t) = true := by simp [h]
    have HE : Hid (decide (a.lt b) = decide (a.t < b.t)) := decide_eq_decide.2 (by unfold Smp.lt; omega)
    generalize decide (a.lt b) = r at HE ⊢
    clear h
    go_enter Tryz.func120, Tryz.ntmps120
    go_wp2
    go_ret
    exact ⟨ret_bool HE.out.symm, HB.out⟩

set_option maxRecDepth 100000 in
theorem unwr_any (w : World) : Calls Tryz.prog 23 #[] w fun e w' => e = .returned (.agg #[.int .i64 hd0.s.t, .int .i64 hd0.s.c, .int .i64 hd0.v]) ∧ Below w.heap.size w w' := by
  have hb := heap_alloc_new w (.cells #[.int .i64 0, .int .i64 0, .int .i64 0] 83)
  have HB : Hid (Below w.heap.size w (w.alloc (.cells #[.int .i64 0, .int .i64 (-1), .int .i64 0] 83))) := belA (Below.refl _ _) _
  have HN : Hid (HdAt (w.alloc (.cells #[.int .i64 0, .int .i64 (-1), .int .i64 0] 83)) w.heap.size 0 hd0) := blkHd (h := hd0) (heap_alloc_new w _)
  clear hb
  go_enter Tryz.func23, Tryz.ntmps23
  go_wp2
  exact bodyPost_ret (results_one rfl _ _ _ _ rfl (loadEn HN.out)) rfl ⟨rfl, HB.out⟩

set_option maxRecDepth 100000 in
set_option maxHeartbeats 1000000 in
theorem newer_any (a b : Hd) (w : World) : Calls Tryz.prog 88 #[.agg #[.int .i64 a.s.t, .int .i64 a.s.c, .int .i64 a.v], .agg #[.int .i64 b.s.t, .int .i64 b.s.c, .int .i64 b.v]] w fun e w' => e = .returned (.agg #[.int .i64 (newerH a b).s.t, .int .i64 (newerH a b).s.c, .int .i64 (newerH a b).v]) ∧ Below w.heap.size w w' := by
  have HL := hideIt (fun Z => less_any a.s b.s Z)
  have HE : Hid (newerH a b = if decide (a.s.lt b.s) = true then b else a) := by show _ = _; unfold newerH; simp
  generalize newerH a b = r at HE ⊢
  generalize decide (a.s.lt b.s) = le at HE HL
  have b0 := heap_alloc_new w (.cells #[.int .i64 a.s.t, .int .i64 a.s.c, .int .i64 a.v] 83)
  have HB0 := hideIt (belA (belA (belA (Below.refl _ w) (.cells #[.int .i64 a.s.t, .int .i64 a.s.c, .int .i64 a.v] 83)) (.cells #[.int .i64 b.s.t, .int .i64 b.s.c, .int .i64 b.v] 83)) (.cells #[.int .i64 0, .int .i64 0, .int .i64 0] 83))
  have HX : Hid (∀ W, W = ((w.alloc (.cells #[.int .i64 a.s.t, .int .i64 a.s.c, .int .i64 a.v] 83)).alloc (.cells #[.int .i64 b.s.t, .int .i64 b.s.c, .int .i64 b.v] 83)).alloc (.cells #[.int .i64 0, .int .i64 0, .int .i64 0] 83) → W.heap[w.heap.size]? = some (.cells #[.int .i64 a.s.t, .int .i64 a.s.c, .int .i64 a.v] 83) ∧ W.heap[w.heap.size + 1]? = some (.cells #[.int .i64 b.s.t, .int .i64 b.s.c, .int .i64 b.v] 83) ∧ W.heap[w.heap.size + 1 + 1]? = some (.cells #[.int .i64 0, .int .i64 0, .int .i64 0] 83)) := fun W hW => by
    subst hW
    refine ⟨?_, ?_, ?_⟩
    · rw [Below.heap_alloc _ _ _ (by simp; omega), Below.heap_alloc _ _ _ (by simp)]; exact heap_alloc_new w _
    · rw [Below.heap_alloc _ _ _ (by simp)]
      have := heap_alloc_new (w.alloc (.cells #[.int .i64 a.s.t, .int .i64 a.s.c, .int .i64 a.v] 83)) (.cells #[.int .i64 b.s.t, .int .i64 b.s.c, .int .i64 b.v] 83)
      simpa using this
    · have := heap_alloc_new ((w.alloc (.cells #[.int .i64 a.s.t, .int .i64 a.s.c, .int .i64 a.v] 83)).alloc (.cells #[.int .i64 b.s.t, .int .i64 b.s.c, .int .i64 b.v] 83)) (.cells #[.int .i64 0, .int .i64 0, .int .i64 0] 83)
      simpa using this
  clear b0
  go_enter Tryz.func88, Tryz.ntmps88
  go_upto_region 1 with fail
  obtain ⟨x0, x1, x2⟩ := HX.out _ rfl
  generalize ((w.alloc _).alloc _).alloc _ = W0 at *
  have HX0 := hideIt x0
  have HX1 := hideIt x1
  have HX2 := hideIt x2
  obtain ⟨y0, y1, y2⟩ := blkHd (h := a) x0
  obtain ⟨z0, z1, z2⟩ := blkHd (h := b) x1
  clear x0 x1 x2 HX
  go_wp2_with fail
  refine (HL.out _).mono ?_
  rintro e W1 ⟨rfl, hb1⟩
  have e0 := (hb1.block _ (lt_of_heap HX0.out)).trans HX0.out
  have e1 := (hb1.block _ (lt_of_heap HX1.out)).trans HX1.out
  have e2 := (hb1.block _ (lt_of_heap HX2.out)).trans HX2.out
  have HB1 := hideIt (belJ HB0.out hb1)
  have HE2 := hideIt e2
  clear y0 y1 y2 z0 z1 z2
  obtain ⟨y0, y1, y2⟩ := blkHd (h := a) e0
  obtain ⟨z0, z1, z2⟩ := blkHd (h := b) e1
  obtain ⟨q0, q1, q2⟩ := blkHd (h := ⟨⟨0, 0⟩, 0⟩) e2
  have fz := fun j => frozen_of_row W1 (w.heap.size + 1 + 1) j _ 83 e2
  have hS : ∀ v0 v1 v2, (((W1.setCell ⟨w.heap.size + 1 + 1, 0, none⟩ v0).setCell ⟨w.heap.size + 1 + 1, 1, none⟩ v1).setCell ⟨w.heap.size + 1 + 1, 2, none⟩ v2).heap[w.heap.size + 1 + 1]? = some (.cells #[v0, v1, v2] 83) := fun v0 v1 v2 =>
    heap_setCell_same _ _ 2 _ 83 _ (heap_setCell_same _ _ 1 _ 83 _ (heap_setCell_same _ _ 0 _ 83 _ HE2.out))
  have HS := hideIt hS
  have HBs : Hid (∀ v0 v1 v2, Below w.heap.size w (((W1.setCell ⟨w.heap.size + 1 + 1, 0, none⟩ v0).setCell ⟨w.heap.size + 1 + 1, 1, none⟩ v1).setCell ⟨w.heap.size + 1 + 1, 2, none⟩ v2)) := fun v0 v1 v2 =>
    ((HB1.out.setCell (p := ⟨w.heap.size + 1 + 1, 0, none⟩) (show w.heap.size ≤ w.heap.size + 1 + 1 by omega) v0).setCell (p := ⟨w.heap.size + 1 + 1, 1, none⟩) (show w.heap.size ≤ w.heap.size + 1 + 1 by omega) v1).setCell (p := ⟨w.heap.size + 1 + 1, 2, none⟩) (show w.heap.size ≤ w.heap.size + 1 + 1 by omega) v2
  clear hS e0 e1 e2 hb1 HL HX0 HX1 HX2 HB0
  cases le
  · have hr : r = a := HE.out.trans (if_neg (by decide))
    have HR := hideIt hr
    go_wp2
    exact bodyPost_ret (results_one rfl _ _ _ _ rfl (loadEn (blkHd (h := a) (HS.out _ _ _)))) rfl ⟨by rw [HR.out], HBs.out _ _ _⟩
  · have hr : r = b := HE.out.trans (if_pos rfl)
    have HR := hideIt hr
    go_wp2
    exact bodyPost_ret (results_one rfl _ _ _ _ rfl (loadEn (blkHd (h := b) (HS.out _ _ _)))) rfl ⟨by rw [HR.out], HBs.out _ _ _⟩

section
variable {w0 W : World} {K : StK} {P : Pst}
set_option maxRecDepth 100000 in
theorem busyC_any (h : StoP w0 W K P) {i : Nat} (hi : i < P.k) : Calls Tryz.prog 57 #[.pointer (some ⟨K.C, i * 13, none⟩)] W fun e w' => e = .returned (.bool (P.cl i).busy) ∧ w' = W := by
  have c0 := (h.cx i hi).at_
  unfold Pcl.busy
  generalize (P.cl i).at_ = x at *
  clear h hi
  by_cases h1 : x = 1
  · have g1 : (x == 1) = true := by simp [h1]
    have HE : Hid ((decide (x = 1) || decide (x = 2)) = true) := by show _ = _; simp [h1]
    clear h1
    go_enter Tryz.func57, Tryz.ntmps57
    go_wp2
    go_ret
    exact ⟨ret_bool HE.out.symm, rfl⟩
  · have g1 : (x == 1) = false := by simp [h1]
    have HE : Hid ((decide (x = 1) || decide (x = 2)) = (x == 2)) := by show _ = _; simp [h1]; rfl
    clear h1
    go_enter Tryz.func57, Tryz.ntmps57
    go_wp2
    go_ret
    exact ⟨ret_bool HE.out.symm, rfl⟩

set_option maxRecDepth 100000 in
theorem hasC_any (h : StoP w0 W K P) (c : Int) : Calls Tryz.prog 40 #[.pointer (some ⟨K.B, 0, none⟩), .int .i64 c] W fun e w' => e = .returned (.bool (decide (0 ≤ c ∧ c < P.k))) ∧ w' = W := by
  have c8 := h.cells.2.2.2.2.1
  generalize hr : decide (0 ≤ c ∧ c < P.k) = r
  have HR := hideIt hr
  clear h hr
  by_cases h0 : 0 ≤ c
  · have g0 : decide (c ≥ 0) = true := decide_eq_true h0
    by_cases h1 : c < P.k
    · have g1 : decide (c < (P.k : Int)) = true := decide_eq_true h1
      have HE : Hid (r = true) := HR.out.symm.trans (decide_eq_true ⟨h0, h1⟩)
      go_enter Tryz.func40, Tryz.ntmps40
      go_wp2
      go_ret
      exact ⟨ret_bool HE.out.symm, rfl⟩
    · have g1 : decide (c < (P.k : Int)) = false := decide_eq_false h1
      have HE : Hid (r = false) := HR.out.symm.trans (decide_eq_false fun h => h1 h.2)
      go_enter Tryz.func40, Tryz.ntmps40
      go_wp2
      go_ret
      exact ⟨ret_bool HE.out.symm, rfl⟩
  · have g0 : decide (c ≥ 0) = false := decide_eq_false h0
    have HE : Hid (r = false) := HR.out.symm.trans (decide_eq_false fun h => h0 h.1)
    go_enter Tryz.func40, Tryz.ntmps40
    go_wp2
    go_ret
    exact ⟨ret_bool HE.out.symm, rfl⟩

set_option maxRecDepth 100000 in
set_option maxHeartbeats 1000000 in
theorem busyS_any (h : StoP w0 W K P) (hk8 : P.k ≤ 8) : Calls Tryz.prog 41 #[.pointer (some ⟨K.B, 0, none⟩)] W fun e w' => e = .returned (.int .i64 ((busyP P : Nat) : Int)) ∧ w' = W := by
  have c8 := h.cells.2.2.2.2.1
  have HC : Hid (∀ i, i < P.k → Calls Tryz.prog 57 #[.pointer (some ⟨K.C, i * 13, none⟩)] W fun e w' => e = .returned (.bool (P.cl i).busy) ∧ w' = W) := fun i hi => busyC_any h hi
  have HE : Hid (busyP P = (List.range P.k).countP fun j => (P.cl j).busy) := rfl
  generalize busyP P = r at HE ⊢
  clear h
  go_enter Tryz.func41, Tryz.ntmps41
  go_wp2
  go_loopw [10, 3] (fun v cv wr => ∃ i : Nat, i ≤ P.k ∧ v = .int .i64 i ∧ cv = .int .i64 (((List.range i).countP fun j => (P.cl j).busy : Nat) : Int) ∧ wr = W) (fun v _ _ => P.k - (intOf v).toNat)
  case atStart => exact ⟨0, Nat.zero_le _, rfl, rfl, rfl⟩
  case round =>
    obtain ⟨i, hi, rfl, rfl, rfl⟩ := hrel
    by_cases hik : i < P.k
    · have hik' : (i : Int) < P.k := by omega
      have hcl : ((List.range i).countP fun j => (P.cl j).busy) ≤ 8 := Nat.le_trans List.countP_le_length (by simp; omega)
      have HN : Hid (((List.range (i + 1)).countP fun j => (P.cl j).busy) = ((List.range i).countP fun j => (P.cl j).busy) + if (P.cl i).busy = true then 1 else 0) := by
        show _ = _
        rw [List.range_succ, List.countP_append, List.countP_singleton]
      have HCi := hideIt (HC.out i hik)
      generalize ((List.range i).countP fun j => (P.cl j).busy) = c0 at *
      generalize (P.cl i).busy = b at *
      go_wp2_with fail
      refine HCi.out.mono ?_
      rintro e w1 ⟨rfl, rfl⟩
      cases b
      · go_wp2
        go_roundw
        case rel => exact ⟨i + 1, by omega, by go_num, by rw [HN.out]; simp, trivial⟩
        case measure => simp [intOf]; omega
      · go_wp2
        go_roundw
        case rel => exact ⟨i + 1, by omega, by go_num, by rw [HN.out]; simp, trivial⟩
        case measure => simp [intOf]; omega
    · obtain rfl : i = P.k := by omega
      go_wp2
      go_ret
      exact ⟨ret_int (by rw [HE.out]), rfl⟩

set_option maxRecDepth 100000 in
set_option maxHeartbeats 1000000 in
theorem free_any (h : StoP w0 W K P) (hk8 : P.k ≤ 8) (hev : P.evs.length ≤ 9000) (c : Int) : Calls Tryz.prog 13 #[.pointer (some ⟨K.B, 0, none⟩), .int .i64 c] W fun e w' => e = .returned (toldE (freeP P c)) ∧ Below W.heap.size W w' := by
  have HH := hideIt (hasC_any h c)
  have c8 := h.cells.2.2.2.2.1
  have c9 := h.cells.2.2.2.2.2.1
  obtain ⟨ea, ec, ee⟩ := ownsRow_slice h.ev
  rw [ee] at c9
  have HBy : Hid (∀ q : Nat, Calls Tryz.prog 41 #[.pointer (some ⟨K.B, 0, none⟩)] (W.drewN q) fun e w' => e = .returned (.int .i64 ((busyP P : Nat) : Int)) ∧ w' = W.drewN q) := fun q => busyS_any (h.below (below_drewN (Below.refl _ _) q)) hk8
  by_cases h0 : 0 ≤ c ∧ c < P.k
  · rw [decide_eq_true h0] at HH
    obtain ⟨i, rfl⟩ : ∃ i : Nat, c = i := ⟨c.toNat, by omega⟩
    have hik : i < P.k := by omega
    have hik' : (i : Int) < P.k := by omega
    have a0 := (h.cx i hik).at_
    have HF : Hid (freeP P i = if (P.cl i).at_ ≠ 0 then 6 else if 120 < P.evs.length + 2 + busyP P then 4 else 0) := by
      show _ = _
      unfold freeP
      rw [if_neg (by omega), Int.toNat_natCast]
    have hbl : busyP P ≤ 8 := Nat.le_trans List.countP_le_length (by simp; omega)
    generalize freeP P i = f at HF ⊢
    generalize (P.cl i).at_ = x at *
    generalize busyP P = by_ at *
    generalize P.evs.length = el at *
    clear h
    by_cases hx : x = 0
    · have g1 : (x != 0) = false := by simp [hx]
      have HF2 : Hid (f = if 120 < el + 2 + by_ then 4 else 0) := HF.out.trans (if_neg (by simp [hx]))
      clear hx HF
      go_enter Tryz.func13, Tryz.ntmps13
      go_wp2_with fail
      refine HH.out.mono ?_
      rintro e w1 ⟨rfl, rfl⟩
      by_cases h120 : 120 < el + 2 + by_
      · have g2 : decide ((el : Int) + 2 + (by_ : Int) > 120) = true := decide_eq_true (by omega)
        have HF3 : Hid (f = 4) := HF2.out.trans (if_pos h120)
        go_wp2_with fail
        go_quiet ((go_at_call 41; exact Calls.quiet_of_same (HBy.out _)))
        go_wp2
        go_ret
        exact ⟨by rw [HF3.out]; rfl, below_drewN (Below.refl _ _) _⟩
      · have g2 : decide ((el : Int) + 2 + (by_ : Int) > 120) = false := decide_eq_false (by omega)
        have HF3 : Hid (f = 0) := HF2.out.trans (if_neg h120)
        go_wp2_with fail
        go_quiet ((go_at_call 41; exact Calls.quiet_of_same (HBy.out _)))
        go_wp2
        go_ret
        exact ⟨by rw [HF3.out]; rfl, below_drewN (Below.refl _ _) _⟩
    · have g1 : (x != 0) = true := by simp [hx]
      have HF2 : Hid (f = 6) := HF.out.trans (if_pos hx)
      clear hx
      go_enter Tryz.func13, Tryz.ntmps13
      go_wp2_with fail
      refine HH.out.mono ?_
      rintro e w1 ⟨rfl, rfl⟩
      go_wp2
      go_ret
      exact ⟨by rw [HF2.out]; rfl, Below.refl _ _⟩
  · rw [decide_eq_false h0] at HH
    have HF : Hid (freeP P c = 2) := by
      show _ = _
      unfold freeP
      rw [if_pos (by omega)]
    generalize freeP P c = f at HF ⊢
    clear h
    go_enter Tryz.func13, Tryz.ntmps13
    go_wp2_with fail
    refine HH.out.mono ?_
    rintro e w1 ⟨rfl, rfl⟩
    go_wp2
    go_ret
    exact ⟨by rw [HF.out]; rfl, Below.refl _ _⟩
end
end Go.Proofs.YtncnojgemmcplaaGreatDoor.St

namespace Go.Proofs.YtncnojgemmcplaaGreatDoor.St.Dc
open Go.RowKit

set_option maxRecDepth 100000 in
theorem less_any (a b : Smp) (w : World) : Calls Tryz.prog 69 #[.agg #[.int .i64 a.t, .int .i64 a.c], .agg #[.int .i64 b.t, .int .i64 b.c]] w fun e w' => e = .returned (.bool (decide (a.lt b))) ∧ Below w.heap.size w w' := by
  have HB := hideIt (belA (belA (Below.refl _ w) (.cells #[.int .i64 a.t, .int .i64 a.c] 61)) (.cells #[.int .i64 b.t, .int .i64 b.c] 61))
  by_cases h : a.t < b.t
  · have h1 : decide (a.t < b.t) = true := decide_eq_true h
    have HE : Hid (decide (a.lt b) = true) := decide_eq_true (.inl h)
    generalize decide (a.lt b) = r at HE ⊢
    clear h
    go_enter Tryz.func69, Tryz.ntmps69
    go_wp2
    go_ret
    exact ⟨ret_bool HE.out.symm, HB.out⟩
  have h1 : decide (a.t < b.t) = false := decide_eq_false h
  by_cases h2 : a.t = b.t
  · have h3 : (a.t == b.t) = true := by simp [h2]
    have HE : Hid (decide (a.lt b) = decide (a.c < b.c)) := decide_eq_decide.2 (by unfold Smp.lt; omega)
    generalize decide (a.lt b) = r at HE ⊢
    clear h h2
    go_enter Tryz.func69, Tryz.ntmps69
    go_wp2
    go_ret
    exact ⟨ret_bool HE.out.symm, HB.out⟩
  · have h3 : (a.t == b.t) = false := by simp [h2]
    have HE : Hid (decide (a.lt b) = false) := decide_eq_false (by unfold Smp.lt; omega)
    generalize decide (a.lt b) = r at HE ⊢
    clear h h2
    go_enter Tryz.func69, Tryz.ntmps69
    go_wp2
    go_ret
    exact ⟨ret_bool HE.out.symm, HB.out⟩
section
variable {w0 W W' : World} {K : DoK} {S : Sto}
/-- What is on its way, what the nodes have and who can talk stand beside. -/
theorem DoR.cast (h : DoR w0 W K S) (ms : List Ml) (hs : Int → Int → Hd) (lk : Int → Int → Bool) : DoR w0 W K { S with mails := ms, has := hs, links := lk } :=
  ⟨h.bel, fun p hp => by cases p <;> exact h.facts _ hp, h.lk, h.dc⟩
theorem DoPl.len (h : DoPl K S) : S.mails.length = K.L.length := by rw [h.ms]; simp
theorem map_erase {α β : Type} (f : α → β) : ∀ (l : List α) (i : Nat), (l.eraseIdx i).map f = (l.map f).eraseIdx i
  | [], _ => by simp
  | _ :: _, 0 => by simp
  | a :: l, i + 1 => by simp [map_erase f l i]
theorem grown_weak {W1 : World} {row : Option Nat} (h : W.grownBy W1 none) : W.grownBy W1 row := ⟨h.os, h.tape, h.output, h.size, fun k hk _ => h.block k hk (by simp)⟩
/-- One is gone. -/
theorem gone_told (h : DoR w0 W K S) (hp : DoPl K S) {i : Nat} (hi : i < K.L.length) (hg : GoneTold K.B 5 K.L i W W') : DoTold 0 w0 K S W { S with mails := S.mails.eraseIdx i } W' := by
  obtain ⟨v', w1, h1, rfl, h2⟩ := hg
  have hl : (K.L.eraseIdx i).length = K.L.length - 1 := by rw [List.length_eraseIdx_of_lt hi]
  rw [← hl] at h2
  obtain ⟨a, b⟩ := h.mail (L' := K.L.eraseIdx i) (grown_weak h1) (ownsRow_base h2 h.bel.size)
  exact ⟨_, a.cast _ _ _, ⟨by show S.mails.eraseIdx i = (K.L.eraseIdx i).map (mlOf K.lt); rw [map_erase, hp.ms], fun m hm => hp.wh m (List.mem_of_mem_eraseIdx hm), hp.hs, hp.fw, hp.lk⟩, Nat.le_refl _, b⟩
set_option maxRecDepth 100000 in
theorem waiting_any (h : DoR w0 W K S) (hp : DoPl K S) : Calls Tryz.prog 12 #[.pointer (some ⟨K.B, 0, none⟩)] W fun e w' => e = .returned (.int .i64 (S.mails.length : Int)) ∧ w' = W := by
  have c7 := h.cells.2.1.2.2
  obtain ⟨a, cap, e⟩ := h.net.slice
  rw [e] at c7
  rw [hp.len]
  clear h hp e
  go_enter Tryz.func12, Tryz.ntmps12
  go_wp2
  go_ret
  exact ⟨rfl, rfl⟩
set_option maxRecDepth 100000 in
set_option maxHeartbeats 1000000 in
theorem dropD_any (h : DoR w0 W K S) (hp : DoPl K S) (h5 : K.L.length ≤ 500) (i : Int) : Calls Tryz.prog 34 #[.pointer (some ⟨K.B, 0, none⟩), .int .i64 i] W fun e w' => e = .returned (.int .i64 (dropE S i)) ∧ DoTold 0 w0 K S W (if dropE S i ≠ 0 then S else { S with mails := S.mails.eraseIdx i.toNat }) w' := by
  have HD := hideIt (drop_any i _ _ _ _ _ _ _ h5 _ h.net)
  have HK : Hid (∀ e w', DropTold K.B 5 K.L i W e w' → e = .returned (.int .i64 (dropE S i)) ∧ DoTold 0 w0 K S W (if dropE S i ≠ 0 then S else { S with mails := S.mails.eraseIdx i.toNat }) w') := fun e w' hd => by
    have hlen := hp.len
    rcases hd with ⟨h1, rfl, rfl⟩ | ⟨hk, rfl, hg⟩
    · have e : dropE S i = 8 := by unfold dropE; rw [if_pos (by omega)]
      rw [e, if_pos (by decide)]
      exact ⟨rfl, K, h, hp, Nat.le_refl _, DFr.refl _ _ _⟩
    · have e : dropE S i = 0 := by unfold dropE; rw [if_neg (by omega)]
      rw [e, if_neg (fun h => h rfl)]
      exact ⟨rfl, gone_told h hp (by omega) hg⟩
  generalize dropE S i = ce at HK ⊢
  generalize (if ce ≠ 0 then S else { S with mails := S.mails.eraseIdx i.toNat }) = S' at HK ⊢
  clear h hp
  go_enter Tryz.func34, Tryz.ntmps34
  go_wp2_with fail
  refine HD.out.mono ?_
  intro e w1 hd
  obtain ⟨rfl, hT⟩ := HK.out e w1 hd
  have HT := hideIt hT
  clear hT hd HD HK
  go_wp2
  go_ret
  exact ⟨rfl, HT.out⟩
/-- A letter that is there goes once more. -/
theorem sent_same (h : DoR w0 W K S) (hp : DoPl K S) {m : Md} (hm : m ∈ K.L) {e : Ending} (hs : SendTold w0.heap.size K.B 5 K.vm K.L m W e W') : (e = .returned (.int .i64 4) ∧ 500 ≤ S.mails.length ∨ e = .returned (.int .i64 0) ∧ S.mails.length < 500) ∧ DoTold 0 w0 K S W { S with mails := sendL S.mails (mlOf K.lt m) } W' := by
  have hlen := hp.len
  rcases hs with ⟨h1, rfl, hb⟩ | ⟨h1, rfl, v', w1, hg, rfl, hr⟩
  · refine ⟨.inl ⟨rfl, by omega⟩, K, (h.below hb).cast _ _ _, ?_, Nat.le_refl _, DFr.below hb⟩
    unfold sendL
    rw [if_neg (by omega)]
    exact hp
  · have hl : (K.L ++ [m]).length = K.L.length + 1 := by simp
    rw [← hl] at hr
    obtain ⟨a, b⟩ := h.mail (L' := K.L ++ [m]) hg hr
    refine ⟨.inr ⟨rfl, by omega⟩, _, a.cast _ _ _, ⟨?_, fun x hx => ?_, hp.hs, hp.fw, hp.lk⟩, Nat.le_refl _, b⟩
    · show sendL S.mails (mlOf K.lt m) = (K.L ++ [m]).map (mlOf K.lt)
      unfold sendL
      rw [if_pos (by omega), hp.ms]
      simp
    · rcases List.mem_append.1 hx with hx | hx
      · exact hp.wh x hx
      · rw [List.mem_singleton.1 hx]; exact hp.wh m hm
set_option maxRecDepth 100000 in
set_option maxHeartbeats 1000000 in
theorem doubD_any (h : DoR w0 W K S) (hp : DoPl K S) (h5 : K.L.length ≤ 500) (i : Int) : Calls Tryz.prog 35 #[.pointer (some ⟨K.B, 0, none⟩), .int .i64 i] W fun e w' => e = .returned (.int .i64 (doubE S i)) ∧ DoTold 0 w0 K S W (if doubE S i ≠ 0 then S else doubS S i) w' := by
  have HD := hideIt (double_any i _ _ _ _ _ _ _ h5 _ h.net)
  have HK : Hid (∀ e w', DoubTold w0.heap.size K.B 5 K.vm K.L i W e w' → e = .returned (.int .i64 (doubE S i)) ∧ DoTold 0 w0 K S W (if doubE S i ≠ 0 then S else doubS S i) w') := fun e w' hd => by
    have hlen := hp.len
    rcases hd with ⟨h1, rfl, rfl⟩ | ⟨k, m, rfl, hk, hs⟩
    · have e : doubE S i = 8 := by unfold doubE; rw [if_pos (by omega)]
      rw [e, if_pos (by decide)]
      exact ⟨rfl, K, h, hp, Nat.le_refl _, DFr.refl _ _ _⟩
    · have hkl : k < K.L.length := (List.getElem?_eq_some_iff.1 hk).1
      have hx : S.mails[k]? = some (mlOf K.lt m) := by rw [hp.ms, List.getElem?_map, hk]; rfl
      have hd : doubS S (k : Int) = { S with mails := sendL S.mails (mlOf K.lt m) } := by
        unfold doubS
        rw [Int.toNat_natCast, hx]
      obtain ⟨h1, h2⟩ := sent_same h hp (List.mem_of_getElem? hk) hs
      rcases h1 with ⟨rfl, h1⟩ | ⟨rfl, h1⟩
      · have e : doubE S (k : Int) = 4 := by unfold doubE; rw [if_neg (by omega), if_pos h1]
        rw [e, if_pos (by decide)]
        refine ⟨rfl, ?_⟩
        have e2 : sendL S.mails (mlOf K.lt m) = S.mails := by unfold sendL; rw [if_neg (by omega)]
        rw [e2] at h2
        exact h2
      · have e : doubE S (k : Int) = 0 := by unfold doubE; rw [if_neg (by omega), if_neg (by omega)]
        rw [e, if_neg (fun h => h rfl), hd]
        exact ⟨rfl, h2⟩
  generalize doubE S i = ce at HK ⊢
  generalize (if ce ≠ 0 then S else doubS S i) = S' at HK ⊢
  clear h hp
  go_enter Tryz.func35, Tryz.ntmps35
  go_wp2_with fail
  refine HD.out.mono ?_
  intro e w1 hd
  obtain ⟨rfl, hT⟩ := HK.out e w1 hd
  have HT := hideIt hT
  clear hT hd HD HK
  go_wp2
  go_ret
  exact ⟨rfl, HT.out⟩
end
end Go.Proofs.YtncnojgemmcplaaGreatDoor.St.Dc
