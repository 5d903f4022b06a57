/-
  The program's store, walked: stamps, entries, who is busy, which node one is.
  The program's store, walked: see, send, goRound.
  The program's store, walked: goRound.
  The program's store: a client's parts; done, asked, GiveUp, Begin, walked.
-/
import Derived.Test.YtncnojgemmcplaaGreatDoorStMZ
namespace Go.Proofs.YtncnojgemmcplaaGreatDoor.St
open Go.RowKit

theorem results_one {fn : Func} {p : Tmp} {ty : TypeId} (h : fn.results = #[.cell p ty]) (tmps : Array Value) (w : World) (g : Nat) (v : Value)
    (hp : tmps.getD p undef = .pointer (some ⟨g, 0, none⟩)) (hl : (loadVar ty ⟨g, 0, none⟩).run Tryz.prog w = .ok v w) : (results fn tmps).run Tryz.prog w = .ok v w := by
  have hp' : tmps[p]?.getD undef = .pointer (some ⟨g, 0, none⟩) := by simpa using hp
  simp [results, h, hp', asAddr, hl]
theorem sizeEn : (Tryz.prog.info? 83).map (·.size) = some 3 := by kernel_rfl
theorem loadEn {w : World} {g o : Nat} {h : Hd} (hh : HdAt w g o h) : (loadVar 83 ⟨g, o, none⟩).run Tryz.prog w = .ok (.agg #[.int .i64 h.s.t, .int .i64 h.s.c, .int .i64 h.v]) w :=
  run_loadVar_mid w g o 83 [.int .i64 h.s.t, .int .i64 h.s.c, .int .i64 h.v] _ (fun j y hy => by
    obtain ⟨h0, h1, h2⟩ := hh
    match j with
    | 0 => simp at hy; subst hy; exact h0
    | 1 => simp at hy; subst hy; exact h1
    | 2 => simp at hy; subst hy; exact h2
    | j + 3 => simp at hy) Tryz.underlying83 rfl sizeEn
theorem blkHd {w : World} {g : Nat} {t : TypeId} {h : Hd} (hb : w.heap[g]? = some (.cells #[.int .i64 h.s.t, .int .i64 h.s.c, .int .i64 h.v] t)) : HdAt w g 0 h :=
  ⟨by rw [cell_of_row _ _ _ _ t _ hb]; rfl, by rw [cell_of_row _ _ _ _ t _ hb]; rfl, by rw [cell_of_row _ _ _ _ t _ hb]; rfl⟩

set_option maxRecDepth 100000 in
theorem less_any (a b : Smp) (w : World) : Calls Tryz.prog 120 #[.agg #[.int .i64 a.t, .int .i64 a.c], .agg #[.int .i64 b.t, .int .i64 b.c]] w fun e w' => e = .returned (.bool (decide (a.lt b))) ∧ Below w.heap.size w w' := by
  have HB := hideIt (belA (belA (Below.refl _ w) (.cells #[.int .i64 a.t, .int .i64 a.c] 60)) (.cells #[.int .i64 b.t, .int .i64 b.c] 60))
  by_cases h : a.t = b.t
  · have h1 : (a.t != b.t) = false := by simp [h]
    have HE : Hid (decide (a.lt b) = decide (a.c < b.c)) := decide_eq_decide.2 (by unfold Smp.lt; omega)
    generalize decide (a.lt b) = r at HE ⊢
    clear h
    go_enter Tryz.func120, Tryz.ntmps120
    go_wp2
    go_ret
    exact ⟨ret_bool HE.out.symm, HB.out⟩
  · have h1 : (a.t != b.t) = true := by simp [h]
    have HE : Hid (decide (a.lt b) = decide (a.t < b.t)) := decide_eq_decide.2 (by unfold Smp.lt; omega)
    generalize decide (a.lt b) = r at HE ⊢
    clear h
    go_enter Tryz.func120, Tryz.ntmps120
    go_wp2
    go_ret
    exact ⟨ret_bool HE.out.symm, HB.out⟩

set_option maxRecDepth 100000 in
theorem unwr_any (w : World) : Calls Tryz.prog 23 #[] w fun e w' => e = .returned (.agg #[.int .i64 hd0.s.t, .int .i64 hd0.s.c, .int .i64 hd0.v]) ∧ Below w.heap.size w w' := by
  have hb := heap_alloc_new w (.cells #[.int .i64 0, .int .i64 0, .int .i64 0] 83)
  have HB : Hid (Below w.heap.size w (w.alloc (.cells #[.int .i64 0, .int .i64 (-1), .int .i64 0] 83))) := belA (Below.refl _ _) _
  have HN : Hid (HdAt (w.alloc (.cells #[.int .i64 0, .int .i64 (-1), .int .i64 0] 83)) w.heap.size 0 hd0) := blkHd (h := hd0) (heap_alloc_new w _)
  clear hb
  go_enter Tryz.func23, Tryz.ntmps23
  go_wp2
  exact bodyPost_ret (results_one rfl _ _ _ _ rfl (loadEn HN.out)) rfl ⟨rfl, HB.out⟩

set_option maxRecDepth 100000 in
set_option maxHeartbeats 1000000 in
theorem newer_any (a b : Hd) (w : World) : Calls Tryz.prog 88 #[.agg #[.int .i64 a.s.t, .int .i64 a.s.c, .int .i64 a.v], .agg #[.int .i64 b.s.t, .int .i64 b.s.c, .int .i64 b.v]] w fun e w' => e = .returned (.agg #[.int .i64 (newerH a b).s.t, .int .i64 (newerH a b).s.c, .int .i64 (newerH a b).v]) ∧ Below w.heap.size w w' := by
  have HL := hideIt (fun Z => less_any a.s b.s Z)
  have HE : Hid (newerH a b = if decide (a.s.lt b.s) = true then b else a) := by show _ = _; unfold newerH; simp
  generalize newerH a b = r at HE ⊢
  generalize decide (a.s.lt b.s) = le at HE HL
  have b0 := heap_alloc_new w (.cells #[.int .i64 a.s.t, .int .i64 a.s.c, .int .i64 a.v] 83)
  have HB0 := hideIt (belA (belA (belA (Below.refl _ w) (.cells #[.int .i64 a.s.t, .int .i64 a.s.c, .int .i64 a.v] 83)) (.cells #[.int .i64 b.s.t, .int .i64 b.s.c, .int .i64 b.v] 83)) (.cells #[.int .i64 0, .int .i64 0, .int .i64 0] 83))
  have HX : Hid (∀ W, W = ((w.alloc (.cells #[.int .i64 a.s.t, .int .i64 a.s.c, .int .i64 a.v] 83)).alloc (.cells #[.int .i64 b.s.t, .int .i64 b.s.c, .int .i64 b.v] 83)).alloc (.cells #[.int .i64 0, .int .i64 0, .int .i64 0] 83) → W.heap[w.heap.size]? = some (.cells #[.int .i64 a.s.t, .int .i64 a.s.c, .int .i64 a.v] 83) ∧ W.heap[w.heap.size + 1]? = some (.cells #[.int .i64 b.s.t, .int .i64 b.s.c, .int .i64 b.v] 83) ∧ W.heap[w.heap.size + 1 + 1]? = some (.cells #[.int .i64 0, .int .i64 0, .int .i64 0] 83)) := fun W hW => by
    subst hW
    refine ⟨?_, ?_, ?_⟩
    · rw [Below.heap_alloc _ _ _ (by simp; omega), Below.heap_alloc _ _ _ (by simp)]; exact heap_alloc_new w _
    · rw [Below.heap_alloc _ _ _ (by simp)]
      have := heap_alloc_new (w.alloc (.cells #[.int .i64 a.s.t, .int .i64 a.s.c, .int .i64 a.v] 83)) (.cells #[.int .i64 b.s.t, .int .i64 b.s.c, .int .i64 b.v] 83)
      simpa using this
    · have := heap_alloc_new ((w.alloc (.cells #[.int .i64 a.s.t, .int .i64 a.s.c, .int .i64 a.v] 83)).alloc (.cells #[.int .i64 b.s.t, .int .i64 b.s.c, .int .i64 b.v] 83)) (.cells #[.int .i64 0, .int .i64 0, .int .i64 0] 83)
      simpa using this
  clear b0
  go_enter Tryz.func88, Tryz.ntmps88
  go_upto_region 1 with fail
  obtain ⟨x0, x1, x2⟩ := HX.out _ rfl
  generalize ((w.alloc _).alloc _).alloc _ = W0 at *
  have HX0 := hideIt x0
  have HX1 := hideIt x1
  have HX2 := hideIt x2
  obtain ⟨y0, y1, y2⟩ := blkHd (h := a) x0
  obtain ⟨z0, z1, z2⟩ := blkHd (h := b) x1
  clear x0 x1 x2 HX
  go_wp2_with fail
  refine (HL.out _).mono ?_
  rintro e W1 ⟨rfl, hb1⟩
  have e0 := (hb1.block _ (lt_of_heap HX0.out)).trans HX0.out
  have e1 := (hb1.block _ (lt_of_heap HX1.out)).trans HX1.out
  have e2 := (hb1.block _ (lt_of_heap HX2.out)).trans HX2.out
  have HB1 := hideIt (belJ HB0.out hb1)
  have HE2 := hideIt e2
  clear y0 y1 y2 z0 z1 z2
  obtain ⟨y0, y1, y2⟩ := blkHd (h := a) e0
  obtain ⟨z0, z1, z2⟩ := blkHd (h := b) e1
  obtain ⟨q0, q1, q2⟩ := blkHd (h := ⟨⟨0, 0⟩, 0⟩) e2
  have fz := fun j => frozen_of_row W1 (w.heap.size + 1 + 1) j _ 83 e2
  have hS : ∀ v0 v1 v2, (((W1.setCell ⟨w.heap.size + 1 + 1, 0, none⟩ v0).setCell ⟨w.heap.size + 1 + 1, 1, none⟩ v1).setCell ⟨w.heap.size + 1 + 1, 2, none⟩ v2).heap[w.heap.size + 1 + 1]? = some (.cells #[v0, v1, v2] 83) := fun v0 v1 v2 =>
    heap_setCell_same _ _ 2 _ 83 _ (heap_setCell_same _ _ 1 _ 83 _ (heap_setCell_same _ _ 0 _ 83 _ HE2.out))
  have HS := hideIt hS
  have HBs : Hid (∀ v0 v1 v2, Below w.heap.size w (((W1.setCell ⟨w.heap.size + 1 + 1, 0, none⟩ v0).setCell ⟨w.heap.size + 1 + 1, 1, none⟩ v1).setCell ⟨w.heap.size + 1 + 1, 2, none⟩ v2)) := fun v0 v1 v2 =>
    ((HB1.out.setCell (p := ⟨w.heap.size + 1 + 1, 0, none⟩) (show w.heap.size ≤ w.heap.size + 1 + 1 by omega) v0).setCell (p := ⟨w.heap.size + 1 + 1, 1, none⟩) (show w.heap.size ≤ w.heap.size + 1 + 1 by omega) v1).setCell (p := ⟨w.heap.size + 1 + 1, 2, none⟩) (show w.heap.size ≤ w.heap.size + 1 + 1 by omega) v2
  clear hS e0 e1 e2 hb1 HL HX0 HX1 HX2 HB0
  cases le
  · have hr : r = a := HE.out.trans (if_neg (by decide))
    have HR := hideIt hr
    go_wp2
    exact bodyPost_ret (results_one rfl _ _ _ _ rfl (loadEn (blkHd (h := a) (HS.out _ _ _)))) rfl ⟨by rw [HR.out], HBs.out _ _ _⟩
  · have hr : r = b := HE.out.trans (if_pos rfl)
    have HR := hideIt hr
    go_wp2
    exact bodyPost_ret (results_one rfl _ _ _ _ rfl (loadEn (blkHd (h := b) (HS.out _ _ _)))) rfl ⟨by rw [HR.out], HBs.out _ _ _⟩

section
variable {w0 W : World} {K : StK} {P : Pst}
set_option maxRecDepth 100000 in
theorem busyC_any (h : StoP w0 W K P) {i : Nat} (hi : i < P.k) : Calls Tryz.prog 57 #[.pointer (some ⟨K.C, i * 13, none⟩)] W fun e w' => e = .returned (.bool (P.cl i).busy) ∧ w' = W := by
  have c0 := (h.cx i hi).at_
  unfold Pcl.busy
  generalize (P.cl i).at_ = x at *
  clear h hi
  by_cases h1 : x = 1
  · have g1 : (x == 1) = true := by simp [h1]
    have HE : Hid ((decide (x = 1) || decide (x = 2)) = true) := by show _ = _; simp [h1]
    clear h1
    go_enter Tryz.func57, Tryz.ntmps57
    go_wp2
    go_ret
    exact ⟨ret_bool HE.out.symm, rfl⟩
  · have g1 : (x == 1) = false := by simp [h1]
    have HE : Hid ((decide (x = 1) || decide (x = 2)) = (x == 2)) := by show _ = _; simp [h1]; rfl
    clear h1
    go_enter Tryz.func57, Tryz.ntmps57
    go_wp2
    go_ret
    exact ⟨ret_bool HE.out.symm, rfl⟩

set_option maxRecDepth 100000 in
theorem hasC_any (h : StoP w0 W K P) (c : Int) : Calls Tryz.prog 40 #[.pointer (some ⟨K.B, 0, none⟩), .int .i64 c] W fun e w' => e = .returned (.bool (decide (0 ≤ c ∧ c < P.k))) ∧ w' = W := by
  have c8 := h.cells.2.2.2.2.1
  generalize hr : decide (0 ≤ c ∧ c < P.k) = r
  have HR := hideIt hr
  clear h hr
  by_cases h0 : 0 ≤ c
  · have g0 : decide (c ≥ 0) = true := decide_eq_true h0
    by_cases h1 : c < P.k
    · have g1 : decide (c < (P.k : Int)) = true := decide_eq_true h1
      have HE : Hid (r = true) := HR.out.symm.trans (decide_eq_true ⟨h0, h1⟩)
      go_enter Tryz.func40, Tryz.ntmps40
      go_wp2
      go_ret
      exact ⟨ret_bool HE.out.symm, rfl⟩
    · have g1 : decide (c < (P.k : Int)) = false := decide_eq_false h1
      have HE : Hid (r = false) := HR.out.symm.trans (decide_eq_false fun h => h1 h.2)
      go_enter Tryz.func40, Tryz.ntmps40
      go_wp2
      go_ret
      exact ⟨ret_bool HE.out.symm, rfl⟩
  · have g0 : decide (c ≥ 0) = false := decide_eq_false h0
    have HE : Hid (r = false) := HR.out.symm.trans (decide_eq_false fun h => h0 h.1)
    go_enter Tryz.func40, Tryz.ntmps40
    go_wp2
    go_ret
    exact ⟨ret_bool HE.out.symm, rfl⟩

set_option maxRecDepth 100000 in
set_option maxHeartbeats 1000000 in
theorem busyS_any (h : StoP w0 W K P) (hk8 : P.k ≤ 8) : Calls Tryz.prog 41 #[.pointer (some ⟨K.B, 0, none⟩)] W fun e w' => e = .returned (.int .i64 ((busyP P : Nat) : Int)) ∧ w' = W := by
  have c8 := h.cells.2.2.2.2.1
  have HC : Hid (∀ i, i < P.k → Calls Tryz.prog 57 #[.pointer (some ⟨K.C, i * 13, none⟩)] W fun e w' => e = .returned (.bool (P.cl i).busy) ∧ w' = W) := fun i hi => busyC_any h hi
  have HE : Hid (busyP P = (List.range P.k).countP fun j => (P.cl j).busy) := rfl
  generalize busyP P = r at HE ⊢
  clear h
  go_enter Tryz.func41, Tryz.ntmps41
  go_wp2
  go_loopw [10, 3] (fun v cv wr => ∃ i : Nat, i ≤ P.k ∧ v = .int .i64 i ∧ cv = .int .i64 (((List.range i).countP fun j => (P.cl j).busy : Nat) : Int) ∧ wr = W) (fun v _ _ => P.k - (intOf v).toNat)
  case atStart => exact ⟨0, Nat.zero_le _, rfl, rfl, rfl⟩
  case round =>
    obtain ⟨i, hi, rfl, rfl, rfl⟩ := hrel
    by_cases hik : i < P.k
    · have hik' : (i : Int) < P.k := by omega
      have hcl : ((List.range i).countP fun j => (P.cl j).busy) ≤ 8 := Nat.le_trans List.countP_le_length (by simp; omega)
      have HN : Hid (((List.range (i + 1)).countP fun j => (P.cl j).busy) = ((List.range i).countP fun j => (P.cl j).busy) + if (P.cl i).busy = true then 1 else 0) := by
        show _ = _
        rw [List.range_succ, List.countP_append, List.countP_singleton]
      have HCi := hideIt (HC.out i hik)
      generalize ((List.range i).countP fun j => (P.cl j).busy) = c0 at *
      generalize (P.cl i).busy = b at *
      go_wp2_with fail
      refine HCi.out.mono ?_
      rintro e w1 ⟨rfl, rfl⟩
      cases b
      · go_wp2
        go_roundw
        case rel => exact ⟨i + 1, by omega, by go_num, by rw [HN.out]; simp, trivial⟩
        case measure => simp [intOf]; omega
      · go_wp2
        go_roundw
        case rel => exact ⟨i + 1, by omega, by go_num, by rw [HN.out]; simp, trivial⟩
        case measure => simp [intOf]; omega
    · obtain rfl : i = P.k := by omega
      go_wp2
      go_ret
      exact ⟨ret_int (by rw [HE.out]), rfl⟩

set_option maxRecDepth 100000 in
set_option maxHeartbeats 1000000 in
theorem free_any (h : StoP w0 W K P) (hk8 : P.k ≤ 8) (hev : P.evs.length ≤ 1000) (c : Int) : Calls Tryz.prog 13 #[.pointer (some ⟨K.B, 0, none⟩), .int .i64 c] W fun e w' => e = .returned (toldE (freeP P c)) ∧ Below W.heap.size W w' := by
  have HH := hideIt (hasC_any h c)
  have c8 := h.cells.2.2.2.2.1
  have c9 := h.cells.2.2.2.2.2.1
  obtain ⟨ea, ec, ee⟩ := ownsRow_slice h.ev
  rw [ee] at c9
  have HBy : Hid (∀ q : Nat, Calls Tryz.prog 41 #[.pointer (some ⟨K.B, 0, none⟩)] (W.drewN q) fun e w' => e = .returned (.int .i64 ((busyP P : Nat) : Int)) ∧ w' = W.drewN q) := fun q => busyS_any (h.below (below_drewN (Below.refl _ _) q)) hk8
  by_cases h0 : 0 ≤ c ∧ c < P.k
  · rw [decide_eq_true h0] at HH
    obtain ⟨i, rfl⟩ : ∃ i : Nat, c = i := ⟨c.toNat, by omega⟩
    have hik : i < P.k := by omega
    have hik' : (i : Int) < P.k := by omega
    have a0 := (h.cx i hik).at_
    have HF : Hid (freeP P i = if (P.cl i).at_ ≠ 0 then 6 else if 120 < P.evs.length + 2 + busyP P then 4 else 0) := by
      show _ = _
      unfold freeP
      rw [if_neg (by omega), Int.toNat_natCast]
    have hbl : busyP P ≤ 8 := Nat.le_trans List.countP_le_length (by simp; omega)
    generalize freeP P i = f at HF ⊢
    generalize (P.cl i).at_ = x at *
    generalize busyP P = by_ at *
    generalize P.evs.length = el at *
    clear h
    by_cases hx : x = 0
    · have g1 : (x != 0) = false := by simp [hx]
      have HF2 : Hid (f = if 120 < el + 2 + by_ then 4 else 0) := HF.out.trans (if_neg (by simp [hx]))
      clear hx HF
      go_enter Tryz.func13, Tryz.ntmps13
      go_wp2_with fail
      refine HH.out.mono ?_
      rintro e w1 ⟨rfl, rfl⟩
      by_cases h120 : 120 < el + 2 + by_
      · have g2 : decide ((el : Int) + 2 + (by_ : Int) > 120) = true := decide_eq_true (by omega)
        have HF3 : Hid (f = 4) := HF2.out.trans (if_pos h120)
        go_wp2_with fail
        go_quiet ((go_at_call 41; exact Calls.quiet_of_same (HBy.out _)))
        go_wp2
        go_ret
        exact ⟨by rw [HF3.out]; rfl, below_drewN (Below.refl _ _) _⟩
      · have g2 : decide ((el : Int) + 2 + (by_ : Int) > 120) = false := decide_eq_false (by omega)
        have HF3 : Hid (f = 0) := HF2.out.trans (if_neg h120)
        go_wp2_with fail
        go_quiet ((go_at_call 41; exact Calls.quiet_of_same (HBy.out _)))
        go_wp2
        go_ret
        exact ⟨by rw [HF3.out]; rfl, below_drewN (Below.refl _ _) _⟩
    · have g1 : (x != 0) = true := by simp [hx]
      have HF2 : Hid (f = 6) := HF.out.trans (if_pos hx)
      clear hx
      go_enter Tryz.func13, Tryz.ntmps13
      go_wp2_with fail
      refine HH.out.mono ?_
      rintro e w1 ⟨rfl, rfl⟩
      go_wp2
      go_ret
      exact ⟨by rw [HF2.out]; rfl, Below.refl _ _⟩
  · rw [decide_eq_false h0] at HH
    have HF : Hid (freeP P c = 2) := by
      show _ = _
      unfold freeP
      rw [if_pos (by omega)]
    generalize freeP P c = f at HF ⊢
    clear h
    go_enter Tryz.func13, Tryz.ntmps13
    go_wp2_with fail
    refine HH.out.mono ?_
    rintro e w1 ⟨rfl, rfl⟩
    go_wp2
    go_ret
    exact ⟨by rw [HF.out]; rfl, Below.refl _ _⟩
end
end Go.Proofs.YtncnojgemmcplaaGreatDoor.St

namespace Go.Proofs.YtncnojgemmcplaaGreatDoor.St
open Go.RowKit

/-- The store becomes another one. -/
def StTold (w0 : World) (K : StK) (P : Pst) (W : World) (P' : Pst) (W' : World) : Prop := ∃ K', StoP w0 W' K' P' ∧ SFr K P.k W W' K'
theorem infoEv : (Tryz.prog.info? 101).map (fun i => (i.zero, i.size, i.bytes)) = some (some (Value.agg #[.int .i64 0, .int .i64 0, .int .i64 0, .int .i64 0, .int .i64 0, .int .i64 0, .int .i64 0]), 7, 56) := by kernel_rfl
theorem infoSp : (Tryz.prog.info? 60).map (fun i => (i.zero, i.size, i.bytes)) = some (some (Value.agg #[.int .i64 0, .int .i64 0]), 2, 16) := by kernel_rfl
theorem run_appE {w : World} {base B : Nat} {v : Value} {L : List Evp} {e : Evp} (hown : w.ownsRow base 101 7 v L.length (evCs L)) (hB : w.heap[B]? = some (.cells #[.int .i64 e.p, .int .i64 e.t, .int .i64 e.k, .int .i64 e.d, .int .i64 e.a, .int .i64 e.b, .int .i64 e.r] 101)) (hb : base ≤ w.heap.size) (hL : L.length ≤ 1000) (ty : TypeId) :
    ∃ v' w', (Builtin.append_ #[46, 46] ty #[v, .slice (some ⟨B, 0, none⟩) 1 1]).run Tryz.prog w = .ok v' w' ∧ w'.ownsRow base 101 7 v' (L ++ [e]).length (evCs (L ++ [e])) ∧ w.grownBy w' v.ownBlock ∧ (v'.ownBlock = v.ownBlock ∨ v'.ownBlock = some w.heap.size) := by
  obtain ⟨i, hi, hz, hsz, hby⟩ := info_parts' infoEv
  have hnews : ∀ j u, (evC e)[j]? = some u → w.cell? ((⟨B, 0, none⟩ : Addr).add j) = some u := by
    intro j u hj
    rw [Addr.add_lit, Nat.zero_add, cell_of_row _ _ _ _ 101 _ hB]
    rw [← hj]
    simp [evC]
  obtain ⟨v', w', hr, ho, hg, _, hob⟩ := run_append_own_at (P := Tryz.prog) (w := w) base 46 ty 101 i _ 7 56 Tryz.underlying46 hi hz hsz hby rfl (by decide) v _ _ hown ⟨B, 0, none⟩ 1 1 (evC e) rfl hnews (by simp [evC, Value.oneCell']) (by unfold maxLen; omega) (by omega) hb
  refine ⟨v', w', hr, ?_, hg, hob⟩
  rw [evCs_app, List.length_append]
  exact ho
theorem run_appS {w : World} {base B : Nat} {v : Value} {L : List Smp} {s : Smp} (hown : w.ownsRow base 60 2 v L.length (spCs L)) (hB : w.heap[B]? = some (.cells #[.int .i64 s.t, .int .i64 s.c] 60)) (hb : base ≤ w.heap.size) (hL : L.length ≤ 1000) (ty : TypeId) :
    ∃ v' w', (Builtin.append_ #[43, 43] ty #[v, .slice (some ⟨B, 0, none⟩) 1 1]).run Tryz.prog w = .ok v' w' ∧ w'.ownsRow base 60 2 v' (L ++ [s]).length (spCs (L ++ [s])) ∧ w.grownBy w' v.ownBlock ∧ (v'.ownBlock = v.ownBlock ∨ v'.ownBlock = some w.heap.size) := by
  obtain ⟨i, hi, hz, hsz, hby⟩ := info_parts' infoSp
  have hnews : ∀ j u, (spC s)[j]? = some u → w.cell? ((⟨B, 0, none⟩ : Addr).add j) = some u := by
    intro j u hj
    rw [Addr.add_lit, Nat.zero_add, cell_of_row _ _ _ _ 60 _ hB]
    rw [← hj]
    simp [spC]
  obtain ⟨v', w', hr, ho, hg, _, hob⟩ := run_append_own_at (P := Tryz.prog) (w := w) base 43 ty 60 i _ 2 16 Tryz.underlying43 hi hz hsz hby rfl (by decide) v _ _ hown ⟨B, 0, none⟩ 1 1 (spC s) rfl hnews (by simp [spC, Value.oneCell']) (by unfold maxLen; omega) (by omega) hb
  refine ⟨v', w', hr, ?_, hg, hob⟩
  rw [spCs_app, List.length_append]
  exact ho
theorem blkEv {w : World} {g : Nat} {t : TypeId} {e : Evp} (hb : w.heap[g]? = some (.cells #[.int .i64 e.p, .int .i64 e.t, .int .i64 e.k, .int .i64 e.d, .int .i64 e.a, .int .i64 e.b, .int .i64 e.r] t)) : w.cell? ⟨g, 0, none⟩ = some (.int .i64 e.p) ∧ w.cell? ⟨g, 1, none⟩ = some (.int .i64 e.t) ∧ w.cell? ⟨g, 2, none⟩ = some (.int .i64 e.k) ∧ w.cell? ⟨g, 3, none⟩ = some (.int .i64 e.d) ∧ w.cell? ⟨g, 4, none⟩ = some (.int .i64 e.a) ∧ w.cell? ⟨g, 5, none⟩ = some (.int .i64 e.b) ∧ w.cell? ⟨g, 6, none⟩ = some (.int .i64 e.r) := by
  have hc := fun i => cell_of_row w g i _ t _ hb
  exact ⟨by rw [hc]; rfl, by rw [hc]; rfl, by rw [hc]; rfl, by rw [hc]; rfl, by rw [hc]; rfl, by rw [hc]; rfl, by rw [hc]; rfl⟩
theorem blkSp {w : World} {g : Nat} {t : TypeId} {s : Smp} (hb : w.heap[g]? = some (.cells #[.int .i64 s.t, .int .i64 s.c] t)) : w.cell? ⟨g, 0, none⟩ = some (.int .i64 s.t) ∧ w.cell? ⟨g, 1, none⟩ = some (.int .i64 s.c) :=
  ⟨by rw [cell_of_row _ _ _ _ t _ hb]; rfl, by rw [cell_of_row _ _ _ _ t _ hb]; rfl⟩

section
variable {w0 W : World} {K : StK} {P : Pst}
set_option maxRecDepth 100000 in
set_option maxHeartbeats 4000000 in
theorem see_any (h : StoP w0 W K P) (hev : P.evs.length ≤ 1000) (hst : P.sts.length ≤ 1000) (e : Evp) (s : Smp) :
    Calls Tryz.prog 50 #[.pointer (some ⟨K.B, 0, none⟩), .agg #[.int .i64 e.p, .int .i64 e.t, .int .i64 e.k, .int .i64 e.d, .int .i64 e.a, .int .i64 e.b, .int .i64 e.r], .agg #[.int .i64 s.t, .int .i64 s.c]] W fun en W' => en = .returned (.tuple #[]) ∧ StTold w0 K P W (seeP P e s) W' := by
  have hb0 : Below W.heap.size W ((W.alloc (.cells #[.int .i64 e.p, .int .i64 e.t, .int .i64 e.k, .int .i64 e.d, .int .i64 e.a, .int .i64 e.b, .int .i64 e.r] 101)).alloc (.cells #[.int .i64 s.t, .int .i64 s.c] 60)) := belA (belA (Below.refl _ _) _) _
  have hE : ((W.alloc (.cells #[.int .i64 e.p, .int .i64 e.t, .int .i64 e.k, .int .i64 e.d, .int .i64 e.a, .int .i64 e.b, .int .i64 e.r] 101)).alloc (.cells #[.int .i64 s.t, .int .i64 s.c] 60)).heap[W.heap.size]? = some (.cells #[.int .i64 e.p, .int .i64 e.t, .int .i64 e.k, .int .i64 e.d, .int .i64 e.a, .int .i64 e.b, .int .i64 e.r] 101) := by
    rw [Below.heap_alloc _ _ _ (by simp)]; exact heap_alloc_new W _
  have hS : ((W.alloc (.cells #[.int .i64 e.p, .int .i64 e.t, .int .i64 e.k, .int .i64 e.d, .int .i64 e.a, .int .i64 e.b, .int .i64 e.r] 101)).alloc (.cells #[.int .i64 s.t, .int .i64 s.c] 60)).heap[W.heap.size + 1]? = some (.cells #[.int .i64 s.t, .int .i64 s.c] 60) := by
    have := heap_alloc_new (W.alloc (.cells #[.int .i64 e.p, .int .i64 e.t, .int .i64 e.k, .int .i64 e.d, .int .i64 e.a, .int .i64 e.b, .int .i64 e.r] 101)) (.cells #[.int .i64 s.t, .int .i64 s.c] 60)
    simpa using this
  have HP1 := hideIt (h.below hb0)
  have HF1 : Hid (SFr K P.k W _ K) := SFr.below hb0
  have HE := hideIt hE
  have HS := hideIt hS
  have hBl := h.ltB
  have hOw : ∀ b, K.own P.k b → b < W.heap.size := fun b hb => (h.own_lt hb).2
  have HOw := hideIt hOw
  clear h hb0 hE hS hOw
  go_enter Tryz.func50, Tryz.ntmps50
  go_upto_region 1 with fail
  generalize (W.alloc _).alloc _ = W1 at *
  obtain ⟨va, vc, eve⟩ := ownsRow_slice HP1.out.ev
  have HT : Hid (∀ Z, Below W1.heap.size W1 Z → Z.cell? ⟨K.B, 9, none⟩ = some (.slice va P.evs.length vc)) := fun Z hZ => by
    rw [← eve]; exact (HP1.out.below hZ).cells.2.2.2.2.2.1
  have HU : Hid (∀ Z, Below W1.heap.size W1 Z → Z.cell? ⟨W.heap.size, 0, none⟩ = some (.int .i64 e.p) ∧ Z.cell? ⟨W.heap.size, 1, none⟩ = some (.int .i64 e.t) ∧ Z.cell? ⟨W.heap.size, 2, none⟩ = some (.int .i64 e.k) ∧ Z.cell? ⟨W.heap.size, 3, none⟩ = some (.int .i64 e.d) ∧ Z.cell? ⟨W.heap.size, 4, none⟩ = some (.int .i64 e.a) ∧ Z.cell? ⟨W.heap.size, 5, none⟩ = some (.int .i64 e.b) ∧ Z.cell? ⟨W.heap.size, 6, none⟩ = some (.int .i64 e.r)) := fun Z hZ => blkEv ((hZ.block _ (lt_of_heap HE.out)).trans HE.out)
  refine wp_region_L (B := [7, 10]) (S := fun _ => True) (T := fun Z => Below W1.heap.size W1 Z) (by kernel_rfl) ⟨trivial, (Below.refl _ _).drew⟩ (fun hHeld => ?_)
  refine wpAnyL_takeS (i := 0) (v := ?_) rfl (by kernel_rfl) (by kernel_rfl) (by kernel_rfl) (by kernel_rfl) (fun _ _ _ h => h) (Or.inl ⟨by rfl, ?_⟩) (by assumption) ?_
  rotate_left 1
  · intro wz _
    go_simp
    all_goals with_reducible rfl
  simp only [Act.put, List.setIfInBounds_toArray, List.set_cons_zero, List.set_cons_succ, List.getElem_toArray, List.getElem_cons_zero]
  refine wpAnyL_takeS (i := 1) (v := ?_) rfl (by kernel_rfl) (by kernel_rfl) (by kernel_rfl) (by kernel_rfl) (fun _ _ _ h => h) (Or.inl ⟨by rfl, ?_⟩) (by assumption) ?_
  rotate_left 1
  · intro wz _
    go_simp
    all_goals with_reducible rfl
  simp only [Act.put, List.setIfInBounds_toArray, List.set_cons_zero, List.set_cons_succ, List.getElem_toArray, List.getElem_cons_zero, List.getElem_cons_succ]
  refine wpAnyL_takeS (i := 2) (v := ?_) rfl (by kernel_rfl) (by kernel_rfl) (by kernel_rfl) (by kernel_rfl) (fun _ _ _ h => h) (Or.inl ⟨by rfl, ?_⟩) (by assumption) ?_
  rotate_left 1
  · intro wz _
    go_simp
    all_goals with_reducible rfl
  simp only [Act.put, List.setIfInBounds_toArray, List.set_cons_zero, List.set_cons_succ, List.getElem_toArray, List.getElem_cons_zero, List.getElem_cons_succ]
  refine wpAnyL_takeS (i := 3) (v := ?_) rfl (by kernel_rfl) (by kernel_rfl) (by kernel_rfl) (by kernel_rfl) (fun _ _ _ h => h) (Or.inl ⟨by rfl, ?_⟩) (by assumption) ?_
  rotate_left 1
  · intro wz _
    go_simp
    all_goals with_reducible rfl
  simp only [Act.put, List.setIfInBounds_toArray, List.set_cons_zero, List.set_cons_succ, List.getElem_toArray, List.getElem_cons_zero, List.getElem_cons_succ]
  refine wpAnyL_take [7, 8, 9, 10] (i := 4) (v := ?_) rfl (by kernel_rfl) (by kernel_rfl) (by kernel_rfl) (by kernel_rfl) (fun _ _ _ h => h) (Or.inl ⟨by rfl, ?_⟩) (by assumption) ?_
  rotate_left 1
  · intro wz sb
    have y0 := HT.out wz sb.2
    go_simp
    all_goals with_reducible rfl
  simp only [Act.put, List.setIfInBounds_toArray, List.set_cons_zero, List.set_cons_succ, List.getElem_toArray, List.getElem_cons_zero, List.getElem_cons_succ]
  refine wpAnyL_take [6, 7, 8, 9, 10] (i := 5) (v := ?_) rfl (by kernel_rfl) (by kernel_rfl) (by kernel_rfl) (by kernel_rfl) (fun _ _ _ h => h) (Or.inl ⟨by rfl, ?_⟩) (by assumption) ?_
  rotate_left 1
  · intro wz sb
    obtain ⟨y0, y1, y2, y3, y4, y5, y6⟩ := HU.out wz sb.2
    go_simp
    all_goals with_reducible rfl
  simp only [Act.put, List.setIfInBounds_toArray, List.set_cons_zero, List.set_cons_succ, List.getElem_toArray, List.getElem_cons_zero, List.getElem_cons_succ]
  generalize W1.drew = Y0 at hHeld ⊢
  refine wpAnyL_ready (rs := [6]) (by kernel_rfl) (by simp) (AllReadyL.cons rfl (fun Q hQ => ?_) AllReadyL.nil)
  go_simp
  have hb1 : Below W1.heap.size W1 (Y0.alloc (.cells #[.int .i64 e.p, .int .i64 e.t, .int .i64 e.k, .int .i64 e.d, .int .i64 e.a, .int .i64 e.b, .int .i64 e.r] 101)) := hHeld.2.alloc hHeld.2.size _
  have hnew := heap_alloc_new Y0 (.cells #[.int .i64 e.p, .int .i64 e.t, .int .i64 e.k, .int .i64 e.d, .int .i64 e.a, .int .i64 e.b, .int .i64 e.r] 101)
  refine hQ.out _ _ ⟨trivial, hb1⟩ (fun hHeld2 => ?_)
  clear hQ Q hb1
  generalize Y0.alloc (.cells #[.int .i64 e.p, .int .i64 e.t, .int .i64 e.k, .int .i64 e.d, .int .i64 e.a, .int .i64 e.b, .int .i64 e.r] 101) = Y1 at *
  have hP := HP1.out.below hHeld2.2
  have hF := HF1.out.trans (SFr.below hHeld2.2)
  obtain ⟨v', w6, hr, ho, hg, hob⟩ := run_appE (e := e) hP.ev hnew hP.bel.size hev 46
  obtain ⟨hP6, hF6⟩ := hP.pushE ho hg hob
  have hs6 : w6.heap[W.heap.size + 1]? = some (.cells #[.int .i64 s.t, .int .i64 s.c] 60) := by
    refine (hg.block _ (Nat.lt_of_lt_of_le (lt_of_heap HS.out) hHeld2.2.size) fun e' => ?_).trans ((hHeld2.2.block _ (lt_of_heap HS.out)).trans HS.out)
    have := HOw.out (W.heap.size + 1) (.inr (.inr (.inr (.inr (.inl e'.symm)))))
    omega
  have eB : w6.heap[K.B]? = Y1.heap[K.B]? := hg.block K.B hP.ltB fun e' => ne_tagD hP.tB (hP.tE e'.symm) (by decide) rfl
  have c6 : w6.cell? ⟨K.B, 9, none⟩ = some (.slice va P.evs.length vc) := by
    rw [World.cell?_of_block (a := ⟨K.B, 9, none⟩) eB, ← eve]; exact hP.cells.2.2.2.2.2.1
  have f6 : w6.frozen? ⟨K.B, 9, none⟩ = false := (World.frozen?_of_block (a := ⟨K.B, 9, none⟩) eB).trans (hP.fzB 9)
  rw [eve] at hr
  refine wpAnyL_ready (rs := [7]) (by kernel_rfl) (by simp) (AllReadyL.last rfl (by kernel_rfl) (fun Q hQ => ?_) AllReadyL.nil)
  refine step_append_run (by rfl) _ _ 46 rfl _ _ v' w6 rfl rfl hr ?_
  obtain ⟨a6, cap6, ev6⟩ := ownsRow_slice ho
  rw [ev6] at hP6 hF6
  have hlen : (P.evs ++ [e]).length = P.evs.length + 1 := by simp
  rw [ev6, hlen]
  rw [hlen] at hP6 hF6
  have HP6 := hideIt hP6
  have HF6 := hideIt (hF.trans hF6)
  have hS6 : (w6.setCell ⟨K.B, 9, none⟩ (.slice a6 (P.evs.length + 1) cap6)).heap[W.heap.size + 1]? = some (.cells #[.int .i64 s.t, .int .i64 s.c] 60) := (Below.heap_setCell _ ⟨K.B, 9, none⟩ _ _ (show W.heap.size + 1 ≠ K.B by omega)).trans hs6
  have HS6 := hideIt hS6
  simp only [Act.put, List.setIfInBounds_toArray]
  refine hQ.out _ _ trivial (fun _ => ?_)
  clear hQ Q hr ho hg hob hP hF hHeld hHeld2 hnew eB HT HU hs6 hS6 hP6 hF6 HE HS HP1 HF1 ev6 hlen eve
  refine wpAnyL_takeE (i := 8) (v := ?_) rfl (by kernel_rfl) (by kernel_rfl) (by kernel_rfl) (by kernel_rfl) (by kernel_rfl) (fun _ _ _ h => h) (Or.inl ⟨by rfl, ?_⟩) (by assumption) ?_
  rotate_left 1
  · intro wz _
    go_simp
    all_goals with_reducible rfl
  simp only [Act.put, List.setIfInBounds_toArray, List.set_cons_zero, List.set_cons_succ, List.getElem_toArray, List.getElem_cons_zero, List.getElem_cons_succ]
  refine wpAnyL_takeE (i := 9) (v := ?_) rfl (by kernel_rfl) (by kernel_rfl) (by kernel_rfl) (by kernel_rfl) (by kernel_rfl) (fun _ _ _ h => h) (Or.inl ⟨by rfl, ?_⟩) (by assumption) ?_
  rotate_left 1
  · intro wz _
    go_simp
    all_goals with_reducible rfl
  simp only [Act.put, List.setIfInBounds_toArray, List.set_cons_zero, List.set_cons_succ, List.getElem_toArray, List.getElem_cons_zero, List.getElem_cons_succ]
  refine wpAnyL_ready (rs := [10]) (by kernel_rfl) (by simp) (AllReadyL.last rfl (by kernel_rfl) (fun Q hQ => ?_) AllReadyL.nil)
  go_simp
  refine hQ.out _ _ trivial (fun _ => ?_)
  clear hQ Q c6 f6
  refine wpAnyL_done (by kernel_rfl) ?_ _
  go_wp2_with fail
  generalize w6.setCell ⟨K.B, 9, none⟩ (.slice a6 (P.evs.length + 1) cap6) = W2 at *
  obtain ⟨sa, sc, esv⟩ := ownsRow_slice HP6.out.st
  replace esv : K.vs = .slice sa P.sts.length sc := esv
  have HT : Hid (∀ Z, Below W2.heap.size W2 Z → Z.cell? ⟨K.B, 10, none⟩ = some (.slice sa P.sts.length sc)) := fun Z hZ => by
    rw [← esv]; exact (HP6.out.below hZ).cells.2.2.2.2.2.2
  have HU : Hid (∀ Z, Below W2.heap.size W2 Z → Z.cell? ⟨W.heap.size + 1, 0, none⟩ = some (.int .i64 s.t) ∧ Z.cell? ⟨W.heap.size + 1, 1, none⟩ = some (.int .i64 s.c)) := fun Z hZ => blkSp ((hZ.block _ (lt_of_heap HS6.out)).trans HS6.out)
  refine wp_region_L (B := [7, 10]) (S := fun _ => True) (T := fun Z => Below W2.heap.size W2 Z) (by kernel_rfl) ⟨trivial, (Below.refl _ _).drew⟩ (fun hHeld => ?_)
  refine wpAnyL_takeS (i := 0) (v := ?_) rfl (by kernel_rfl) (by kernel_rfl) (by kernel_rfl) (by kernel_rfl) (fun _ _ _ h => h) (Or.inl ⟨by rfl, ?_⟩) (by assumption) ?_
  rotate_left 1
  · intro wz _
    go_simp
    all_goals with_reducible rfl
  simp only [Act.put, List.setIfInBounds_toArray, List.set_cons_zero, List.set_cons_succ, List.getElem_toArray, List.getElem_cons_zero]
  refine wpAnyL_takeS (i := 1) (v := ?_) rfl (by kernel_rfl) (by kernel_rfl) (by kernel_rfl) (by kernel_rfl) (fun _ _ _ h => h) (Or.inl ⟨by rfl, ?_⟩) (by assumption) ?_
  rotate_left 1
  · intro wz _
    go_simp
    all_goals with_reducible rfl
  simp only [Act.put, List.setIfInBounds_toArray, List.set_cons_zero, List.set_cons_succ, List.getElem_toArray, List.getElem_cons_zero, List.getElem_cons_succ]
  refine wpAnyL_takeS (i := 2) (v := ?_) rfl (by kernel_rfl) (by kernel_rfl) (by kernel_rfl) (by kernel_rfl) (fun _ _ _ h => h) (Or.inl ⟨by rfl, ?_⟩) (by assumption) ?_
  rotate_left 1
  · intro wz _
    go_simp
    all_goals with_reducible rfl
  simp only [Act.put, List.setIfInBounds_toArray, List.set_cons_zero, List.set_cons_succ, List.getElem_toArray, List.getElem_cons_zero, List.getElem_cons_succ]
  refine wpAnyL_takeS (i := 3) (v := ?_) rfl (by kernel_rfl) (by kernel_rfl) (by kernel_rfl) (by kernel_rfl) (fun _ _ _ h => h) (Or.inl ⟨by rfl, ?_⟩) (by assumption) ?_
  rotate_left 1
  · intro wz _
    go_simp
    all_goals with_reducible rfl
  simp only [Act.put, List.setIfInBounds_toArray, List.set_cons_zero, List.set_cons_succ, List.getElem_toArray, List.getElem_cons_zero, List.getElem_cons_succ]
  refine wpAnyL_take [7, 8, 9, 10] (i := 4) (v := ?_) rfl (by kernel_rfl) (by kernel_rfl) (by kernel_rfl) (by kernel_rfl) (fun _ _ _ h => h) (Or.inl ⟨by rfl, ?_⟩) (by assumption) ?_
  rotate_left 1
  · intro wz sb
    have y0 := HT.out wz sb.2
    go_simp
    all_goals with_reducible rfl
  simp only [Act.put, List.setIfInBounds_toArray, List.set_cons_zero, List.set_cons_succ, List.getElem_toArray, List.getElem_cons_zero, List.getElem_cons_succ]
  refine wpAnyL_take [6, 7, 8, 9, 10] (i := 5) (v := ?_) rfl (by kernel_rfl) (by kernel_rfl) (by kernel_rfl) (by kernel_rfl) (fun _ _ _ h => h) (Or.inl ⟨by rfl, ?_⟩) (by assumption) ?_
  rotate_left 1
  · intro wz sb
    obtain ⟨y0, y1⟩ := HU.out wz sb.2
    go_simp
    all_goals with_reducible rfl
  simp only [Act.put, List.setIfInBounds_toArray, List.set_cons_zero, List.set_cons_succ, List.getElem_toArray, List.getElem_cons_zero, List.getElem_cons_succ]
  generalize W2.drew = Y0 at hHeld ⊢
  refine wpAnyL_ready (rs := [6]) (by kernel_rfl) (by simp) (AllReadyL.cons rfl (fun Q hQ => ?_) AllReadyL.nil)
  go_simp
  have hb1 : Below W2.heap.size W2 (Y0.alloc (.cells #[.int .i64 s.t, .int .i64 s.c] 60)) := hHeld.2.alloc hHeld.2.size _
  have hnew := heap_alloc_new Y0 (.cells #[.int .i64 s.t, .int .i64 s.c] 60)
  refine hQ.out _ _ ⟨trivial, hb1⟩ (fun hHeld2 => ?_)
  clear hQ Q hb1
  generalize Y0.alloc (.cells #[.int .i64 s.t, .int .i64 s.c] 60) = Y1 at *
  have hP := HP6.out.below hHeld2.2
  have hF := HF6.out.trans (SFr.below hHeld2.2)
  obtain ⟨v2, w7, hr, ho, hg, hob⟩ := run_appS (s := s) hP.st hnew hP.bel.size hst 43
  obtain ⟨hP7, hF7⟩ := hP.pushS ho hg hob
  have eB : w7.heap[K.B]? = Y1.heap[K.B]? := hg.block K.B hP.ltB fun e' => ne_tagD hP.tB (hP.tS e'.symm) (by decide) rfl
  have c6 : w7.cell? ⟨K.B, 10, none⟩ = some (.slice sa P.sts.length sc) := by
    rw [World.cell?_of_block (a := ⟨K.B, 10, none⟩) eB, ← esv]; exact hP.cells.2.2.2.2.2.2
  have f6 : w7.frozen? ⟨K.B, 10, none⟩ = false := (World.frozen?_of_block (a := ⟨K.B, 10, none⟩) eB).trans (hP.fzB 10)
  replace hr : (Builtin.append_ #[43, 43] 43 #[K.vs, .slice (some ⟨Y0.heap.size, 0, none⟩) 1 1]).run Tryz.prog Y1 = .ok v2 w7 := hr
  rw [esv] at hr
  refine wpAnyL_ready (rs := [7]) (by kernel_rfl) (by simp) (AllReadyL.last rfl (by kernel_rfl) (fun Q hQ => ?_) AllReadyL.nil)
  refine step_append_run (by rfl) _ _ 43 rfl _ _ v2 w7 rfl rfl hr ?_
  have HR : Hid (StTold w0 K P W (seeP P e s) (w7.setCell ⟨K.B, 10, none⟩ v2)) := ⟨_, hP7, hF.trans hF7⟩
  obtain ⟨a7, n7, cap7, rfl⟩ : ∃ a n c, v2 = .slice a n c := by
    obtain ⟨a, c, e'⟩ := ownsRow_slice ho
    exact ⟨a, _, c, e'⟩
  simp only [Act.put, List.setIfInBounds_toArray]
  refine hQ.out _ _ trivial (fun _ => ?_)
  clear hQ Q hr ho hg hob hP hF hHeld hHeld2 hnew eB HT HU hP7 hF7 HP6 HF6 HS6 esv
  refine wpAnyL_takeE (i := 8) (v := ?_) rfl (by kernel_rfl) (by kernel_rfl) (by kernel_rfl) (by kernel_rfl) (by kernel_rfl) (fun _ _ _ h => h) (Or.inl ⟨by rfl, ?_⟩) (by assumption) ?_
  rotate_left 1
  · intro wz _
    go_simp
    all_goals with_reducible rfl
  simp only [Act.put, List.setIfInBounds_toArray, List.set_cons_zero, List.set_cons_succ, List.getElem_toArray, List.getElem_cons_zero, List.getElem_cons_succ]
  refine wpAnyL_takeE (i := 9) (v := ?_) rfl (by kernel_rfl) (by kernel_rfl) (by kernel_rfl) (by kernel_rfl) (by kernel_rfl) (fun _ _ _ h => h) (Or.inl ⟨by rfl, ?_⟩) (by assumption) ?_
  rotate_left 1
  · intro wz _
    go_simp
    all_goals with_reducible rfl
  simp only [Act.put, List.setIfInBounds_toArray, List.set_cons_zero, List.set_cons_succ, List.getElem_toArray, List.getElem_cons_zero, List.getElem_cons_succ]
  refine wpAnyL_ready (rs := [10]) (by kernel_rfl) (by simp) (AllReadyL.last rfl (by kernel_rfl) (fun Q hQ => ?_) AllReadyL.nil)
  go_simp
  refine hQ.out _ _ trivial (fun _ => ?_)
  clear hQ Q c6 f6
  refine wpAnyL_done (by kernel_rfl) ?_ _
  go_wp2
  go_end0
  exact ⟨rfl, HR.out⟩

set_option maxRecDepth 100000 in
set_option maxHeartbeats 4000000 in
theorem sendS_any (h : StoP w0 W K P) (m : Mq) :
    Calls Tryz.prog 85 #[.pointer (some ⟨K.B, 0, none⟩), .int .i64 m.fr, .int .i64 m.tt, .agg #[.int .i64 m.key, .int .i64 m.rd, .bool m.tells, .int .i64 m.t, .int .i64 m.c, .int .i64 m.v]] W fun en W' => en = .returned (.tuple #[]) ∧ StTold w0 K P W (sendP P m) W' := by
  have hb0 : Below W.heap.size W (W.alloc (.cells #[.int .i64 m.key, .int .i64 m.rd, .bool m.tells, .int .i64 m.t, .int .i64 m.c, .int .i64 m.v] 98)) := belA (Below.refl _ _) _
  have HP1 := hideIt (h.below hb0)
  have HF1 : Hid (SFr K P.k W _ K) := SFr.below hb0
  have HM : Hid ((W.alloc (.cells #[.int .i64 m.key, .int .i64 m.rd, .bool m.tells, .int .i64 m.t, .int .i64 m.c, .int .i64 m.v] 98)).heap[W.heap.size]? = some (.cells #[.int .i64 m.key, .int .i64 m.rd, .bool m.tells, .int .i64 m.t, .int .i64 m.c, .int .i64 m.v] 98)) := heap_alloc_new W _
  clear h hb0
  go_enter Tryz.func85, Tryz.ntmps85
  go_upto_region 1 with fail
  generalize W.alloc _ = W1 at *
  have HU : Hid (∀ Z, Below W1.heap.size W1 Z → Z.cell? ⟨W.heap.size, 0, none⟩ = some (.int .i64 m.key) ∧ Z.cell? ⟨W.heap.size, 1, none⟩ = some (.int .i64 m.rd) ∧ Z.cell? ⟨W.heap.size, 2, none⟩ = some (.bool m.tells) ∧ Z.cell? ⟨W.heap.size, 3, none⟩ = some (.int .i64 m.t) ∧ Z.cell? ⟨W.heap.size, 4, none⟩ = some (.int .i64 m.c) ∧ Z.cell? ⟨W.heap.size, 5, none⟩ = some (.int .i64 m.v)) := fun Z hZ => by
    have hb := (hZ.block _ (lt_of_heap HM.out)).trans HM.out
    have hc := fun i => cell_of_row Z W.heap.size i _ 98 _ hb
    exact ⟨by rw [hc]; rfl, by rw [hc]; rfl, by rw [hc]; rfl, by rw [hc]; rfl, by rw [hc]; rfl, by rw [hc]; rfl⟩
  refine wp_region_L (B := [7]) (S := fun _ => True) (T := fun Z => Below W1.heap.size W1 Z) (by kernel_rfl) ⟨trivial, (Below.refl _ _).drew⟩ (fun hHeld => ?_)
  refine wpAnyL_takeS (i := 0) (v := ?_) rfl (by kernel_rfl) (by kernel_rfl) (by kernel_rfl) (by kernel_rfl) (fun _ _ _ h => h) (Or.inl ⟨by rfl, ?_⟩) (by assumption) ?_
  rotate_left 1
  · intro wz _
    go_simp
    all_goals with_reducible rfl
  simp only [Act.put, List.setIfInBounds_toArray, List.set_cons_zero, List.set_cons_succ, List.getElem_toArray, List.getElem_cons_zero]
  refine wpAnyL_takeS (i := 1) (v := ?_) rfl (by kernel_rfl) (by kernel_rfl) (by kernel_rfl) (by kernel_rfl) (fun _ _ _ h => h) (Or.inl ⟨by rfl, ?_⟩) (by assumption) ?_
  rotate_left 1
  · intro wz _
    go_simp
    all_goals with_reducible rfl
  simp only [Act.put, List.setIfInBounds_toArray, List.set_cons_zero, List.set_cons_succ, List.getElem_toArray, List.getElem_cons_zero, List.getElem_cons_succ]
  refine wpAnyL_takeS (i := 2) (v := ?_) rfl (by kernel_rfl) (by kernel_rfl) (by kernel_rfl) (by kernel_rfl) (fun _ _ _ h => h) (Or.inl ⟨by rfl, ?_⟩) (by assumption) ?_
  rotate_left 1
  · intro wz _
    go_simp
    all_goals with_reducible rfl
  simp only [Act.put, List.setIfInBounds_toArray, List.set_cons_zero, List.set_cons_succ, List.getElem_toArray, List.getElem_cons_zero, List.getElem_cons_succ]
  refine wpAnyL_takeS (i := 3) (v := ?_) rfl (by kernel_rfl) (by kernel_rfl) (by kernel_rfl) (by kernel_rfl) (fun _ _ _ h => h) (Or.inl ⟨by rfl, ?_⟩) (by assumption) ?_
  rotate_left 1
  · intro wz _
    go_simp
    all_goals with_reducible rfl
  simp only [Act.put, List.setIfInBounds_toArray, List.set_cons_zero, List.set_cons_succ, List.getElem_toArray, List.getElem_cons_zero, List.getElem_cons_succ]
  refine wpAnyL_takeS (i := 4) (v := ?_) rfl (by kernel_rfl) (by kernel_rfl) (by kernel_rfl) (by kernel_rfl) (fun _ _ _ h => h) (Or.inl ⟨by rfl, ?_⟩) (by assumption) ?_
  rotate_left 1
  · intro wz _
    go_simp
    all_goals with_reducible rfl
  simp only [Act.put, List.setIfInBounds_toArray, List.set_cons_zero, List.set_cons_succ, List.getElem_toArray, List.getElem_cons_zero, List.getElem_cons_succ]
  refine wpAnyL_take [6, 7] (i := 5) (v := ?_) rfl (by kernel_rfl) (by kernel_rfl) (by kernel_rfl) (by kernel_rfl) (fun _ _ _ h => h) (Or.inl ⟨by rfl, ?_⟩) (by assumption) ?_
  rotate_left 1
  · intro wz sb
    obtain ⟨y0, y1, y2, y3, y4, y5⟩ := HU.out wz sb.2
    go_simp
    all_goals with_reducible rfl
  simp only [Act.put, List.setIfInBounds_toArray, List.set_cons_zero, List.set_cons_succ, List.getElem_toArray, List.getElem_cons_zero, List.getElem_cons_succ]
  refine wpAnyL_takeS (i := 6) (v := ?_) rfl (by kernel_rfl) (by kernel_rfl) (by kernel_rfl) (by kernel_rfl) (fun _ _ _ h => h) (Or.inl ⟨by rfl, ?_⟩) (by assumption) ?_
  rotate_left 1
  · intro wz _
    go_simp
    all_goals with_reducible rfl
  simp only [Act.put, List.setIfInBounds_toArray, List.set_cons_zero, List.set_cons_succ, List.getElem_toArray, List.getElem_cons_zero, List.getElem_cons_succ]
  have hP := HP1.out.below hHeld.2
  have hF := HF1.out.trans (SFr.below hHeld.2)
  have HS := hideIt (psend_any m _ _ _ _ _ _ _ hP.net)
  generalize W1.drew = Y0 at *
  refine wpAnyL_ready (rs := [7]) (by kernel_rfl) (by simp) (AllReadyL.last rfl (by kernel_rfl) (fun Q hQ => ?_) AllReadyL.nil)
  go_simp
  refine HS.out.mono ?_
  clear HS
  rintro e W2 (⟨hfull, rfl, hb2⟩ | ⟨hroom, rfl, v2, ht⟩)
  · have HR : Hid (StTold w0 K P W (sendP P m) W2) := ⟨K, by unfold sendP; rw [if_neg (by omega)]; exact hP.below hb2, hF.trans (SFr.below hb2)⟩
    refine hQ.out _ _ trivial (fun _ => ?_)
    clear hQ Q hP hF hb2 HP1 HF1 HU HM
    refine wpAnyL_done (by kernel_rfl) ?_ _
    go_wp2
    go_end0
    exact ⟨rfl, HR.out⟩
  · obtain ⟨hP2, hF2⟩ := hP.mail ht
    have HR : Hid (StTold w0 K P W (sendP P m) W2) := ⟨_, by unfold sendP; rw [if_pos hroom]; exact hP2, hF.trans hF2⟩
    refine hQ.out _ _ trivial (fun _ => ?_)
    clear hQ Q hP hF ht HP1 HF1 HU HM hP2 hF2
    refine wpAnyL_done (by kernel_rfl) ?_ _
    go_wp2
    go_end0
    exact ⟨rfl, HR.out⟩
end
end Go.Proofs.YtncnojgemmcplaaGreatDoor.St

namespace Go.Proofs.YtncnojgemmcplaaGreatDoor.St
open Go.RowKit

/-- What a sending leaves as it was. -/
structure SameX (P P' : Pst) : Prop where
  n : P'.n = P.n
  k : P'.k = P.k
  ask : P'.ask = P.ask
  tell : P'.tell = P.tell
  back : P'.back = P.back
  nil : P'.nil = P.nil
  lr : P'.lr = P.lr
  has : P'.has = P.has
  cl : P'.cl = P.cl
  evs : P'.evs = P.evs
  sts : P'.sts = P.sts
theorem SameX.refl (P : Pst) : SameX P P := ⟨rfl, rfl, rfl, rfl, rfl, rfl, rfl, rfl, rfl, rfl, rfl⟩
theorem SameX.trans {P P1 P2 : Pst} (h : SameX P P1) (h' : SameX P1 P2) : SameX P P2 := ⟨h'.n.trans h.n, h'.k.trans h.k, h'.ask.trans h.ask, h'.tell.trans h.tell, h'.back.trans h.back, h'.nil.trans h.nil, h'.lr.trans h.lr, h'.has.trans h.has, h'.cl.trans h.cl, h'.evs.trans h.evs, h'.sts.trans h.sts⟩
theorem sendP_same (P : Pst) (m : Mq) : SameX P (sendP P m) := by
  unfold sendP
  split <;> exact ⟨rfl, rfl, rfl, rfl, rfl, rfl, rfl, rfl, rfl, rfl, rfl⟩
theorem sendsP_succ (P : Pst) (c : Nat) (x : Pcl) (m : Nat) : sendsP P c x (m + 1) = sendP (sendsP P c x m) (msgP (sendsP P c x m).n c x m) := by
  unfold sendsP
  rw [List.range_succ, List.foldl_append]
  rfl
theorem sendsP_same (P : Pst) (c : Nat) (x : Pcl) : ∀ m, SameX P (sendsP P c x m)
  | 0 => SameX.refl P
  | m + 1 => by rw [sendsP_succ]; exact (sendsP_same P c x m).trans (sendP_same _ _)
theorem SFr.cast {K K' : StK} {k k' : Nat} {W W' : World} (h : SFr K k W W' K') (e : k = k') : SFr K k' W W' K' := e ▸ h

section
variable {w0 W : World} {K : StK} {P : Pst}
set_option maxRecDepth 100000 in
set_option maxHeartbeats 4000000 in
theorem goRound_any (h : StoP w0 W K P) (hn7 : P.n ≤ 7) (hk8 : P.k ≤ 8) {i : Nat} (hi : i < P.k) (hrd : 0 ≤ (P.cl i).rd ∧ (P.cl i).rd ≤ 100000) (a : Int) :
    Calls Tryz.prog 51 #[.pointer (some ⟨K.B, 0, none⟩), .int .i64 (i : Int), .int .i64 a] W fun en W' => en = .returned (.tuple #[]) ∧ StTold w0 K P W (roundP P i a) W' := by
  have c8 := h.cells.2.2.2.2.1
  have hii : (i : Int) < (P.k : Int) := by omega
  have hx := h.cx i hi
  have a0 := hx.at_
  have a8 := hx.rd
  have a9 := hx.cv
  have f0 := h.fzC (i * 13)
  have f8 := h.fzC (i * 13 + 8)
  have f9 := h.fzC (i * 13 + 9)
  have hw : IntKind.i64.wrap ((P.cl i).rd + 1) = (P.cl i).rd + 1 := IntWalk.i64_in _ (by omega)
  have hO : OnlyC W (((W.setCell ⟨K.C, i * 13, none⟩ (.int .i64 a)).setCell ⟨K.C, i * 13 + 8, none⟩ (.int .i64 ((P.cl i).rd + 1))).setCell ⟨K.C, i * 13 + 9, none⟩ (.slice none 0 0)) K.C (i * 13) 13 103 :=
    (((OnlyC.refl h.cb).set (by omega) _).set (by omega) _).set (by omega) _
  have hcell : ∀ j, j ≠ i * 13 → j ≠ i * 13 + 8 → j ≠ i * 13 + 9 → (((W.setCell ⟨K.C, i * 13, none⟩ (.int .i64 a)).setCell ⟨K.C, i * 13 + 8, none⟩ (.int .i64 ((P.cl i).rd + 1))).setCell ⟨K.C, i * 13 + 9, none⟩ (.slice none 0 0)).cell? ⟨K.C, j, none⟩ = W.cell? ⟨K.C, j, none⟩ := fun j h1 h2 h3 => by
    rw [World.cell?_setCell_other _ _ _ _ (offNe (Ne.symm h3)), World.cell?_setCell_other _ _ _ _ (offNe (Ne.symm h2)), World.cell?_setCell_other _ _ _ _ (offNe (Ne.symm h1))]
  have hC : ClAt (((W.setCell ⟨K.C, i * 13, none⟩ (.int .i64 a)).setCell ⟨K.C, i * 13 + 8, none⟩ (.int .i64 ((P.cl i).rd + 1))).setCell ⟨K.C, i * 13 + 9, none⟩ (.slice none 0 0)) K.C (i * 13) (roundX (P.cl i) a) (.slice none 0 0) := by
    refine ⟨?_, hx.call.cells fun j h1 h2 => hcell j (by omega) (by omega) (by omega), ?_, ?_, hx.kept.cells fun j h1 h2 => hcell j (by omega) (by omega) (by omega)⟩
    · rw [World.cell?_setCell_other _ _ _ _ (offNe (by omega)), World.cell?_setCell_other _ _ _ _ (offNe (by omega))]
      exact World.cell?_setCell_same' _ _ _ (by rw [a0]; rfl)
    · rw [World.cell?_setCell_other _ _ _ _ (offNe (by omega))]
      exact World.cell?_setCell_same' _ _ _ (by rw [World.cell?_setCell_other _ _ _ _ (offNe (by omega)), a8]; rfl)
    · exact World.cell?_setCell_same' _ _ _ (by rw [World.cell?_setCell_other _ _ _ _ (offNe (by omega)), World.cell?_setCell_other _ _ _ _ (offNe (by omega)), a9]; rfl)
  obtain ⟨hP1, hF1⟩ := h.setC hi hO hC (.inr ⟨rfl, rfl⟩)
  have HP1 := hideIt hP1
  have HF1 := hideIt hF1
  have c7 : (((W.setCell ⟨K.C, i * 13, none⟩ (.int .i64 a)).setCell ⟨K.C, i * 13 + 8, none⟩ (.int .i64 ((P.cl i).rd + 1))).setCell ⟨K.C, i * 13 + 9, none⟩ (.slice none 0 0)).cell? ⟨K.B, 7, none⟩ = some (.slice (some ⟨K.N, 0, none⟩) P.n P.n) := hP1.cells.2.2.2.1
  have HRd : Hid (roundP P i a = sendsP { P with cl := updP P.cl i (roundX (P.cl i) a) } i (roundX (P.cl i) a) P.n) := rfl
  have HXc : Hid (({ P with cl := updP P.cl i (roundX (P.cl i) a) } : Pst).cl i = roundX (P.cl i) a) := updP_same _ _ _
  have HXa : Hid ((roundX (P.cl i) a).at_ = a) := rfl
  have Hn1 : Hid (({ P with cl := updP P.cl i (roundX (P.cl i) a) } : Pst).n = P.n) := rfl
  have Hk1 : Hid (({ P with cl := updP P.cl i (roundX (P.cl i) a) } : Pst).k = P.k) := rfl
  clear hO hC hcell hx h hP1 hF1
  generalize roundP P i a = Pend at HRd ⊢
  generalize roundX (P.cl i) a = x at *
  generalize ({ P with cl := updP P.cl i x } : Pst) = P1 at *
  go_enter Tryz.func51, Tryz.ntmps51
  go_wp2
  clear a0 a8 a9 f0 f8 f9 hw c7 c8
  generalize ((W.setCell _ _).setCell _ _).setCell _ _ = W1 at *
  go_loopw [33] (fun v wr => ∃ (j : Nat) (K2 : StK), j ≤ P.n ∧ v = .int .i64 j ∧ StoP w0 wr K2 (sendsP P1 i x j) ∧ SFr K P.k W wr K2) (fun v _ => P.n - (intOf v).toNat)
  case atStart => exact ⟨0, _, Nat.zero_le _, rfl, HP1.out, HF1.out⟩
  case round =>
    clear HP1 HF1
    obtain ⟨j, K2, hj, rfl, hP, hF⟩ := hrel
    have HP := hideIt hP
    have HF := hideIt hF
    clear hP hF
    by_cases hjn : j < P.n
    · have hjn' : (j : Int) < P.n := by omega
      have hs := sendsP_same P1 i x j
      have HQc : Hid ((sendsP P1 i x j).cl i = x) := by show _ = _; rw [hs.cl]; exact HXc.out
      have HQn : Hid ((sendsP P1 i x j).n = P.n) := hs.n.trans Hn1.out
      have HQk : Hid ((sendsP P1 i x j).k = P.k) := hs.k.trans Hk1.out
      have HT : Hid (∀ Z, Below wr.heap.size wr Z → Z.cell? ⟨K.B, 0, none⟩ = some (.int .i64 (P.n : Int)) ∧ Z.cell? ⟨K.C, i * 13 + 1 + 2, none⟩ = some (.int .i64 x.call.k) ∧ Z.cell? ⟨K.C, i * 13 + 8, none⟩ = some (.int .i64 x.rd) ∧ Z.cell? ⟨K.C, i * 13 + 10, none⟩ = some (.int .i64 x.kept.s.t) ∧ Z.cell? ⟨K.C, i * 13 + 10 + 1, none⟩ = some (.int .i64 x.kept.s.c) ∧ Z.cell? ⟨K.C, i * 13 + 10 + 2, none⟩ = some (.int .i64 x.kept.v)) := fun Z hZ => by
        have hZP := HP.out.below hZ
        obtain ⟨⟨q0, _⟩, _⟩ := hZP.cells
        have hx := hZP.cx i (by rw [HQk.out]; exact hi)
        rw [HQc.out, HF.out.B.2.2] at hx
        rw [HQn.out, HF.out.B.1] at q0
        exact ⟨q0, hx.call.2.2.1, hx.rd, hx.kept.1, hx.kept.2.1, hx.kept.2.2⟩
      have hwn : IntKind.i64.wrap ((P.n : Int) + (i : Int)) = (P.n : Int) + (i : Int) := IntWalk.i64_in _ (by omega)
      have HS : Hid (∀ Z, Below wr.heap.size wr Z → Calls Tryz.prog 85 #[.pointer (some ⟨K.B, 0, none⟩), .int .i64 ((P.n : Int) + (i : Int)), .int .i64 (j : Int), .agg #[.int .i64 x.call.k, .int .i64 x.rd, .bool (a == 2), .int .i64 x.kept.s.t, .int .i64 x.kept.s.c, .int .i64 x.kept.v]] Z fun en W' => en = .returned (.tuple #[]) ∧ StTold w0 K P W (sendsP P1 i x (j + 1)) W') := fun Z hZ => by
        have := sendS_any (HP.out.below hZ) (msgP P.n i x j)
        unfold msgP at this
        rw [HXa.out, HF.out.B.1, show decide (a = 2) = (a == 2) from rfl] at this
        refine this.mono fun e W' ⟨h1, K3, h2, h3⟩ => ⟨h1, K3, ?_, (HF.out.trans ((SFr.below hZ).trans (h3.cast HQk.out)))⟩
        rw [sendsP_succ, HQn.out]
        unfold msgP
        rw [HXa.out]
        exact h2
      clear hs
      go_wp2_with fail
      refine wp_region_L (B := [25]) (S := fun _ => True) (T := fun Z => Below wr.heap.size wr Z) (by kernel_rfl) ⟨trivial, (Below.refl _ _).drew⟩ (fun hHeld => ?_)
      refine wpAnyL_takeS (i := 0) (v := ?_) rfl (by kernel_rfl) (by kernel_rfl) (by kernel_rfl) (by kernel_rfl) (fun _ _ _ h => h) (Or.inl ⟨by rfl, ?_⟩) (by assumption) ?_
      rotate_left 1
      · intro wz _
        go_simp
        all_goals with_reducible rfl
      simp only [Act.put, List.setIfInBounds_toArray, List.set_cons_zero, List.set_cons_succ, List.getElem_toArray, List.getElem_cons_zero]
      refine wpAnyL_takeS (i := 1) (v := ?_) rfl (by kernel_rfl) (by kernel_rfl) (by kernel_rfl) (by kernel_rfl) (fun _ _ _ h => h) (Or.inl ⟨by rfl, ?_⟩) (by assumption) ?_
      rotate_left 1
      · intro wz _
        go_simp
        all_goals with_reducible rfl
      simp only [Act.put, List.setIfInBounds_toArray, List.set_cons_zero, List.set_cons_succ, List.getElem_toArray, List.getElem_cons_zero, List.getElem_cons_succ]
      refine wpAnyL_takeS (i := 2) (v := ?_) rfl (by kernel_rfl) (by kernel_rfl) (by kernel_rfl) (by kernel_rfl) (fun _ _ _ h => h) (Or.inl ⟨by rfl, ?_⟩) (by assumption) ?_
      rotate_left 1
      · intro wz _
        go_simp
        all_goals with_reducible rfl
      simp only [Act.put, List.setIfInBounds_toArray, List.set_cons_zero, List.set_cons_succ, List.getElem_toArray, List.getElem_cons_zero, List.getElem_cons_succ]
      refine wpAnyL_takeS (i := 3) (v := ?_) rfl (by kernel_rfl) (by kernel_rfl) (by kernel_rfl) (by kernel_rfl) (fun _ _ _ h => h) (Or.inl ⟨by rfl, ?_⟩) (by assumption) ?_
      rotate_left 1
      · intro wz _
        go_simp
        all_goals with_reducible rfl
      simp only [Act.put, List.setIfInBounds_toArray, List.set_cons_zero, List.set_cons_succ, List.getElem_toArray, List.getElem_cons_zero, List.getElem_cons_succ]
      refine wpAnyL_takeS (i := 4) (v := ?_) rfl (by kernel_rfl) (by kernel_rfl) (by kernel_rfl) (by kernel_rfl) (fun _ _ _ h => h) (Or.inl ⟨by rfl, ?_⟩) (by assumption) ?_
      rotate_left 1
      · intro wz _
        go_simp
        all_goals with_reducible rfl
      simp only [Act.put, List.setIfInBounds_toArray, List.set_cons_zero, List.set_cons_succ, List.getElem_toArray, List.getElem_cons_zero, List.getElem_cons_succ]
      refine wpAnyL_take [7, 25] (i := 5) (v := ?_) rfl (by kernel_rfl) (by kernel_rfl) (by kernel_rfl) (by kernel_rfl) (fun _ _ _ h => h) (Or.inl ⟨by rfl, ?_⟩) (by assumption) ?_
      rotate_left 1
      · intro wz sb
        obtain ⟨y0, y1, y2, y3, y4, y5⟩ := HT.out wz sb.2
        go_simp
        all_goals with_reducible rfl
      simp only [Act.put, List.setIfInBounds_toArray, List.set_cons_zero, List.set_cons_succ, List.getElem_toArray, List.getElem_cons_zero, List.getElem_cons_succ]
      refine wpAnyL_takeS (i := 6) (v := ?_) rfl (by kernel_rfl) (by kernel_rfl) (by kernel_rfl) (by kernel_rfl) (fun _ _ _ h => h) (Or.inl ⟨by rfl, ?_⟩) (by assumption) ?_
      rotate_left 1
      · intro wz _
        go_simp
        all_goals with_reducible rfl
      simp only [Act.put, List.setIfInBounds_toArray, List.set_cons_zero, List.set_cons_succ, List.getElem_toArray, List.getElem_cons_zero, List.getElem_cons_succ]
      refine wpAnyL_takeS (i := 7) (v := ?_) rfl (by kernel_rfl) (by kernel_rfl) (by kernel_rfl) (by kernel_rfl) (fun _ _ _ h => h) (Or.inl ⟨by rfl, ?_⟩) (by assumption) ?_
      rotate_left 1
      · intro wz _
        go_simp
        all_goals with_reducible rfl
      simp only [Act.put, List.setIfInBounds_toArray, List.set_cons_zero, List.set_cons_succ, List.getElem_toArray, List.getElem_cons_zero, List.getElem_cons_succ]
      refine wpAnyL_takeS (i := 8) (v := ?_) rfl (by kernel_rfl) (by kernel_rfl) (by kernel_rfl) (by kernel_rfl) (fun _ _ _ h => h) (Or.inl ⟨by rfl, ?_⟩) (by assumption) ?_
      rotate_left 1
      · intro wz _
        go_simp
        all_goals with_reducible rfl
      simp only [Act.put, List.setIfInBounds_toArray, List.set_cons_zero, List.set_cons_succ, List.getElem_toArray, List.getElem_cons_zero, List.getElem_cons_succ]
      refine wpAnyL_takeS (i := 9) (v := ?_) rfl (by kernel_rfl) (by kernel_rfl) (by kernel_rfl) (by kernel_rfl) (fun _ _ _ h => h) (Or.inl ⟨by rfl, ?_⟩) (by assumption) ?_
      rotate_left 1
      · intro wz _
        go_simp
        all_goals with_reducible rfl
      simp only [Act.put, List.setIfInBounds_toArray, List.set_cons_zero, List.set_cons_succ, List.getElem_toArray, List.getElem_cons_zero, List.getElem_cons_succ]
      refine wpAnyL_takeS (i := 10) (v := ?_) rfl (by kernel_rfl) (by kernel_rfl) (by kernel_rfl) (by kernel_rfl) (fun _ _ _ h => h) (Or.inl ⟨by rfl, ?_⟩) (by assumption) ?_
      rotate_left 1
      · intro wz _
        go_simp
        all_goals with_reducible rfl
      simp only [Act.put, List.setIfInBounds_toArray, List.set_cons_zero, List.set_cons_succ, List.getElem_toArray, List.getElem_cons_zero, List.getElem_cons_succ]
      refine wpAnyL_takeS (i := 11) (v := ?_) rfl (by kernel_rfl) (by kernel_rfl) (by kernel_rfl) (by kernel_rfl) (fun _ _ _ h => h) (Or.inl ⟨by rfl, ?_⟩) (by assumption) ?_
      rotate_left 1
      · intro wz _
        go_simp
        all_goals with_reducible rfl
      simp only [Act.put, List.setIfInBounds_toArray, List.set_cons_zero, List.set_cons_succ, List.getElem_toArray, List.getElem_cons_zero, List.getElem_cons_succ]
      refine wpAnyL_takeS (i := 12) (v := ?_) rfl (by kernel_rfl) (by kernel_rfl) (by kernel_rfl) (by kernel_rfl) (fun _ _ _ h => h) (Or.inl ⟨by rfl, ?_⟩) (by assumption) ?_
      rotate_left 1
      · intro wz _
        go_simp
        all_goals with_reducible rfl
      simp only [Act.put, List.setIfInBounds_toArray, List.set_cons_zero, List.set_cons_succ, List.getElem_toArray, List.getElem_cons_zero, List.getElem_cons_succ]
      refine wpAnyL_take [24, 25] (i := 13) (v := ?_) rfl (by kernel_rfl) (by kernel_rfl) (by kernel_rfl) (by kernel_rfl) (fun _ _ _ h => h) (Or.inl ⟨by rfl, ?_⟩) (by assumption) ?_
      rotate_left 1
      · intro wz sb
        obtain ⟨y0, y1, y2, y3, y4, y5⟩ := HT.out wz sb.2
        go_simp
        all_goals with_reducible rfl
      simp only [Act.put, List.setIfInBounds_toArray, List.set_cons_zero, List.set_cons_succ, List.getElem_toArray, List.getElem_cons_zero, List.getElem_cons_succ]
      refine wpAnyL_takeS (i := 14) (v := ?_) rfl (by kernel_rfl) (by kernel_rfl) (by kernel_rfl) (by kernel_rfl) (fun _ _ _ h => h) (Or.inl ⟨by rfl, ?_⟩) (by assumption) ?_
      rotate_left 1
      · intro wz _
        go_simp
        all_goals with_reducible rfl
      simp only [Act.put, List.setIfInBounds_toArray, List.set_cons_zero, List.set_cons_succ, List.getElem_toArray, List.getElem_cons_zero, List.getElem_cons_succ]
      refine wpAnyL_takeS (i := 15) (v := ?_) rfl (by kernel_rfl) (by kernel_rfl) (by kernel_rfl) (by kernel_rfl) (fun _ _ _ h => h) (Or.inl ⟨by rfl, ?_⟩) (by assumption) ?_
      rotate_left 1
      · intro wz _
        go_simp
        all_goals with_reducible rfl
      simp only [Act.put, List.setIfInBounds_toArray, List.set_cons_zero, List.set_cons_succ, List.getElem_toArray, List.getElem_cons_zero, List.getElem_cons_succ]
      refine wpAnyL_takeS (i := 16) (v := ?_) rfl (by kernel_rfl) (by kernel_rfl) (by kernel_rfl) (by kernel_rfl) (fun _ _ _ h => h) (Or.inl ⟨by rfl, ?_⟩) (by assumption) ?_
      rotate_left 1
      · intro wz _
        go_simp
        all_goals with_reducible rfl
      simp only [Act.put, List.setIfInBounds_toArray, List.set_cons_zero, List.set_cons_succ, List.getElem_toArray, List.getElem_cons_zero, List.getElem_cons_succ]
      refine wpAnyL_take [24, 25] (i := 17) (v := ?_) rfl (by kernel_rfl) (by kernel_rfl) (by kernel_rfl) (by kernel_rfl) (fun _ _ _ h => h) (Or.inl ⟨by rfl, ?_⟩) (by assumption) ?_
      rotate_left 1
      · intro wz sb
        obtain ⟨y0, y1, y2, y3, y4, y5⟩ := HT.out wz sb.2
        go_simp
        all_goals with_reducible rfl
      simp only [Act.put, List.setIfInBounds_toArray, List.set_cons_zero, List.set_cons_succ, List.getElem_toArray, List.getElem_cons_zero, List.getElem_cons_succ]
      refine wpAnyL_takeS (i := 18) (v := ?_) rfl (by kernel_rfl) (by kernel_rfl) (by kernel_rfl) (by kernel_rfl) (fun _ _ _ h => h) (Or.inl ⟨by rfl, ?_⟩) (by assumption) ?_
      rotate_left 1
      · intro wz _
        go_simp
        all_goals with_reducible rfl
      simp only [Act.put, List.setIfInBounds_toArray, List.set_cons_zero, List.set_cons_succ, List.getElem_toArray, List.getElem_cons_zero, List.getElem_cons_succ]
      refine wpAnyL_takeS (i := 19) (v := ?_) rfl (by kernel_rfl) (by kernel_rfl) (by kernel_rfl) (by kernel_rfl) (fun _ _ _ h => h) (Or.inl ⟨by rfl, ?_⟩) (by assumption) ?_
      rotate_left 1
      · intro wz _
        go_simp
        all_goals with_reducible rfl
      simp only [Act.put, List.setIfInBounds_toArray, List.set_cons_zero, List.set_cons_succ, List.getElem_toArray, List.getElem_cons_zero, List.getElem_cons_succ]
      refine wpAnyL_takeS (i := 20) (v := ?_) rfl (by kernel_rfl) (by kernel_rfl) (by kernel_rfl) (by kernel_rfl) (fun _ _ _ h => h) (Or.inl ⟨by rfl, ?_⟩) (by assumption) ?_
      rotate_left 1
      · intro wz _
        go_simp
        all_goals with_reducible rfl
      simp only [Act.put, List.setIfInBounds_toArray, List.set_cons_zero, List.set_cons_succ, List.getElem_toArray, List.getElem_cons_zero, List.getElem_cons_succ]
      refine wpAnyL_takeS (i := 21) (v := ?_) rfl (by kernel_rfl) (by kernel_rfl) (by kernel_rfl) (by kernel_rfl) (fun _ _ _ h => h) (Or.inl ⟨by rfl, ?_⟩) (by assumption) ?_
      rotate_left 1
      · intro wz _
        go_simp
        all_goals with_reducible rfl
      simp only [Act.put, List.setIfInBounds_toArray, List.set_cons_zero, List.set_cons_succ, List.getElem_toArray, List.getElem_cons_zero, List.getElem_cons_succ]
      refine wpAnyL_takeS (i := 22) (v := ?_) rfl (by kernel_rfl) (by kernel_rfl) (by kernel_rfl) (by kernel_rfl) (fun _ _ _ h => h) (Or.inl ⟨by rfl, ?_⟩) (by assumption) ?_
      rotate_left 1
      · intro wz _
        go_simp
        all_goals with_reducible rfl
      simp only [Act.put, List.setIfInBounds_toArray, List.set_cons_zero, List.set_cons_succ, List.getElem_toArray, List.getElem_cons_zero, List.getElem_cons_succ]
      refine wpAnyL_take [24, 25] (i := 23) (v := ?_) rfl (by kernel_rfl) (by kernel_rfl) (by kernel_rfl) (by kernel_rfl) (fun _ _ _ h => h) (Or.inl ⟨by rfl, ?_⟩) (by assumption) ?_
      rotate_left 1
      · intro wz sb
        obtain ⟨y0, y1, y2, y3, y4, y5⟩ := HT.out wz sb.2
        go_simp
        all_goals with_reducible rfl
      simp only [Act.put, List.setIfInBounds_toArray, List.set_cons_zero, List.set_cons_succ, List.getElem_toArray, List.getElem_cons_zero, List.getElem_cons_succ]
      refine wpAnyL_takeS (i := 24) (v := ?_) rfl (by kernel_rfl) (by kernel_rfl) (by kernel_rfl) (by kernel_rfl) (fun _ _ _ h => h) (Or.inl ⟨by rfl, ?_⟩) (by assumption) ?_
      rotate_left 1
      · intro wz _
        go_simp
        all_goals with_reducible rfl
      simp only [Act.put, List.setIfInBounds_toArray, List.set_cons_zero, List.set_cons_succ, List.getElem_toArray, List.getElem_cons_zero, List.getElem_cons_succ]
      refine wpAnyL_ready (rs := [25]) (by kernel_rfl) (by simp) (AllReadyL.last rfl (by kernel_rfl) (fun Q hQ => ?_) AllReadyL.nil)
      go_simp
      refine (HS.out _ hHeld.2).mono ?_
      rintro e W2 ⟨rfl, K3, hP3, hF3⟩
      have HP3 := hideIt hP3
      have HF3 := hideIt hF3
      refine hQ.out _ _ trivial (fun _ => ?_)
      clear hQ Q hP3 hF3 hHeld HS HT
      refine wpAnyL_done (by kernel_rfl) ?_ _
      go_wp2
      go_roundw
      case rel => exact ⟨j + 1, K3, by omega, by go_num, HP3.out, HF3.out⟩
      case measure => simp [intOf]; omega
    · obtain rfl : j = P.n := by omega
      go_wp2
      go_end0
      exact ⟨rfl, K2, by rw [HRd.out]; exact HP.out, HF.out⟩
end
end Go.Proofs.YtncnojgemmcplaaGreatDoor.St

namespace Go.Proofs.YtncnojgemmcplaaGreatDoor.St
open Go.RowKit

section
variable {w0 W W' : World} {K : StK} {P : Pst}
theorem cell_set_ne {g a b : Nat} (h : b ≠ a) (u : Value) : (W.setCell ⟨g, a, none⟩ u).cell? ⟨g, b, none⟩ = W.cell? ⟨g, b, none⟩ := World.cell?_setCell_other _ _ _ _ (offNe (Ne.symm h))
theorem cell_set_eq {g a : Nat} {v : Value} (h : W.cell? ⟨g, a, none⟩ = some v) (u : Value) : (W.setCell ⟨g, a, none⟩ u).cell? ⟨g, a, none⟩ = some u := World.cell?_setCell_same' _ _ _ (by rw [h]; rfl)
theorem StoP.setAt (h : StoP w0 W K P) {i : Nat} (hi : i < P.k) (a : Int) : StoP w0 (W.setCell ⟨K.C, i * 13, none⟩ (.int .i64 a)) { K with cv := updP K.cv i (K.cv i) } { P with cl := updP P.cl i { P.cl i with at_ := a } } ∧ SFr K P.k W (W.setCell ⟨K.C, i * 13, none⟩ (.int .i64 a)) { K with cv := updP K.cv i (K.cv i) } := by
  have hx := h.cx i hi
  have hn : ∀ j, j ≠ i * 13 → (W.setCell ⟨K.C, i * 13, none⟩ (.int .i64 a)).cell? ⟨K.C, j, none⟩ = W.cell? ⟨K.C, j, none⟩ := fun j hj => cell_set_ne hj _
  exact h.setC hi ((OnlyC.refl h.cb).set (by omega) _) (x := { P.cl i with at_ := a }) ⟨cell_set_eq hx.at_ _, hx.call.cells fun j h1 h2 => hn j (by omega), (hn _ (by omega)).trans hx.rd, (hn _ (by omega)).trans hx.cv, hx.kept.cells fun j h1 h2 => hn j (by omega)⟩ (.inl ⟨rfl, rfl⟩)
theorem StoP.setKept (h : StoP w0 W K P) {i : Nat} (hi : i < P.k) (y : Hd) : StoP w0 ((((W).setCell ⟨K.C, i * 13 + 10, none⟩ (.int .i64 y.s.t)).setCell ⟨K.C, i * 13 + 10 + 1, none⟩ (.int .i64 y.s.c)).setCell ⟨K.C, i * 13 + 10 + 2, none⟩ (.int .i64 y.v)) { K with cv := updP K.cv i (K.cv i) } { P with cl := updP P.cl i { P.cl i with kept := y } } ∧ SFr K P.k W ((((W).setCell ⟨K.C, i * 13 + 10, none⟩ (.int .i64 y.s.t)).setCell ⟨K.C, i * 13 + 10 + 1, none⟩ (.int .i64 y.s.c)).setCell ⟨K.C, i * 13 + 10 + 2, none⟩ (.int .i64 y.v)) { K with cv := updP K.cv i (K.cv i) } := by
  have hx := h.cx i hi
  have hn : ∀ j, j ≠ i * 13 + 10 → j ≠ i * 13 + 10 + 1 → j ≠ i * 13 + 10 + 2 → ((((W).setCell ⟨K.C, i * 13 + 10, none⟩ (.int .i64 y.s.t)).setCell ⟨K.C, i * 13 + 10 + 1, none⟩ (.int .i64 y.s.c)).setCell ⟨K.C, i * 13 + 10 + 2, none⟩ (.int .i64 y.v)).cell? ⟨K.C, j, none⟩ = W.cell? ⟨K.C, j, none⟩ := fun j h1 h2 h3 => by rw [cell_set_ne h3, cell_set_ne h2, cell_set_ne h1]
  refine h.setC hi ((((OnlyC.refl h.cb).set (by omega) _).set (by omega) _).set (by omega) _) (x := { P.cl i with kept := y }) ⟨(hn _ (by omega) (by omega) (by omega)).trans hx.at_, hx.call.cells fun j h1 h2 => hn j (by omega) (by omega) (by omega), (hn _ (by omega) (by omega) (by omega)).trans hx.rd, (hn _ (by omega) (by omega) (by omega)).trans hx.cv, ⟨?_, ?_, ?_⟩⟩ (.inl ⟨rfl, rfl⟩)
  · rw [cell_set_ne (by omega), cell_set_ne (by omega)]; exact cell_set_eq hx.kept.1 _
  · rw [cell_set_ne (by omega)]; exact cell_set_eq ((cell_set_ne (by omega) _).trans hx.kept.2.1) _
  · exact cell_set_eq ((cell_set_ne (by omega) _).trans ((cell_set_ne (by omega) _).trans hx.kept.2.2)) _
theorem StoP.setCall (h : StoP w0 W K P) {i : Nat} (hi : i < P.k) (e : Evp) : StoP w0 ((((((((W).setCell ⟨K.C, i * 13 + 1, none⟩ (.int .i64 e.p)).setCell ⟨K.C, i * 13 + 1 + 1, none⟩ (.int .i64 e.t)).setCell ⟨K.C, i * 13 + 1 + 2, none⟩ (.int .i64 e.k)).setCell ⟨K.C, i * 13 + 1 + 3, none⟩ (.int .i64 e.d)).setCell ⟨K.C, i * 13 + 1 + 4, none⟩ (.int .i64 e.a)).setCell ⟨K.C, i * 13 + 1 + 5, none⟩ (.int .i64 e.b)).setCell ⟨K.C, i * 13 + 1 + 6, none⟩ (.int .i64 e.r)) { K with cv := updP K.cv i (K.cv i) } { P with cl := updP P.cl i { P.cl i with call := e } } ∧ SFr K P.k W ((((((((W).setCell ⟨K.C, i * 13 + 1, none⟩ (.int .i64 e.p)).setCell ⟨K.C, i * 13 + 1 + 1, none⟩ (.int .i64 e.t)).setCell ⟨K.C, i * 13 + 1 + 2, none⟩ (.int .i64 e.k)).setCell ⟨K.C, i * 13 + 1 + 3, none⟩ (.int .i64 e.d)).setCell ⟨K.C, i * 13 + 1 + 4, none⟩ (.int .i64 e.a)).setCell ⟨K.C, i * 13 + 1 + 5, none⟩ (.int .i64 e.b)).setCell ⟨K.C, i * 13 + 1 + 6, none⟩ (.int .i64 e.r)) { K with cv := updP K.cv i (K.cv i) } := by
  have hx := h.cx i hi
  have hn : ∀ j, (j < i * 13 + 1 ∨ i * 13 + 8 ≤ j) → ((((((((W).setCell ⟨K.C, i * 13 + 1, none⟩ (.int .i64 e.p)).setCell ⟨K.C, i * 13 + 1 + 1, none⟩ (.int .i64 e.t)).setCell ⟨K.C, i * 13 + 1 + 2, none⟩ (.int .i64 e.k)).setCell ⟨K.C, i * 13 + 1 + 3, none⟩ (.int .i64 e.d)).setCell ⟨K.C, i * 13 + 1 + 4, none⟩ (.int .i64 e.a)).setCell ⟨K.C, i * 13 + 1 + 5, none⟩ (.int .i64 e.b)).setCell ⟨K.C, i * 13 + 1 + 6, none⟩ (.int .i64 e.r)).cell? ⟨K.C, j, none⟩ = W.cell? ⟨K.C, j, none⟩ := fun j h1 => by rw [cell_set_ne (by omega), cell_set_ne (by omega), cell_set_ne (by omega), cell_set_ne (by omega), cell_set_ne (by omega), cell_set_ne (by omega), cell_set_ne (by omega)]
  obtain ⟨q0, q1, q2, q3, q4, q5, q6⟩ := hx.call
  refine h.setC hi ((((((((OnlyC.refl h.cb).set (by omega) _).set (by omega) _).set (by omega) _).set (by omega) _).set (by omega) _).set (by omega) _).set (by omega) _) (x := { P.cl i with call := e }) ⟨(hn _ (by omega)).trans hx.at_, ⟨?_, ?_, ?_, ?_, ?_, ?_, ?_⟩, (hn _ (by omega)).trans hx.rd, (hn _ (by omega)).trans hx.cv, hx.kept.cells fun j h1 h2 => hn j (by omega)⟩ (.inl ⟨rfl, rfl⟩)
  · rw [cell_set_ne (by omega), cell_set_ne (by omega), cell_set_ne (by omega), cell_set_ne (by omega), cell_set_ne (by omega), cell_set_ne (by omega)]; exact cell_set_eq q0 _
  · rw [cell_set_ne (by omega), cell_set_ne (by omega), cell_set_ne (by omega), cell_set_ne (by omega), cell_set_ne (by omega)]; exact cell_set_eq (by rw [cell_set_ne (by omega)]; exact q1) _
  · rw [cell_set_ne (by omega), cell_set_ne (by omega), cell_set_ne (by omega), cell_set_ne (by omega)]; exact cell_set_eq (by rw [cell_set_ne (by omega), cell_set_ne (by omega)]; exact q2) _
  · rw [cell_set_ne (by omega), cell_set_ne (by omega), cell_set_ne (by omega)]; exact cell_set_eq (by rw [cell_set_ne (by omega), cell_set_ne (by omega), cell_set_ne (by omega)]; exact q3) _
  · rw [cell_set_ne (by omega), cell_set_ne (by omega)]; exact cell_set_eq (by rw [cell_set_ne (by omega), cell_set_ne (by omega), cell_set_ne (by omega), cell_set_ne (by omega)]; exact q4) _
  · rw [cell_set_ne (by omega)]; exact cell_set_eq (by rw [cell_set_ne (by omega), cell_set_ne (by omega), cell_set_ne (by omega), cell_set_ne (by omega), cell_set_ne (by omega)]; exact q5) _
  · exact cell_set_eq (by rw [cell_set_ne (by omega), cell_set_ne (by omega), cell_set_ne (by omega), cell_set_ne (by omega), cell_set_ne (by omega), cell_set_ne (by omega)]; exact q6) _

set_option maxRecDepth 100000 in
set_option maxHeartbeats 4000000 in
theorem done_any (h : StoP w0 W K P) (hev : P.evs.length ≤ 1000) (hst : P.sts.length ≤ 1000) {i : Nat} (hi : i < P.k) :
    Calls Tryz.prog 91 #[.pointer (some ⟨K.B, 0, none⟩), .int .i64 (i : Int)] W fun en W' => en = .returned (.tuple #[]) ∧ StTold w0 K P W (doneP P i) W' := by
  have c8 := h.cells.2.2.2.2.1
  have hii : (i : Int) < (P.k : Int) := by omega
  have hx := h.cx i hi
  obtain ⟨q0, q1, q2, q3, q4, q5, q6⟩ := hx.call
  have HP := hideIt h
  have hCl := h.ltC
  have HDn : Hid (doneP P i = { P with evs := P.evs ++ [endP (P.cl i)], sts := P.sts ++ [(P.cl i).kept.s], cl := updP P.cl i { P.cl i with at_ := 0 } }) := rfl
  have HKt : Hid (∀ Z, Below W.heap.size W Z → Z.cell? ⟨K.C, i * 13 + 10, none⟩ = some (.int .i64 (P.cl i).kept.s.t) ∧ Z.cell? ⟨K.C, i * 13 + 10 + 1, none⟩ = some (.int .i64 (P.cl i).kept.s.c) ∧ Z.cell? ⟨K.C, i * 13 + 10 + 2, none⟩ = some (.int .i64 (P.cl i).kept.v)) := fun Z hZ => ((HP.out.below hZ).cx i hi).kept
  have HSee : Hid (∀ Z, Below W.heap.size W Z → ∀ e : Evp, e = endP (P.cl i) → Calls Tryz.prog 50 #[.pointer (some ⟨K.B, 0, none⟩), .agg #[.int .i64 e.p, .int .i64 e.t, .int .i64 e.k, .int .i64 e.d, .int .i64 e.a, .int .i64 e.b, .int .i64 e.r], .agg #[.int .i64 (P.cl i).kept.s.t, .int .i64 (P.cl i).kept.s.c]] Z fun en W' => en = .returned (.tuple #[]) ∧ (∃ a0 : Value, W'.cell? ⟨K.C, i * 13, none⟩ = some a0 ∧ W'.frozen? ⟨K.C, i * 13, none⟩ = false) ∧ StTold w0 K P W (doneP P i) (W'.setCell ⟨K.C, i * 13, none⟩ (.int .i64 0))) := fun Z hZ e he => by
    refine (see_any (HP.out.below hZ) hev hst e (P.cl i).kept.s).mono fun en W' ⟨h1, K1, h2, h3⟩ => ⟨h1, ?_, ?_⟩
    · have hx1 := h2.cx i hi
      rw [h3.B.2.2] at hx1
      exact ⟨_, hx1.at_, by rw [← h3.B.2.2]; exact h2.fzC _⟩
    · obtain ⟨h4, h5⟩ := h2.setAt hi 0
      rw [h3.B.2.2] at h4 h5
      refine ⟨_, ?_, (SFr.below hZ).trans (h3.trans h5)⟩
      rw [HDn.out, ← he]
      exact h4
  clear h hx
  generalize hcl : P.cl i = x at *
  have HEn : Hid (endP x = if x.call.d = 1 then { x.call with t := 2, r := x.kept.v } else { x.call with t := 2 }) := rfl
  clear hcl
  go_enter Tryz.func91, Tryz.ntmps91
  go_upto_region 3 with fail
  have HKb := hideIt (HKt.out _ (belA (Below.refl _ W) (.cells #[.int .i64 x.call.p, .int .i64 2, .int .i64 x.call.k, .int .i64 x.call.d, .int .i64 x.call.a, .int .i64 x.call.b, .int .i64 x.call.r] 101)))
  by_cases hd : x.call.d = 1
  · have g1 : (x.call.d == 1) = true := by simp [hd]
    have HEq : Hid ({ x.call with t := 2, r := x.kept.v } = endP x) := (HEn.out.trans (if_pos hd)).symm
    clear hd
    obtain ⟨_, _, k2⟩ := HKb.out
    go_upto_region 5 with fail
    clear k2 HKb
    have hb0 : Below W.heap.size W (W.alloc (.cells #[.int .i64 x.call.p, .int .i64 2, .int .i64 x.call.k, .int .i64 x.call.d, .int .i64 x.call.a, .int .i64 x.call.b, .int .i64 x.kept.v] 101)) := belA (Below.refl _ _) _
    have hn0 := heap_alloc_new W (.cells #[.int .i64 x.call.p, .int .i64 2, .int .i64 x.call.k, .int .i64 x.call.d, .int .i64 x.call.a, .int .i64 x.call.b, .int .i64 x.kept.v] 101)
    have HB0 := hideIt hb0
    have HN0 := hideIt hn0
    clear hb0 hn0
    generalize W.alloc (.cells #[.int .i64 x.call.p, .int .i64 2, .int .i64 x.call.k, .int .i64 x.call.d, .int .i64 x.call.a, .int .i64 x.call.b, .int .i64 x.kept.v] 101) = W1 at *
    have HU : Hid (∀ Z, Below W1.heap.size W1 Z → Z.cell? ⟨W.heap.size, 0, none⟩ = some (.int .i64 x.call.p) ∧ Z.cell? ⟨W.heap.size, 1, none⟩ = some (.int .i64 2) ∧ Z.cell? ⟨W.heap.size, 2, none⟩ = some (.int .i64 x.call.k) ∧ Z.cell? ⟨W.heap.size, 3, none⟩ = some (.int .i64 x.call.d) ∧ Z.cell? ⟨W.heap.size, 4, none⟩ = some (.int .i64 x.call.a) ∧ Z.cell? ⟨W.heap.size, 5, none⟩ = some (.int .i64 x.call.b) ∧ Z.cell? ⟨W.heap.size, 6, none⟩ = some (.int .i64 x.kept.v)) := fun Z hZ => blkEv (e := { x.call with t := 2, r := x.kept.v }) ((hZ.block _ (lt_of_heap HN0.out)).trans HN0.out)
    have HV : Hid (∀ Z, Below W1.heap.size W1 Z → Z.cell? ⟨K.C, i * 13 + 10, none⟩ = some (.int .i64 x.kept.s.t) ∧ Z.cell? ⟨K.C, i * 13 + 10 + 1, none⟩ = some (.int .i64 x.kept.s.c)) := fun Z hZ => ⟨(HKt.out Z (belJ HB0.out hZ)).1, (HKt.out Z (belJ HB0.out hZ)).2.1⟩
    have HSe : Hid (∀ Z, Below W1.heap.size W1 Z → Calls Tryz.prog 50 #[.pointer (some ⟨K.B, 0, none⟩), .agg #[.int .i64 x.call.p, .int .i64 2, .int .i64 x.call.k, .int .i64 x.call.d, .int .i64 x.call.a, .int .i64 x.call.b, .int .i64 x.kept.v], .agg #[.int .i64 x.kept.s.t, .int .i64 x.kept.s.c]] Z fun en W' => en = .returned (.tuple #[]) ∧ (∃ a0 : Value, W'.cell? ⟨K.C, i * 13, none⟩ = some a0 ∧ W'.frozen? ⟨K.C, i * 13, none⟩ = false) ∧ StTold w0 K P W (doneP P i) (W'.setCell ⟨K.C, i * 13, none⟩ (.int .i64 0))) := fun Z hZ => HSee.out Z (belJ HB0.out hZ) { x.call with t := 2, r := x.kept.v } HEq.out
    clear HSee
    refine wp_region_L (B := [7]) (S := fun _ => True) (T := fun Z => Below W1.heap.size W1 Z) (by kernel_rfl) ⟨trivial, (Below.refl _ _).drew⟩ (fun hHeld => ?_)
    refine wpAnyL_takeS (i := 0) (v := ?_) rfl (by kernel_rfl) (by kernel_rfl) (by kernel_rfl) (by kernel_rfl) (fun _ _ _ h => h) (Or.inl ⟨by rfl, ?_⟩) (by assumption) ?_
    rotate_left 1
    · intro wz _
      go_simp
      all_goals with_reducible rfl
    simp only [Act.put, List.setIfInBounds_toArray, List.set_cons_zero, List.set_cons_succ, List.getElem_toArray, List.getElem_cons_zero]
    refine wpAnyL_take [7] (i := 1) (v := ?_) rfl (by kernel_rfl) (by kernel_rfl) (by kernel_rfl) (by kernel_rfl) (fun _ _ _ h => h) (Or.inl ⟨by rfl, ?_⟩) (by assumption) ?_
    rotate_left 1
    · intro wz sb
      obtain ⟨y0, y1, y2, y3, y4, y5, y6⟩ := HU.out wz sb.2
      go_simp
      all_goals with_reducible rfl
    simp only [Act.put, List.setIfInBounds_toArray, List.set_cons_zero, List.set_cons_succ, List.getElem_toArray, List.getElem_cons_zero, List.getElem_cons_succ]
    refine wpAnyL_takeS (i := 2) (v := ?_) rfl (by kernel_rfl) (by kernel_rfl) (by kernel_rfl) (by kernel_rfl) (fun _ _ _ h => h) (Or.inl ⟨by rfl, ?_⟩) (by assumption) ?_
    rotate_left 1
    · intro wz _
      go_simp
      all_goals with_reducible rfl
    simp only [Act.put, List.setIfInBounds_toArray, List.set_cons_zero, List.set_cons_succ, List.getElem_toArray, List.getElem_cons_zero, List.getElem_cons_succ]
    refine wpAnyL_takeS (i := 3) (v := ?_) rfl (by kernel_rfl) (by kernel_rfl) (by kernel_rfl) (by kernel_rfl) (fun _ _ _ h => h) (Or.inl ⟨by rfl, ?_⟩) (by assumption) ?_
    rotate_left 1
    · intro wz _
      go_simp
      all_goals with_reducible rfl
    simp only [Act.put, List.setIfInBounds_toArray, List.set_cons_zero, List.set_cons_succ, List.getElem_toArray, List.getElem_cons_zero, List.getElem_cons_succ]
    refine wpAnyL_takeS (i := 4) (v := ?_) rfl (by kernel_rfl) (by kernel_rfl) (by kernel_rfl) (by kernel_rfl) (fun _ _ _ h => h) (Or.inl ⟨by rfl, ?_⟩) (by assumption) ?_
    rotate_left 1
    · intro wz _
      go_simp
      all_goals with_reducible rfl
    simp only [Act.put, List.setIfInBounds_toArray, List.set_cons_zero, List.set_cons_succ, List.getElem_toArray, List.getElem_cons_zero, List.getElem_cons_succ]
    refine wpAnyL_takeS (i := 5) (v := ?_) rfl (by kernel_rfl) (by kernel_rfl) (by kernel_rfl) (by kernel_rfl) (fun _ _ _ h => h) (Or.inl ⟨by rfl, ?_⟩) (by assumption) ?_
    rotate_left 1
    · intro wz _
      go_simp
      all_goals with_reducible rfl
    simp only [Act.put, List.setIfInBounds_toArray, List.set_cons_zero, List.set_cons_succ, List.getElem_toArray, List.getElem_cons_zero, List.getElem_cons_succ]
    refine wpAnyL_take [7] (i := 6) (v := ?_) rfl (by kernel_rfl) (by kernel_rfl) (by kernel_rfl) (by kernel_rfl) (fun _ _ _ h => h) (Or.inl ⟨by rfl, ?_⟩) (by assumption) ?_
    rotate_left 1
    · intro wz sb
      obtain ⟨y0, y1⟩ := HV.out wz sb.2
      go_simp
      all_goals with_reducible rfl
    simp only [Act.put, List.setIfInBounds_toArray, List.set_cons_zero, List.set_cons_succ, List.getElem_toArray, List.getElem_cons_zero, List.getElem_cons_succ]
    refine wpAnyL_ready (rs := [7]) (by kernel_rfl) (by simp) (AllReadyL.last rfl (by kernel_rfl) (fun Q hQ => ?_) AllReadyL.nil)
    go_simp
    refine (HSe.out _ hHeld.2).mono ?_
    rintro e W2 ⟨rfl, ⟨a0, ha0, hf0⟩, hT⟩
    have HT := hideIt hT
    refine hQ.out _ _ trivial (fun _ => ?_)
    clear hQ Q hHeld hT HU HV HSe
    refine wpAnyL_done (by kernel_rfl) ?_ _
    go_wp2
    go_end0
    exact ⟨rfl, HT.out⟩
  · have g1 : (x.call.d == 1) = false := by simp [hd]
    have HEq : Hid ({ x.call with t := 2 } = endP x) := (HEn.out.trans (if_neg hd)).symm
    clear hd
    go_upto_region 5 with fail
    clear HKb
    have hb0 : Below W.heap.size W (W.alloc (.cells #[.int .i64 x.call.p, .int .i64 2, .int .i64 x.call.k, .int .i64 x.call.d, .int .i64 x.call.a, .int .i64 x.call.b, .int .i64 x.call.r] 101)) := belA (Below.refl _ _) _
    have hn0 := heap_alloc_new W (.cells #[.int .i64 x.call.p, .int .i64 2, .int .i64 x.call.k, .int .i64 x.call.d, .int .i64 x.call.a, .int .i64 x.call.b, .int .i64 x.call.r] 101)
    have HB0 := hideIt hb0
    have HN0 := hideIt hn0
    clear hb0 hn0
    generalize W.alloc (.cells #[.int .i64 x.call.p, .int .i64 2, .int .i64 x.call.k, .int .i64 x.call.d, .int .i64 x.call.a, .int .i64 x.call.b, .int .i64 x.call.r] 101) = W1 at *
    have HU : Hid (∀ Z, Below W1.heap.size W1 Z → Z.cell? ⟨W.heap.size, 0, none⟩ = some (.int .i64 x.call.p) ∧ Z.cell? ⟨W.heap.size, 1, none⟩ = some (.int .i64 2) ∧ Z.cell? ⟨W.heap.size, 2, none⟩ = some (.int .i64 x.call.k) ∧ Z.cell? ⟨W.heap.size, 3, none⟩ = some (.int .i64 x.call.d) ∧ Z.cell? ⟨W.heap.size, 4, none⟩ = some (.int .i64 x.call.a) ∧ Z.cell? ⟨W.heap.size, 5, none⟩ = some (.int .i64 x.call.b) ∧ Z.cell? ⟨W.heap.size, 6, none⟩ = some (.int .i64 x.call.r)) := fun Z hZ => blkEv (e := { x.call with t := 2 }) ((hZ.block _ (lt_of_heap HN0.out)).trans HN0.out)
    have HV : Hid (∀ Z, Below W1.heap.size W1 Z → Z.cell? ⟨K.C, i * 13 + 10, none⟩ = some (.int .i64 x.kept.s.t) ∧ Z.cell? ⟨K.C, i * 13 + 10 + 1, none⟩ = some (.int .i64 x.kept.s.c)) := fun Z hZ => ⟨(HKt.out Z (belJ HB0.out hZ)).1, (HKt.out Z (belJ HB0.out hZ)).2.1⟩
    have HSe : Hid (∀ Z, Below W1.heap.size W1 Z → Calls Tryz.prog 50 #[.pointer (some ⟨K.B, 0, none⟩), .agg #[.int .i64 x.call.p, .int .i64 2, .int .i64 x.call.k, .int .i64 x.call.d, .int .i64 x.call.a, .int .i64 x.call.b, .int .i64 x.call.r], .agg #[.int .i64 x.kept.s.t, .int .i64 x.kept.s.c]] Z fun en W' => en = .returned (.tuple #[]) ∧ (∃ a0 : Value, W'.cell? ⟨K.C, i * 13, none⟩ = some a0 ∧ W'.frozen? ⟨K.C, i * 13, none⟩ = false) ∧ StTold w0 K P W (doneP P i) (W'.setCell ⟨K.C, i * 13, none⟩ (.int .i64 0))) := fun Z hZ => HSee.out Z (belJ HB0.out hZ) { x.call with t := 2 } HEq.out
    clear HSee
    refine wp_region_L (B := [7]) (S := fun _ => True) (T := fun Z => Below W1.heap.size W1 Z) (by kernel_rfl) ⟨trivial, (Below.refl _ _).drew⟩ (fun hHeld => ?_)
    refine wpAnyL_takeS (i := 0) (v := ?_) rfl (by kernel_rfl) (by kernel_rfl) (by kernel_rfl) (by kernel_rfl) (fun _ _ _ h => h) (Or.inl ⟨by rfl, ?_⟩) (by assumption) ?_
    rotate_left 1
    · intro wz _
      go_simp
      all_goals with_reducible rfl
    simp only [Act.put, List.setIfInBounds_toArray, List.set_cons_zero, List.set_cons_succ, List.getElem_toArray, List.getElem_cons_zero]
    refine wpAnyL_take [7] (i := 1) (v := ?_) rfl (by kernel_rfl) (by kernel_rfl) (by kernel_rfl) (by kernel_rfl) (fun _ _ _ h => h) (Or.inl ⟨by rfl, ?_⟩) (by assumption) ?_
    rotate_left 1
    · intro wz sb
      obtain ⟨y0, y1, y2, y3, y4, y5, y6⟩ := HU.out wz sb.2
      go_simp
      all_goals with_reducible rfl
    simp only [Act.put, List.setIfInBounds_toArray, List.set_cons_zero, List.set_cons_succ, List.getElem_toArray, List.getElem_cons_zero, List.getElem_cons_succ]
    refine wpAnyL_takeS (i := 2) (v := ?_) rfl (by kernel_rfl) (by kernel_rfl) (by kernel_rfl) (by kernel_rfl) (fun _ _ _ h => h) (Or.inl ⟨by rfl, ?_⟩) (by assumption) ?_
    rotate_left 1
    · intro wz _
      go_simp
      all_goals with_reducible rfl
    simp only [Act.put, List.setIfInBounds_toArray, List.set_cons_zero, List.set_cons_succ, List.getElem_toArray, List.getElem_cons_zero, List.getElem_cons_succ]
    refine wpAnyL_takeS (i := 3) (v := ?_) rfl (by kernel_rfl) (by kernel_rfl) (by kernel_rfl) (by kernel_rfl) (fun _ _ _ h => h) (Or.inl ⟨by rfl, ?_⟩) (by assumption) ?_
    rotate_left 1
    · intro wz _
      go_simp
      all_goals with_reducible rfl
    simp only [Act.put, List.setIfInBounds_toArray, List.set_cons_zero, List.set_cons_succ, List.getElem_toArray, List.getElem_cons_zero, List.getElem_cons_succ]
    refine wpAnyL_takeS (i := 4) (v := ?_) rfl (by kernel_rfl) (by kernel_rfl) (by kernel_rfl) (by kernel_rfl) (fun _ _ _ h => h) (Or.inl ⟨by rfl, ?_⟩) (by assumption) ?_
    rotate_left 1
    · intro wz _
      go_simp
      all_goals with_reducible rfl
    simp only [Act.put, List.setIfInBounds_toArray, List.set_cons_zero, List.set_cons_succ, List.getElem_toArray, List.getElem_cons_zero, List.getElem_cons_succ]
    refine wpAnyL_takeS (i := 5) (v := ?_) rfl (by kernel_rfl) (by kernel_rfl) (by kernel_rfl) (by kernel_rfl) (fun _ _ _ h => h) (Or.inl ⟨by rfl, ?_⟩) (by assumption) ?_
    rotate_left 1
    · intro wz _
      go_simp
      all_goals with_reducible rfl
    simp only [Act.put, List.setIfInBounds_toArray, List.set_cons_zero, List.set_cons_succ, List.getElem_toArray, List.getElem_cons_zero, List.getElem_cons_succ]
    refine wpAnyL_take [7] (i := 6) (v := ?_) rfl (by kernel_rfl) (by kernel_rfl) (by kernel_rfl) (by kernel_rfl) (fun _ _ _ h => h) (Or.inl ⟨by rfl, ?_⟩) (by assumption) ?_
    rotate_left 1
    · intro wz sb
      obtain ⟨y0, y1⟩ := HV.out wz sb.2
      go_simp
      all_goals with_reducible rfl
    simp only [Act.put, List.setIfInBounds_toArray, List.set_cons_zero, List.set_cons_succ, List.getElem_toArray, List.getElem_cons_zero, List.getElem_cons_succ]
    refine wpAnyL_ready (rs := [7]) (by kernel_rfl) (by simp) (AllReadyL.last rfl (by kernel_rfl) (fun Q hQ => ?_) AllReadyL.nil)
    go_simp
    refine (HSe.out _ hHeld.2).mono ?_
    rintro e W2 ⟨rfl, ⟨a0, ha0, hf0⟩, hT⟩
    have HT := hideIt hT
    refine hQ.out _ _ trivial (fun _ => ?_)
    clear hQ Q hHeld hT HU HV HSe
    refine wpAnyL_done (by kernel_rfl) ?_ _
    go_wp2
    go_end0
    exact ⟨rfl, HT.out⟩
end
end Go.Proofs.YtncnojgemmcplaaGreatDoor.St
