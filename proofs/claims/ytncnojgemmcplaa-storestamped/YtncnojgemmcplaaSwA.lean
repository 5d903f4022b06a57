/-
  The program's store, walked: stamps, entries, who is busy, which node one is.
-/
import Derived.Test.YtncnojgemmcplaaStN
namespace Go.Proofs.Ytncnojgemmcplaa
open Go.RowKit

theorem results_one {fn : Func} {p : Tmp} {ty : TypeId} (h : fn.results = #[.cell p ty]) (tmps : Array Value) (w : World) (g : Nat) (v : Value)
    (hp : tmps.getD p undef = .pointer (some ⟨g, 0, none⟩)) (hl : (loadVar ty ⟨g, 0, none⟩).run Try.prog w = .ok v w) : (results fn tmps).run Try.prog w = .ok v w := by
  have hp' : tmps[p]?.getD undef = .pointer (some ⟨g, 0, none⟩) := by simpa using hp
  simp [results, h, hp', asAddr, hl]
theorem sizeEn : (Try.prog.info? 62).map (·.size) = some 3 := by kernel_rfl
theorem loadEn {w : World} {g o : Nat} {h : Hd} (hh : HdAt w g o h) : (loadVar 62 ⟨g, o, none⟩).run Try.prog w = .ok (.agg #[.int .i64 h.s.t, .int .i64 h.s.c, .int .i64 h.v]) w :=
  run_loadVar_mid w g o 62 [.int .i64 h.s.t, .int .i64 h.s.c, .int .i64 h.v] _ (fun j y hy => by
    obtain ⟨h0, h1, h2⟩ := hh
    match j with
    | 0 => simp at hy; subst hy; exact h0
    | 1 => simp at hy; subst hy; exact h1
    | 2 => simp at hy; subst hy; exact h2
    | j + 3 => simp at hy) Try.underlying62 rfl sizeEn
theorem blkHd {w : World} {g : Nat} {t : TypeId} {h : Hd} (hb : w.heap[g]? = some (.cells #[.int .i64 h.s.t, .int .i64 h.s.c, .int .i64 h.v] t)) : HdAt w g 0 h :=
  ⟨by rw [cell_of_row _ _ _ _ t _ hb]; rfl, by rw [cell_of_row _ _ _ _ t _ hb]; rfl, by rw [cell_of_row _ _ _ _ t _ hb]; rfl⟩

set_option maxRecDepth 100000 in
theorem less_any (a b : Smp) (w : World) : Calls Try.prog 11 #[.agg #[.int .i64 a.t, .int .i64 a.c], .agg #[.int .i64 b.t, .int .i64 b.c]] w fun e w' => e = .returned (.bool (decide (a.lt b))) ∧ Below w.heap.size w w' := by
  have HB := hideIt (belA (belA (Below.refl _ w) (.cells #[.int .i64 a.t, .int .i64 a.c] 39)) (.cells #[.int .i64 b.t, .int .i64 b.c] 39))
  by_cases h : a.t = b.t
  · have h1 : (a.t != b.t) = false := by simp [h]
    have HE : Hid (decide (a.lt b) = decide (a.c < b.c)) := decide_eq_decide.2 (by unfold Smp.lt; omega)
    generalize decide (a.lt b) = r at HE ⊢
    clear h
    go_enter Try.func11, Try.ntmps11
    go_wp2
    go_ret
    exact ⟨ret_bool HE.out.symm, HB.out⟩
  · have h1 : (a.t != b.t) = true := by simp [h]
    have HE : Hid (decide (a.lt b) = decide (a.t < b.t)) := decide_eq_decide.2 (by unfold Smp.lt; omega)
    generalize decide (a.lt b) = r at HE ⊢
    clear h
    go_enter Try.func11, Try.ntmps11
    go_wp2
    go_ret
    exact ⟨ret_bool HE.out.symm, HB.out⟩

set_option maxRecDepth 100000 in
theorem unwr_any (w : World) : Calls Try.prog 18 #[] w fun e w' => e = .returned (.agg #[.int .i64 hd0.s.t, .int .i64 hd0.s.c, .int .i64 hd0.v]) ∧ Below w.heap.size w w' := by
  have hb := heap_alloc_new w (.cells #[.int .i64 0, .int .i64 0, .int .i64 0] 62)
  have HB : Hid (Below w.heap.size w (w.alloc (.cells #[.int .i64 0, .int .i64 (-1), .int .i64 0] 62))) := belA (Below.refl _ _) _
  have HN : Hid (HdAt (w.alloc (.cells #[.int .i64 0, .int .i64 (-1), .int .i64 0] 62)) w.heap.size 0 hd0) := blkHd (h := hd0) (heap_alloc_new w _)
  clear hb
  go_enter Try.func18, Try.ntmps18
  go_wp2
  exact bodyPost_ret (results_one rfl _ _ _ _ rfl (loadEn HN.out)) rfl ⟨rfl, HB.out⟩

set_option maxRecDepth 100000 in
set_option maxHeartbeats 1000000 in
theorem newer_any (a b : Hd) (w : World) : Calls Try.prog 36 #[.agg #[.int .i64 a.s.t, .int .i64 a.s.c, .int .i64 a.v], .agg #[.int .i64 b.s.t, .int .i64 b.s.c, .int .i64 b.v]] w fun e w' => e = .returned (.agg #[.int .i64 (newerH a b).s.t, .int .i64 (newerH a b).s.c, .int .i64 (newerH a b).v]) ∧ Below w.heap.size w w' := by
  have HL := hideIt (fun Z => less_any a.s b.s Z)
  have HE : Hid (newerH a b = if decide (a.s.lt b.s) = true then b else a) := by show _ = _; unfold newerH; simp
  generalize newerH a b = r at HE ⊢
  generalize decide (a.s.lt b.s) = le at HE HL
  have b0 := heap_alloc_new w (.cells #[.int .i64 a.s.t, .int .i64 a.s.c, .int .i64 a.v] 62)
  have HB0 := hideIt (belA (belA (belA (Below.refl _ w) (.cells #[.int .i64 a.s.t, .int .i64 a.s.c, .int .i64 a.v] 62)) (.cells #[.int .i64 b.s.t, .int .i64 b.s.c, .int .i64 b.v] 62)) (.cells #[.int .i64 0, .int .i64 0, .int .i64 0] 62))
  have HX : Hid (∀ W, W = ((w.alloc (.cells #[.int .i64 a.s.t, .int .i64 a.s.c, .int .i64 a.v] 62)).alloc (.cells #[.int .i64 b.s.t, .int .i64 b.s.c, .int .i64 b.v] 62)).alloc (.cells #[.int .i64 0, .int .i64 0, .int .i64 0] 62) → W.heap[w.heap.size]? = some (.cells #[.int .i64 a.s.t, .int .i64 a.s.c, .int .i64 a.v] 62) ∧ W.heap[w.heap.size + 1]? = some (.cells #[.int .i64 b.s.t, .int .i64 b.s.c, .int .i64 b.v] 62) ∧ W.heap[w.heap.size + 1 + 1]? = some (.cells #[.int .i64 0, .int .i64 0, .int .i64 0] 62)) := fun W hW => by
    subst hW
    refine ⟨?_, ?_, ?_⟩
    · rw [Below.heap_alloc _ _ _ (by simp; omega), Below.heap_alloc _ _ _ (by simp)]; exact heap_alloc_new w _
    · rw [Below.heap_alloc _ _ _ (by simp)]
      have := heap_alloc_new (w.alloc (.cells #[.int .i64 a.s.t, .int .i64 a.s.c, .int .i64 a.v] 62)) (.cells #[.int .i64 b.s.t, .int .i64 b.s.c, .int .i64 b.v] 62)
      simpa using this
    · have := heap_alloc_new ((w.alloc (.cells #[.int .i64 a.s.t, .int .i64 a.s.c, .int .i64 a.v] 62)).alloc (.cells #[.int .i64 b.s.t, .int .i64 b.s.c, .int .i64 b.v] 62)) (.cells #[.int .i64 0, .int .i64 0, .int .i64 0] 62)
      simpa using this
  clear b0
  go_enter Try.func36, Try.ntmps36
  go_upto_region 1 with fail
  obtain ⟨x0, x1, x2⟩ := HX.out _ rfl
  generalize ((w.alloc _).alloc _).alloc _ = W0 at *
  have HX0 := hideIt x0
  have HX1 := hideIt x1
  have HX2 := hideIt x2
  obtain ⟨y0, y1, y2⟩ := blkHd (h := a) x0
  obtain ⟨z0, z1, z2⟩ := blkHd (h := b) x1
  clear x0 x1 x2 HX
  go_wp2_with fail
  refine (HL.out _).mono ?_
  rintro e W1 ⟨rfl, hb1⟩
  have e0 := (hb1.block _ (lt_of_heap HX0.out)).trans HX0.out
  have e1 := (hb1.block _ (lt_of_heap HX1.out)).trans HX1.out
  have e2 := (hb1.block _ (lt_of_heap HX2.out)).trans HX2.out
  have HB1 := hideIt (belJ HB0.out hb1)
  have HE2 := hideIt e2
  clear y0 y1 y2 z0 z1 z2
  obtain ⟨y0, y1, y2⟩ := blkHd (h := a) e0
  obtain ⟨z0, z1, z2⟩ := blkHd (h := b) e1
  obtain ⟨q0, q1, q2⟩ := blkHd (h := ⟨⟨0, 0⟩, 0⟩) e2
  have fz := fun j => frozen_of_row W1 (w.heap.size + 1 + 1) j _ 62 e2
  have hS : ∀ v0 v1 v2, (((W1.setCell ⟨w.heap.size + 1 + 1, 0, none⟩ v0).setCell ⟨w.heap.size + 1 + 1, 1, none⟩ v1).setCell ⟨w.heap.size + 1 + 1, 2, none⟩ v2).heap[w.heap.size + 1 + 1]? = some (.cells #[v0, v1, v2] 62) := fun v0 v1 v2 =>
    heap_setCell_same _ _ 2 _ 62 _ (heap_setCell_same _ _ 1 _ 62 _ (heap_setCell_same _ _ 0 _ 62 _ HE2.out))
  have HS := hideIt hS
  have HBs : Hid (∀ v0 v1 v2, Below w.heap.size w (((W1.setCell ⟨w.heap.size + 1 + 1, 0, none⟩ v0).setCell ⟨w.heap.size + 1 + 1, 1, none⟩ v1).setCell ⟨w.heap.size + 1 + 1, 2, none⟩ v2)) := fun v0 v1 v2 =>
    ((HB1.out.setCell (p := ⟨w.heap.size + 1 + 1, 0, none⟩) (show w.heap.size ≤ w.heap.size + 1 + 1 by omega) v0).setCell (p := ⟨w.heap.size + 1 + 1, 1, none⟩) (show w.heap.size ≤ w.heap.size + 1 + 1 by omega) v1).setCell (p := ⟨w.heap.size + 1 + 1, 2, none⟩) (show w.heap.size ≤ w.heap.size + 1 + 1 by omega) v2
  clear hS e0 e1 e2 hb1 HL HX0 HX1 HX2 HB0
  cases le
  · have hr : r = a := HE.out.trans (if_neg (by decide))
    have HR := hideIt hr
    go_wp2
    exact bodyPost_ret (results_one rfl _ _ _ _ rfl (loadEn (blkHd (h := a) (HS.out _ _ _)))) rfl ⟨by rw [HR.out], HBs.out _ _ _⟩
  · have hr : r = b := HE.out.trans (if_pos rfl)
    have HR := hideIt hr
    go_wp2
    exact bodyPost_ret (results_one rfl _ _ _ _ rfl (loadEn (blkHd (h := b) (HS.out _ _ _)))) rfl ⟨by rw [HR.out], HBs.out _ _ _⟩

section
variable {w0 W : World} {K : StK} {P : Pst}
set_option maxRecDepth 100000 in
theorem busyC_any (h : StoP w0 W K P) {i : Nat} (hi : i < P.k) : Calls Try.prog 37 #[.pointer (some ⟨K.C, i * 13, none⟩)] W fun e w' => e = .returned (.bool (P.cl i).busy) ∧ w' = W := by
  have c0 := (h.cx i hi).at_
  unfold Pcl.busy
  generalize (P.cl i).at_ = x at *
  clear h hi
  by_cases h1 : x = 1
  · have g1 : (x == 1) = true := by simp [h1]
    have HE : Hid ((decide (x = 1) || decide (x = 2)) = true) := by show _ = _; simp [h1]
    clear h1
    go_enter Try.func37, Try.ntmps37
    go_wp2
    go_ret
    exact ⟨ret_bool HE.out.symm, rfl⟩
  · have g1 : (x == 1) = false := by simp [h1]
    have HE : Hid ((decide (x = 1) || decide (x = 2)) = (x == 2)) := by show _ = _; simp [h1]; rfl
    clear h1
    go_enter Try.func37, Try.ntmps37
    go_wp2
    go_ret
    exact ⟨ret_bool HE.out.symm, rfl⟩

set_option maxRecDepth 100000 in
theorem hasC_any (h : StoP w0 W K P) (c : Int) : Calls Try.prog 30 #[.pointer (some ⟨K.B, 0, none⟩), .int .i64 c] W fun e w' => e = .returned (.bool (decide (0 ≤ c ∧ c < P.k))) ∧ w' = W := by
  have c8 := h.cells.2.2.2.2.1
  generalize hr : decide (0 ≤ c ∧ c < P.k) = r
  have HR := hideIt hr
  clear h hr
  by_cases h0 : 0 ≤ c
  · have g0 : decide (c ≥ 0) = true := decide_eq_true h0
    by_cases h1 : c < P.k
    · have g1 : decide (c < (P.k : Int)) = true := decide_eq_true h1
      have HE : Hid (r = true) := HR.out.symm.trans (decide_eq_true ⟨h0, h1⟩)
      go_enter Try.func30, Try.ntmps30
      go_wp2
      go_ret
      exact ⟨ret_bool HE.out.symm, rfl⟩
    · have g1 : decide (c < (P.k : Int)) = false := decide_eq_false h1
      have HE : Hid (r = false) := HR.out.symm.trans (decide_eq_false fun h => h1 h.2)
      go_enter Try.func30, Try.ntmps30
      go_wp2
      go_ret
      exact ⟨ret_bool HE.out.symm, rfl⟩
  · have g0 : decide (c ≥ 0) = false := decide_eq_false h0
    have HE : Hid (r = false) := HR.out.symm.trans (decide_eq_false fun h => h0 h.1)
    go_enter Try.func30, Try.ntmps30
    go_wp2
    go_ret
    exact ⟨ret_bool HE.out.symm, rfl⟩

set_option maxRecDepth 100000 in
set_option maxHeartbeats 1000000 in
theorem busyS_any (h : StoP w0 W K P) (hk8 : P.k ≤ 8) : Calls Try.prog 31 #[.pointer (some ⟨K.B, 0, none⟩)] W fun e w' => e = .returned (.int .i64 ((busyP P : Nat) : Int)) ∧ w' = W := by
  have c8 := h.cells.2.2.2.2.1
  have HC : Hid (∀ i, i < P.k → Calls Try.prog 37 #[.pointer (some ⟨K.C, i * 13, none⟩)] W fun e w' => e = .returned (.bool (P.cl i).busy) ∧ w' = W) := fun i hi => busyC_any h hi
  have HE : Hid (busyP P = (List.range P.k).countP fun j => (P.cl j).busy) := rfl
  generalize busyP P = r at HE ⊢
  clear h
  go_enter Try.func31, Try.ntmps31
  go_wp2
  go_loopw [10, 3] (fun v cv wr => ∃ i : Nat, i ≤ P.k ∧ v = .int .i64 i ∧ cv = .int .i64 (((List.range i).countP fun j => (P.cl j).busy : Nat) : Int) ∧ wr = W) (fun v _ _ => P.k - (intOf v).toNat)
  case atStart => exact ⟨0, Nat.zero_le _, rfl, rfl, rfl⟩
  case round =>
    obtain ⟨i, hi, rfl, rfl, rfl⟩ := hrel
    by_cases hik : i < P.k
    · have hik' : (i : Int) < P.k := by omega
      have hcl : ((List.range i).countP fun j => (P.cl j).busy) ≤ 8 := Nat.le_trans List.countP_le_length (by simp; omega)
      have HN : Hid (((List.range (i + 1)).countP fun j => (P.cl j).busy) = ((List.range i).countP fun j => (P.cl j).busy) + if (P.cl i).busy = true then 1 else 0) := by
        show _ = _
        rw [List.range_succ, List.countP_append, List.countP_singleton]
      have HCi := hideIt (HC.out i hik)
      generalize ((List.range i).countP fun j => (P.cl j).busy) = c0 at *
      generalize (P.cl i).busy = b at *
      go_wp2_with fail
      refine HCi.out.mono ?_
      rintro e w1 ⟨rfl, rfl⟩
      cases b
      · go_wp2
        go_roundw
        case rel => exact ⟨i + 1, by omega, by go_num, by rw [HN.out]; simp, trivial⟩
        case measure => simp [intOf]; omega
      · go_wp2
        go_roundw
        case rel => exact ⟨i + 1, by omega, by go_num, by rw [HN.out]; simp, trivial⟩
        case measure => simp [intOf]; omega
    · obtain rfl : i = P.k := by omega
      go_wp2
      go_ret
      exact ⟨ret_int (by rw [HE.out]), rfl⟩

set_option maxRecDepth 100000 in
set_option maxHeartbeats 1000000 in
theorem free_any (h : StoP w0 W K P) (hk8 : P.k ≤ 8) (hev : P.evs.length ≤ 1000) (c : Int) : Calls Try.prog 19 #[.pointer (some ⟨K.B, 0, none⟩), .int .i64 c] W fun e w' => e = .returned (toldE (freeP P c)) ∧ Below W.heap.size W w' := by
  have HH := hideIt (hasC_any h c)
  have c8 := h.cells.2.2.2.2.1
  have c9 := h.cells.2.2.2.2.2.1
  obtain ⟨ea, ec, ee⟩ := ownsRow_slice h.ev
  rw [ee] at c9
  have HBy : Hid (∀ q : Nat, Calls Try.prog 31 #[.pointer (some ⟨K.B, 0, none⟩)] (W.drewN q) fun e w' => e = .returned (.int .i64 ((busyP P : Nat) : Int)) ∧ w' = W.drewN q) := fun q => busyS_any (h.below (below_drewN (Below.refl _ _) q)) hk8
  by_cases h0 : 0 ≤ c ∧ c < P.k
  · rw [decide_eq_true h0] at HH
    obtain ⟨i, rfl⟩ : ∃ i : Nat, c = i := ⟨c.toNat, by omega⟩
    have hik : i < P.k := by omega
    have hik' : (i : Int) < P.k := by omega
    have a0 := (h.cx i hik).at_
    have HF : Hid (freeP P i = if (P.cl i).at_ ≠ 0 then 6 else if 120 < P.evs.length + 2 + busyP P then 4 else 0) := by
      show _ = _
      unfold freeP
      rw [if_neg (by omega), Int.toNat_natCast]
    have hbl : busyP P ≤ 8 := Nat.le_trans List.countP_le_length (by simp; omega)
    generalize freeP P i = f at HF ⊢
    generalize (P.cl i).at_ = x at *
    generalize busyP P = by_ at *
    generalize P.evs.length = el at *
    clear h
    by_cases hx : x = 0
    · have g1 : (x != 0) = false := by simp [hx]
      have HF2 : Hid (f = if 120 < el + 2 + by_ then 4 else 0) := HF.out.trans (if_neg (by simp [hx]))
      clear hx HF
      go_enter Try.func19, Try.ntmps19
      go_wp2_with fail
      refine HH.out.mono ?_
      rintro e w1 ⟨rfl, rfl⟩
      by_cases h120 : 120 < el + 2 + by_
      · have g2 : decide ((el : Int) + 2 + (by_ : Int) > 120) = true := decide_eq_true (by omega)
        have HF3 : Hid (f = 4) := HF2.out.trans (if_pos h120)
        go_wp2_with fail
        go_quiet ((go_at_call 31; exact Calls.quiet_of_same (HBy.out _)))
        go_wp2
        go_ret
        exact ⟨by rw [HF3.out]; rfl, below_drewN (Below.refl _ _) _⟩
      · have g2 : decide ((el : Int) + 2 + (by_ : Int) > 120) = false := decide_eq_false (by omega)
        have HF3 : Hid (f = 0) := HF2.out.trans (if_neg h120)
        go_wp2_with fail
        go_quiet ((go_at_call 31; exact Calls.quiet_of_same (HBy.out _)))
        go_wp2
        go_ret
        exact ⟨by rw [HF3.out]; rfl, below_drewN (Below.refl _ _) _⟩
    · have g1 : (x != 0) = true := by simp [hx]
      have HF2 : Hid (f = 6) := HF.out.trans (if_pos hx)
      clear hx
      go_enter Try.func19, Try.ntmps19
      go_wp2_with fail
      refine HH.out.mono ?_
      rintro e w1 ⟨rfl, rfl⟩
      go_wp2
      go_ret
      exact ⟨by rw [HF2.out]; rfl, Below.refl _ _⟩
  · rw [decide_eq_false h0] at HH
    have HF : Hid (freeP P c = 2) := by
      show _ = _
      unfold freeP
      rw [if_pos (by omega)]
    generalize freeP P c = f at HF ⊢
    clear h
    go_enter Try.func19, Try.ntmps19
    go_wp2_with fail
    refine HH.out.mono ?_
    rintro e w1 ⟨rfl, rfl⟩
    go_wp2
    go_ret
    exact ⟨by rw [HF.out]; rfl, Below.refl _ _⟩
end
end Go.Proofs.Ytncnojgemmcplaa
