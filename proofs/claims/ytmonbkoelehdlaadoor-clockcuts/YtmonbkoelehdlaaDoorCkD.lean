/-
  The document's own ClockCheck, walked.
-/
import Derived.Test.YtmonbkoelehdlaaDoorCcW
import Derived.Deep.DeepCutAuto
namespace Go.Proofs.YtmonbkoelehdlaaDoor
open Go.RowKit

theorem sentB_stop {l : List Stp} {m : Int} {k : Nat} : sentB l m (k + 1) = (sentB l m k || ((stZ l k).k == 2 && (stZ l k).m == m)) := sentB_succ l m k
theorem gotB_stop {l : List Stp} {m : Int} {k : Nat} : gotB l m (k + 1) = (gotB l m k || ((stZ l k).k == 3 && (stZ l k).m == m)) := gotB_succ l m k
/-- What ClockCheck tells: its result's cell. -/
def fltA (n pl : Int) : Value := .agg #[.int .i64 n, .int .i64 pl]
theorem load27 {w : World} {g : Nat} {n pl : Int} (h0 : w.cell? ⟨g, 0, none⟩ = some (.int .i64 n)) (h1 : w.cell? ⟨g, 1, none⟩ = some (.int .i64 pl)) : (loadVar 27 ⟨g, 0, none⟩).run Tryd.prog w = .ok (fltA n pl) w :=
  run_loadVar_mid w g 0 27 [.int .i64 n, .int .i64 pl] _ (fun j u hu => by
    match j, hu with
    | 0, hu => simp at hu; subst hu; exact h0
    | 1, hu => simp at hu; subst hu; exact h1) Tryd.underlying27 rfl (by kernel_rfl)

/-- The result's cell, of one's own. -/
structure ResC (w : World) (g : Nat) : Prop where
  blk : ∃ cur t, w.heap[g]? = some (.cells cur t (0, 0))
  c0 : ∃ x, w.cell? ⟨g, 0, none⟩ = some x
  c1 : ∃ x, w.cell? ⟨g, 1, none⟩ = some x
theorem ResC.fz {w : World} {g : Nat} (h : ResC w g) (i : Nat) : w.frozen? ⟨g, i, none⟩ = false := by
  obtain ⟨cur, t, hc⟩ := h.blk
  exact frozen_of_row w g i cur t hc
theorem ResC.lt {w : World} {g : Nat} (h : ResC w g) : g < w.heap.size := by
  obtain ⟨cur, t, hc⟩ := h.blk
  exact lt_of_heap hc
theorem ResC.block {w w' : World} {g : Nat} (h : ResC w g) (hb : w'.heap[g]? = w.heap[g]?) : ResC w' g := by
  obtain ⟨cur, t, hc⟩ := h.blk
  obtain ⟨x, hx⟩ := h.c0
  obtain ⟨y, hy⟩ := h.c1
  exact ⟨⟨cur, t, hb.trans hc⟩, ⟨x, (World.cell?_of_block (a := ⟨g, 0, none⟩) hb).trans hx⟩, ⟨y, (World.cell?_of_block (a := ⟨g, 1, none⟩) hb).trans hy⟩⟩
theorem ResC.alloc {w : World} {g : Nat} (h : ResC w g) (o : Obj) : ResC (w.alloc o) g := h.block (Below.heap_alloc _ _ _ h.lt)
theorem resC_made (w : World) : ResC (w.alloc (.cells #[.int .i64 0, .int .i64 0] 27)) w.heap.size := ⟨⟨_, _, heap_alloc_new w _⟩, ⟨.int .i64 0, by simp⟩, ⟨.int .i64 0, by simp⟩⟩
theorem ResC.res {w : World} {g : Nat} (h : ResC w g) (n pl : Int) : (loadVar 27 ⟨g, 0, none⟩).run Tryd.prog ((w.setCell ⟨g, 0, none⟩ (.int .i64 n)).setCell ⟨g, 1, none⟩ (.int .i64 pl)) = .ok (fltA n pl) ((w.setCell ⟨g, 0, none⟩ (.int .i64 n)).setCell ⟨g, 1, none⟩ (.int .i64 pl)) := by
  obtain ⟨x, hx⟩ := h.c0
  obtain ⟨y, hy⟩ := h.c1
  refine load27 ?_ ?_
  · rw [World.cell?_setCell_other _ _ _ _ (offN (by omega))]
    exact World.cell?_setCell_same _ _ _ hx
  · have hy' : (w.setCell ⟨g, 0, none⟩ (.int .i64 n)).cell? ⟨g, 1, none⟩ = some y := by
      rw [World.cell?_setCell_other _ _ _ _ (offN (by omega))]
      exact hy
    exact World.cell?_setCell_same _ _ _ hy'
/-- What the variable Fine holds. -/
def FineAt (w : World) : Prop := w.cell? ⟨0, 0, none⟩ = some (.int .i64 0) ∧ w.cell? ⟨0, 1, none⟩ = some (.int .i64 (-1))
theorem FineAt.below {w w' : World} (h : FineAt w) (hb : Below w.heap.size w w') : FineAt w' := by
  have h0 := World.block_lt_of_cell? w _ h.1
  exact ⟨(hb.cell (p := ⟨0, 0, none⟩) h0).trans h.1, (hb.cell (p := ⟨0, 1, none⟩) h0).trans h.2⟩

/-- What ClockCheck has seen of the steps ahead. -/
def StpN (w : World) (g : Nat) (x : Stp) : Prop := w.cell? ⟨g, 0, none⟩ = some (.int .i64 x.p) ∧ w.cell? ⟨g, 1, none⟩ = some (.int .i64 x.k) ∧ w.cell? ⟨g, 2, none⟩ = some (.int .i64 x.m)
theorem StpN.below {B : Nat} {w w' : World} {g : Nat} {x : Stp} (h : StpN w g x) (hb : Below B w w') (hg : g < B) : StpN w' g x :=
  ⟨(hb.cell (p := ⟨g, 0, none⟩) hg).trans h.1, (hb.cell (p := ⟨g, 1, none⟩) hg).trans h.2.1, (hb.cell (p := ⟨g, 2, none⟩) hg).trans h.2.2⟩

set_option maxRecDepth 100000 in
set_option maxHeartbeats 4000000 in
theorem rCheck_any (l : List Stp) (a : Option Addr) (cap : Nat) (w : World) (hcap : l.length ≤ cap) (hmax : l.length ≤ 60) (hl : StpsQ w a l) (hF : FineAt w) :
    Calls Tryd.prog 10 #[.slice a l.length cap] w fun e w' => ∃ n pl, e = .returned (fltA n pl) ∧ CkC l n pl ∧ Below w.heap.size w w' := by
  have HL := hideIt hl
  have HF := hideIt hF
  clear hl hF
  have HR0 := hideIt (resC_made w)
  have HB0 : Hid (Below w.heap.size w (w.alloc (.cells #[.int .i64 0, .int .i64 0] 27))) := belA (Below.refl _ _) _
  have HRet : Hid (∀ wr n pl, ResC wr w.heap.size → Below w.heap.size w wr → Below w.heap.size w ((wr.setCell ⟨w.heap.size, 0, none⟩ (.int .i64 n)).setCell ⟨w.heap.size, 1, none⟩ (.int .i64 pl))) := fun wr n pl _ hb => (hb.setCell (Nat.le_refl _) _).setCell (Nat.le_refl _) _
  by_cases h40 : l.length ≤ 40
  · go_enter Tryd.func10, Tryd.ntmps10
    go_wp2
    generalize w.alloc (.cells #[.int .i64 0, .int .i64 0] 27) = W at HR0 HB0 ⊢
    go_loopw [15] (fun i wr => ∃ k : Nat, k ≤ l.length ∧ i = .int .i64 k ∧ (∀ j, j < k → fltC l j = 0) ∧ ResC wr w.heap.size ∧ Below w.heap.size w wr) (fun i _ => l.length - (intOf i).toNat)
    case atStart => exact ⟨0, Nat.zero_le _, rfl, fun j hj => absurd hj (by omega), HR0.out, HB0.out⟩
    case round =>
      clear HR0 HB0
      obtain ⟨k, hk, rfl, ha, hr, hb⟩ := hrel
      have HA := hideIt ha
      have HR := hideIt hr
      have HB := hideIt hb
      have hRl := hr.lt
      clear ha hr hb
      by_cases hkl : k < l.length
      · obtain ⟨b, off, rfl, hlt, hst⟩ : ∃ b off, a = some ⟨b, off, none⟩ ∧ b < w.heap.size ∧ StpsAt w b off l := by
          rcases HL.out with h | h
          · subst h; simp at hkl
          · exact h
        obtain ⟨c0, c1, c2⟩ := (hst k hkl).below hlt HB.out
        have HX : Hid (stZ l k = l[k]) := stZ_at hkl
        have HSt := hideIt hst
        generalize l[k] = x at c0 c1 c2 HX
        clear hst HL
        go_upto_region 6 with fail
        have HRA := hideIt (HR.out.alloc (.cells #[.int .i64 x.p, .int .i64 x.k, .int .i64 x.m] 60))
        have HBA : Hid (Below w.heap.size w (wr.alloc (.cells #[.int .i64 x.p, .int .i64 x.k, .int .i64 x.m] 60))) := belA HB.out _
        have hXA : StpN (wr.alloc (.cells #[.int .i64 x.p, .int .i64 x.k, .int .i64 x.m] 60)) wr.heap.size x := ⟨by simp, by simp, by simp⟩
        have hwl : wr.heap.size < (wr.alloc (.cells #[.int .i64 x.p, .int .i64 x.k, .int .i64 x.m] 60)).heap.size := by simp
        clear c0 c1 c2
        generalize wr.alloc (.cells #[.int .i64 x.p, .int .i64 x.k, .int .i64 x.m] 60) = WA at HRA HBA hXA hwl ⊢
        have HXA := hideIt hXA
        obtain ⟨d0, d1, d2⟩ := hXA
        by_cases g0 : x.p < 0
        · have hfx : fltS x = 2 := by unfold fltS; rw [if_pos (by omega)]
          have hfc : fltC l k = 2 := by unfold fltC; rw [HX.out, hfx, if_neg (by decide)]
          have HE : Hid (CkC l 2 k) := .inr ⟨h40, .inr ⟨k, hkl, HA.out, by rw [hfc]; decide, hfc.symm, rfl⟩⟩
          obtain ⟨y0, q0⟩ := HRA.out.c0
          obtain ⟨y1, q1⟩ := HRA.out.c1
          have z1 := HRA.out.fz
          clear hfx hfc
          go_wp2
          refine bodyPost_ret (results_one rfl _ _ _ _ rfl (HRA.out.res 2 k)) rfl ?_
          exact ⟨2, k, rfl, HE.out, HRet.out _ _ _ HRA.out HBA.out⟩
        by_cases g1 : 7 < x.p
        · have hfx : fltS x = 2 := by unfold fltS; rw [if_pos (by omega)]
          have hfc : fltC l k = 2 := by unfold fltC; rw [HX.out, hfx, if_neg (by decide)]
          have HE : Hid (CkC l 2 k) := .inr ⟨h40, .inr ⟨k, hkl, HA.out, by rw [hfc]; decide, hfc.symm, rfl⟩⟩
          obtain ⟨y0, q0⟩ := HRA.out.c0
          obtain ⟨y1, q1⟩ := HRA.out.c1
          have z1 := HRA.out.fz
          clear hfx hfc
          go_wp2
          refine bodyPost_ret (results_one rfl _ _ _ _ rfl (HRA.out.res 2 k)) rfl ?_
          exact ⟨2, k, rfl, HE.out, HRet.out _ _ _ HRA.out HBA.out⟩
        by_cases g2 : x.m < 0
        · have hfx : fltS x = 2 := by unfold fltS; rw [if_pos (by omega)]
          have hfc : fltC l k = 2 := by unfold fltC; rw [HX.out, hfx, if_neg (by decide)]
          have HE : Hid (CkC l 2 k) := .inr ⟨h40, .inr ⟨k, hkl, HA.out, by rw [hfc]; decide, hfc.symm, rfl⟩⟩
          obtain ⟨y0, q0⟩ := HRA.out.c0
          obtain ⟨y1, q1⟩ := HRA.out.c1
          have z1 := HRA.out.fz
          clear hfx hfc
          go_wp2
          refine bodyPost_ret (results_one rfl _ _ _ _ rfl (HRA.out.res 2 k)) rfl ?_
          exact ⟨2, k, rfl, HE.out, HRet.out _ _ _ HRA.out HBA.out⟩
        by_cases g3 : 1000000 < x.m
        · have hfx : fltS x = 2 := by unfold fltS; rw [if_pos (by omega)]
          have hfc : fltC l k = 2 := by unfold fltC; rw [HX.out, hfx, if_neg (by decide)]
          have HE : Hid (CkC l 2 k) := .inr ⟨h40, .inr ⟨k, hkl, HA.out, by rw [hfc]; decide, hfc.symm, rfl⟩⟩
          obtain ⟨y0, q0⟩ := HRA.out.c0
          obtain ⟨y1, q1⟩ := HRA.out.c1
          have z1 := HRA.out.fz
          clear hfx hfc
          go_wp2
          refine bodyPost_ret (results_one rfl _ _ _ _ rfl (HRA.out.res 2 k)) rfl ?_
          exact ⟨2, k, rfl, HE.out, HRet.out _ _ _ HRA.out HBA.out⟩
        by_cases g4 : x.k < 1
        · have hfx : fltS x = 1 := by unfold fltS; rw [if_neg (by omega), if_pos (by omega)]
          have hfc : fltC l k = 1 := by unfold fltC; rw [HX.out, hfx, if_neg (by decide)]
          have HE : Hid (CkC l 1 k) := .inr ⟨h40, .inr ⟨k, hkl, HA.out, by rw [hfc]; decide, hfc.symm, rfl⟩⟩
          obtain ⟨y0, q0⟩ := HRA.out.c0
          obtain ⟨y1, q1⟩ := HRA.out.c1
          have z1 := HRA.out.fz
          clear hfx hfc
          go_wp2
          refine bodyPost_ret (results_one rfl _ _ _ _ rfl (HRA.out.res 1 k)) rfl ?_
          exact ⟨1, k, rfl, HE.out, HRet.out _ _ _ HRA.out HBA.out⟩
        by_cases g5 : 3 < x.k
        · have hfx : fltS x = 1 := by unfold fltS; rw [if_neg (by omega), if_pos (by omega)]
          have hfc : fltC l k = 1 := by unfold fltC; rw [HX.out, hfx, if_neg (by decide)]
          have HE : Hid (CkC l 1 k) := .inr ⟨h40, .inr ⟨k, hkl, HA.out, by rw [hfc]; decide, hfc.symm, rfl⟩⟩
          obtain ⟨y0, q0⟩ := HRA.out.c0
          obtain ⟨y1, q1⟩ := HRA.out.c1
          have z1 := HRA.out.fz
          clear hfx hfc
          go_wp2
          refine bodyPost_ret (results_one rfl _ _ _ _ rfl (HRA.out.res 1 k)) rfl ?_
          exact ⟨1, k, rfl, HE.out, HRet.out _ _ _ HRA.out HBA.out⟩
        by_cases g6 : x.k = 1 ∧ x.m ≠ 0
        · obtain ⟨g7, g8⟩ := g6
          have g9 : (x.m != 0) = true := by simp [g8]
          have hfx : fltS x = 1 := by unfold fltS; rw [if_neg (by omega), if_pos (.inr (.inr ⟨g7, g8⟩))]
          have hfc : fltC l k = 1 := by unfold fltC; rw [HX.out, hfx, if_neg (by decide)]
          have HE : Hid (CkC l 1 k) := .inr ⟨h40, .inr ⟨k, hkl, HA.out, by rw [hfc]; decide, hfc.symm, rfl⟩⟩
          obtain ⟨y0, q0⟩ := HRA.out.c0
          obtain ⟨y1, q1⟩ := HRA.out.c1
          have z1 := HRA.out.fz
          clear hfx hfc
          go_wp2
          refine bodyPost_ret (results_one rfl _ _ _ _ rfl (HRA.out.res 1 k)) rfl ?_
          exact ⟨1, k, rfl, HE.out, HRet.out _ _ _ HRA.out HBA.out⟩
        have hfx : fltS x = 0 := by unfold fltS; rw [if_neg (by omega), if_neg (fun h => h.elim g4 fun h => h.elim g5 g6)]
        have HFX := hideIt hfx
        clear hfx
        go_upto_region 8 with fail
        go_cut [57] (fun c wx => c = .bool false ∧ wx = WA)
        case first =>
          by_cases h1 : x.k = 1
          · have h2 : (x.m != 0) = false := by simp; exact Classical.byContradiction fun h => g6 ⟨h1, h⟩
            go_wp2
            go_meet
            exact ⟨rfl, rfl⟩
          · go_wp2
            go_meet
            exact ⟨rfl, rfl⟩
        case rest =>
          obtain ⟨rfl, rfl⟩ := hcut
          clear g0 g1 g2 g3 g4 g5 g6 d0 d1 d2
          have hkc : k ≤ cap := by omega
          generalize wr.heap.size = Gx at HXA hwl ⊢
          go_wp2
          go_loopw [5, 6, 64] (fun s5 s6 v wz => ∃ i : Nat, i ≤ k ∧ s5 = .bool (sentB l x.m i) ∧ s6 = .bool (gotB l x.m i) ∧ v = .int .i64 i ∧ ResC wz w.heap.size ∧ StpN wz Gx x ∧ Below w.heap.size w wz ∧ Gx < wz.heap.size) (fun _ _ v _ => k - (intOf v).toNat)
          case atStart => exact ⟨0, Nat.zero_le _, rfl, rfl, rfl, HRA.out, HXA.out, HBA.out, hwl⟩
          case round =>
            clear HRA HBA HXA hwl
            obtain ⟨i, hi, rfl, rfl, rfl, hrz, hxz, hbz, hwz⟩ := hrel
            have HRz := hideIt hrz
            have HBz := hideIt hbz
            have HXz := hideIt hxz
            clear hrz hbz
            by_cases hik : i < k
            · obtain ⟨c0, c1, c2⟩ := (HSt.out i (by omega)).below hlt HBz.out
              have HY : Hid (stZ l i = l[i]) := stZ_at (by omega)
              generalize l[i] = y at c0 c1 c2 HY
              have HS1 : Hid (sentB l x.m (i + 1) = (sentB l x.m i || (y.k == 2 && y.m == x.m))) := by show sentB l x.m (i + 1) = _; rw [sentB_stop, HY.out]
              have HG1 : Hid (gotB l x.m (i + 1) = (gotB l x.m i || (y.k == 3 && y.m == x.m))) := by show gotB l x.m (i + 1) = _; rw [gotB_stop, HY.out]
              generalize sentB l x.m i = sb at HS1 ⊢
              generalize gotB l x.m i = gb at HG1 ⊢
              obtain ⟨d0, d1, d2⟩ := hxz
              go_upto_region 14 with fail
              have HRb := hideIt (HRz.out.alloc (.cells #[.int .i64 y.p, .int .i64 y.k, .int .i64 y.m] 60))
              have HBb : Hid (Below w.heap.size w (wr.alloc (.cells #[.int .i64 y.p, .int .i64 y.k, .int .i64 y.m] 60))) := belA HBz.out _
              have hYb : StpN (wr.alloc (.cells #[.int .i64 y.p, .int .i64 y.k, .int .i64 y.m] 60)) wr.heap.size y := ⟨by simp, by simp, by simp⟩
              have HXb : Hid (StpN (wr.alloc (.cells #[.int .i64 y.p, .int .i64 y.k, .int .i64 y.m] 60)) Gx x) := HXz.out.below ((Below.refl _ _).alloc (Nat.le_refl _) _) hwz
              have hwz2 : Gx < (wr.alloc (.cells #[.int .i64 y.p, .int .i64 y.k, .int .i64 y.m] 60)).heap.size := by simp; omega
              clear c0 c1 c2 d0 d1 d2 HRz HBz HXz
              generalize wr.alloc (.cells #[.int .i64 y.p, .int .i64 y.k, .int .i64 y.m] 60) = WZ at HRb HBb hYb HXb hwz2 ⊢
              obtain ⟨_, e1, e2⟩ := hYb
              have x2 := HXb.out.2.2
              clear HSt HA HX HFX HY
              have HFin : Hid (∀ s5 s6, s5 = sentB l x.m (i + 1) → s6 = gotB l x.m (i + 1) → ∃ i' : Nat, i' ≤ k ∧ Value.bool s5 = .bool (sentB l x.m i') ∧ Value.bool s6 = .bool (gotB l x.m i') ∧ Value.int .i64 ((i : Int) + 1) = .int .i64 i' ∧ ResC WZ w.heap.size ∧ StpN WZ Gx x ∧ Below w.heap.size w WZ ∧ Gx < WZ.heap.size) := fun s5 s6 h5 h6 => ⟨i + 1, by omega, by rw [h5], by rw [h6], by go_num, HRb.out, HXb.out, HBb.out, hwz2⟩
              rw [HS1.out, HG1.out] at HFin
              clear HS1 HG1 HRb HXb HBb
              by_cases hm : y.m = x.m
              · have hm' : (y.m == x.m) = true := by simp [hm]
                clear hm
                by_cases h2 : y.k = 2
                · have k2 : (y.k == 2) = true := by simp [h2]
                  have k3 : (y.k == 3) = false := by simp [h2]
                  clear h2
                  cases sb <;> cases gb
                  all_goals
                    go_wp2
                    go_roundw
                    case rel => exact HFin.out _ _ (by simp [*]) (by simp [*])
                    case measure => simp [intOf]; omega
                · have k2 : (y.k == 2) = false := by simp [h2]
                  by_cases h3 : y.k = 3
                  · have k3 : (y.k == 3) = true := by simp [h3]
                    clear h2 h3
                    cases sb <;> cases gb
                    all_goals
                      go_wp2
                      go_roundw
                      case rel => exact HFin.out _ _ (by simp [*]) (by simp [*])
                      case measure => simp [intOf]; omega
                  · have k3 : (y.k == 3) = false := by simp [h3]
                    clear h2 h3
                    cases sb <;> cases gb
                    all_goals
                      go_wp2
                      go_roundw
                      case rel => exact HFin.out _ _ (by simp [*]) (by simp [*])
                      case measure => simp [intOf]; omega
              · have hm' : (y.m == x.m) = false := by simp [hm]
                clear hm
                by_cases h2 : y.k = 2
                · have k2 : (y.k == 2) = true := by simp [h2]
                  have k3 : (y.k == 3) = false := by simp [h2]
                  clear h2
                  cases sb <;> cases gb
                  all_goals
                    go_wp2
                    go_roundw
                    case rel => exact HFin.out _ _ (by simp [*]) (by simp [*])
                    case measure => simp [intOf]; omega
                · have k2 : (y.k == 2) = false := by simp [h2]
                  by_cases h3 : y.k = 3
                  · have k3 : (y.k == 3) = true := by simp [h3]
                    clear h2 h3
                    cases sb <;> cases gb
                    all_goals
                      go_wp2
                      go_roundw
                      case rel => exact HFin.out _ _ (by simp [*]) (by simp [*])
                      case measure => simp [intOf]; omega
                  · have k3 : (y.k == 3) = false := by simp [h3]
                    clear h2 h3
                    cases sb <;> cases gb
                    all_goals
                      go_wp2
                      go_roundw
                      case rel => exact HFin.out _ _ (by simp [*]) (by simp [*])
                      case measure => simp [intOf]; omega
            · obtain rfl : i = k := by omega
              obtain ⟨d0, d1, d2⟩ := hxz
              obtain ⟨y0, q0⟩ := HRz.out.c0
              obtain ⟨y1, q1⟩ := HRz.out.c1
              have z1 := HRz.out.fz
              obtain ⟨sb, hsb⟩ : ∃ sb, sentB l x.m i = sb := ⟨_, rfl⟩
              obtain ⟨gb, hgb⟩ : ∃ gb, gotB l x.m i = gb := ⟨_, rfl⟩
              rw [hsb, hgb]
              have HSB := hideIt hsb
              have HGB := hideIt hgb
              clear hsb hgb
              by_cases h2 : x.k = 2
              · have k2 : (x.k == 2) = true := by simp [h2]
                have k3 : (x.k == 3) = false := by simp [h2]
                cases sb
                · have hfc : fltC l i = 0 := by unfold fltC; rw [HX.out, if_pos HFX.out]; unfold fltM; rw [HX.out]; rw [if_neg (by rw [HSB.out]; simp [h2]), if_neg (by omega)]
                  have R1 : Hid (∀ j, j < i + 1 → fltC l j = 0) := fun j hj => by
                    by_cases e : j = i
                    · subst e; exact hfc
                    · exact HA.out j (by omega)
                  clear hfc
                  go_wp2
                  go_roundw
                  case rel => exact ⟨i + 1, by omega, by go_num, R1.out, HRz.out, HBz.out⟩
                  case measure => simp [intOf]; omega
                · have hfc : fltC l i = 9 := by unfold fltC; rw [HX.out, if_pos HFX.out]; unfold fltM; rw [HX.out]; rw [if_pos (.inl ⟨h2, HSB.out⟩)]
                  have HE : Hid (CkC l 9 i) := .inr ⟨h40, .inr ⟨i, hkl, HA.out, by rw [hfc]; decide, hfc.symm, rfl⟩⟩
                  clear hfc
                  go_wp2
                  refine bodyPost_ret (results_one rfl _ _ _ _ rfl (HRz.out.res 9 i)) rfl ?_
                  exact ⟨9, i, rfl, HE.out, HRet.out _ _ _ HRz.out HBz.out⟩
              · have k2 : (x.k == 2) = false := by simp [h2]
                by_cases h3 : x.k = 3
                · have k3 : (x.k == 3) = true := by simp [h3]
                  cases gb
                  · cases sb
                    · have hfc : fltC l i = 7 := by unfold fltC; rw [HX.out, if_pos HFX.out]; unfold fltM; rw [HX.out]; rw [if_neg (by rw [HGB.out]; simp [h3]), if_pos ⟨h3, HSB.out⟩]
                      have HE : Hid (CkC l 7 i) := .inr ⟨h40, .inr ⟨i, hkl, HA.out, by rw [hfc]; decide, hfc.symm, rfl⟩⟩
                      clear hfc
                      go_wp2
                      refine bodyPost_ret (results_one rfl _ _ _ _ rfl (HRz.out.res 7 i)) rfl ?_
                      exact ⟨7, i, rfl, HE.out, HRet.out _ _ _ HRz.out HBz.out⟩
                    · have hfc : fltC l i = 0 := by unfold fltC; rw [HX.out, if_pos HFX.out]; unfold fltM; rw [HX.out]; rw [if_neg (by rw [HGB.out]; simp [h3]), if_neg (by rw [HSB.out]; simp)]
                      have R1 : Hid (∀ j, j < i + 1 → fltC l j = 0) := fun j hj => by
                        by_cases e : j = i
                        · subst e; exact hfc
                        · exact HA.out j (by omega)
                      clear hfc
                      go_wp2
                      go_roundw
                      case rel => exact ⟨i + 1, by omega, by go_num, R1.out, HRz.out, HBz.out⟩
                      case measure => simp [intOf]; omega
                  · have hfc : fltC l i = 9 := by unfold fltC; rw [HX.out, if_pos HFX.out]; unfold fltM; rw [HX.out]; rw [if_pos (.inr ⟨h3, HGB.out⟩)]
                    have HE : Hid (CkC l 9 i) := .inr ⟨h40, .inr ⟨i, hkl, HA.out, by rw [hfc]; decide, hfc.symm, rfl⟩⟩
                    clear hfc
                    go_wp2
                    refine bodyPost_ret (results_one rfl _ _ _ _ rfl (HRz.out.res 9 i)) rfl ?_
                    exact ⟨9, i, rfl, HE.out, HRet.out _ _ _ HRz.out HBz.out⟩
                · have k3 : (x.k == 3) = false := by simp [h3]
                  have hfc : fltC l i = 0 := by unfold fltC; rw [HX.out, if_pos HFX.out]; unfold fltM; rw [HX.out]; rw [if_neg (by omega), if_neg (by omega)]
                  have R1 : Hid (∀ j, j < i + 1 → fltC l j = 0) := fun j hj => by
                    by_cases e : j = i
                    · subst e; exact hfc
                    · exact HA.out j (by omega)
                  clear hfc
                  go_wp2
                  go_roundw
                  case rel => exact ⟨i + 1, by omega, by go_num, R1.out, HRz.out, HBz.out⟩
                  case measure => simp [intOf]; omega
      · have HE : Hid (CkC l 0 (-1)) := .inr ⟨h40, .inl ⟨fun j hj => HA.out j (by omega), rfl, rfl⟩⟩
        obtain ⟨f0, f1⟩ := HF.out.below HB.out
        obtain ⟨y0, q0⟩ := HR.out.c0
        obtain ⟨y1, q1⟩ := HR.out.c1
        have z1 := HR.out.fz
        go_wp2
        refine bodyPost_ret (results_one rfl _ _ _ _ rfl (HR.out.res 0 (-1))) rfl ?_
        exact ⟨0, -1, rfl, HE.out, HRet.out _ _ _ HR.out HB.out⟩
  · have HE : Hid (CkC l 4 (-1)) := .inl ⟨by omega, rfl, rfl⟩
    obtain ⟨y0, q0⟩ := HR0.out.c0
    obtain ⟨y1, q1⟩ := HR0.out.c1
    have z1 := HR0.out.fz
    go_enter Tryd.func10, Tryd.ntmps10
    go_wp2
    refine bodyPost_ret (results_one rfl _ _ _ _ rfl (load27 (n := 4) (pl := -1) (by simp) (by simp))) rfl ?_
    exact ⟨4, -1, rfl, HE.out, belA (Below.refl _ _) _⟩
end Go.Proofs.YtmonbkoelehdlaaDoor
