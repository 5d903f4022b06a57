/-
  The document's SerialCheck, walked.
-/
import Derived.Test.YtibdchahallbjabDoorCsPZ
import Derived.Deep.DeepCutAuto
import Derived.Deep.CutBlock
namespace Go.Proofs.YtibdchahallbjabDoor
open Go.RowKit

theorem results_one {fn : Func} {p : Tmp} {ty : TypeId} (h : fn.results = #[.cell p ty]) (tmps : Array Value) (w : World) (g : Nat) (v : Value)
    (hp : tmps.getD p undef = .pointer (some ⟨g, 0, none⟩)) (hl : (loadVar ty ⟨g, 0, none⟩).run Tryd.prog w = .ok v w) : (results fn tmps).run Tryd.prog w = .ok v w := by
  have hp' : tmps[p]?.getD undef = .pointer (some ⟨g, 0, none⟩) := by simpa using hp
  simp [results, h, hp', asAddr, hl]

/-- What the document tells: its result's cell. -/
def fltA (n pl : Int) : Value := .agg #[.int .i64 n, .int .i64 pl]
theorem load49 {w : World} {g : Nat} {n pl : Int} (h0 : w.cell? ⟨g, 0, none⟩ = some (.int .i64 n)) (h1 : w.cell? ⟨g, 1, none⟩ = some (.int .i64 pl)) : (loadVar 27 ⟨g, 0, none⟩).run Tryd.prog w = .ok (fltA n pl) w :=
  run_loadVar_mid w g 0 27 [.int .i64 n, .int .i64 pl] _ (fun j u hu => by
    match j, hu with
    | 0, hu => simp at hu; subst hu; exact h0
    | 1, hu => simp at hu; subst hu; exact h1) Tryd.underlying27 rfl (by kernel_rfl)

/-- The result's cell, of one's own. -/
structure ResC (w : World) (g : Nat) : Prop where
  blk : ∃ cur t, w.heap[g]? = some (.cells cur t (0, 0))
  c0 : ∃ x, w.cell? ⟨g, 0, none⟩ = some x
  c1 : ∃ x, w.cell? ⟨g, 1, none⟩ = some x
theorem ResC.fz {w : World} {g : Nat} (h : ResC w g) (i : Nat) : w.frozen? ⟨g, i, none⟩ = false := by
  obtain ⟨cur, t, hc⟩ := h.blk
  exact frozen_of_row w g i cur t hc
theorem ResC.lt {w : World} {g : Nat} (h : ResC w g) : g < w.heap.size := by
  obtain ⟨cur, t, hc⟩ := h.blk
  exact lt_of_heap hc
theorem ResC.block {w w' : World} {g : Nat} (h : ResC w g) (hb : w'.heap[g]? = w.heap[g]?) : ResC w' g := by
  obtain ⟨cur, t, hc⟩ := h.blk
  obtain ⟨x, hx⟩ := h.c0
  obtain ⟨y, hy⟩ := h.c1
  exact ⟨⟨cur, t, hb.trans hc⟩, ⟨x, (World.cell?_of_block (a := ⟨g, 0, none⟩) hb).trans hx⟩, ⟨y, (World.cell?_of_block (a := ⟨g, 1, none⟩) hb).trans hy⟩⟩
theorem ResC.alloc {w : World} {g : Nat} (h : ResC w g) (o : Obj) : ResC (w.alloc o) g := h.block (Below.heap_alloc _ _ _ h.lt)
theorem resC_made (w : World) : ResC (w.alloc (.cells #[.int .i64 0, .int .i64 0] 27)) w.heap.size := ⟨⟨_, _, heap_alloc_new w _⟩, ⟨.int .i64 0, by simp⟩, ⟨.int .i64 0, by simp⟩⟩
theorem ResC.res {w : World} {g : Nat} (h : ResC w g) (n pl : Int) : (loadVar 27 ⟨g, 0, none⟩).run Tryd.prog ((w.setCell ⟨g, 0, none⟩ (.int .i64 n)).setCell ⟨g, 1, none⟩ (.int .i64 pl)) = .ok (fltA n pl) ((w.setCell ⟨g, 0, none⟩ (.int .i64 n)).setCell ⟨g, 1, none⟩ (.int .i64 pl)) := by
  obtain ⟨x, hx⟩ := h.c0
  obtain ⟨y, hy⟩ := h.c1
  refine load49 ?_ ?_
  · rw [World.cell?_setCell_other _ _ _ _ (offN (by omega))]
    exact World.cell?_setCell_same _ _ _ hx
  · have hy' : (w.setCell ⟨g, 0, none⟩ (.int .i64 n)).cell? ⟨g, 1, none⟩ = some y := by
      rw [World.cell?_setCell_other _ _ _ _ (offN (by omega))]
      exact hy
    exact World.cell?_setCell_same _ _ _ hy'
/-- What the variable Fine holds. -/
def FineAt (w : World) : Prop := w.cell? ⟨0, 0, none⟩ = some (.int .i64 0) ∧ w.cell? ⟨0, 1, none⟩ = some (.int .i64 (-1))
theorem FineAt.below {w w' : World} (h : FineAt w) (hb : Below w.heap.size w w') : FineAt w' := by
  have h0 := World.block_lt_of_cell? w _ h.1
  exact ⟨(hb.cell (p := ⟨0, 0, none⟩) h0).trans h.1, (hb.cell (p := ⟨0, 1, none⟩) h0).trans h.2⟩

/-- What is seen of the steps ahead. -/
def StpN (w : World) (g : Nat) (x : Stp) : Prop := w.cell? ⟨g, 0, none⟩ = some (.int .i64 x.p) ∧ w.cell? ⟨g, 1, none⟩ = some (.int .i64 x.k) ∧ w.cell? ⟨g, 2, none⟩ = some (.int .i64 x.m)
theorem StpN.below {B : Nat} {w w' : World} {g : Nat} {x : Stp} (h : StpN w g x) (hb : Below B w w') (hg : g < B) : StpN w' g x :=
  ⟨(hb.cell (p := ⟨g, 0, none⟩) hg).trans h.1, (hb.cell (p := ⟨g, 1, none⟩) hg).trans h.2.1, (hb.cell (p := ⟨g, 2, none⟩) hg).trans h.2.2⟩

set_option maxRecDepth 100000 in
set_option maxHeartbeats 4000000 in
theorem rSCheck_any (l : List Stp) (a : Option Addr) (cap : Nat) (w : World) (hcap : l.length ≤ cap) (hmax : l.length ≤ 100) (hl : StpsQ w a l) (hF : FineAt w) :
    Calls Tryd.prog 10 #[.slice a l.length cap] w fun e w' => ∃ n pl, e = .returned (fltA n pl) ∧ CkS l n pl ∧ Below w.heap.size w w' := by
  have HL := hideIt hl
  have HF := hideIt hF
  clear hl hF
  have HR0 := hideIt (resC_made w)
  have HB0 : Hid (Below w.heap.size w (w.alloc (.cells #[.int .i64 0, .int .i64 0] 27))) := belA (Below.refl _ _) _
  have HRet : Hid (∀ wr n pl, ResC wr w.heap.size → Below w.heap.size w wr → Below w.heap.size w ((wr.setCell ⟨w.heap.size, 0, none⟩ (.int .i64 n)).setCell ⟨w.heap.size, 1, none⟩ (.int .i64 pl))) := fun wr n pl _ hb => (hb.setCell (Nat.le_refl _) _).setCell (Nat.le_refl _) _
  by_cases h60 : l.length ≤ 60
  · go_enter Tryd.func10, Tryd.ntmps10
    go_wp2
    generalize w.alloc (.cells #[.int .i64 0, .int .i64 0] 27) = W at HR0 HB0 ⊢
    go_loopw [13] (fun i wr => ∃ k : Nat, k ≤ l.length ∧ i = .int .i64 k ∧ (∀ j, j < k → fltQ l j = 0) ∧ ResC wr w.heap.size ∧ Below w.heap.size w wr) (fun i _ => l.length - (intOf i).toNat)
    case atStart => exact ⟨0, Nat.zero_le _, rfl, fun j hj => absurd hj (by omega), HR0.out, HB0.out⟩
    case round =>
      clear HR0 HB0
      obtain ⟨k, hk, rfl, ha, hr, hb⟩ := hrel
      have HA := hideIt ha
      have HR := hideIt hr
      have HB := hideIt hb
      have hRl := hr.lt
      clear ha hr hb
      by_cases hkl : k < l.length
      · obtain ⟨b, off, rfl, hlt, hst⟩ : ∃ b off, a = some ⟨b, off, none⟩ ∧ b < w.heap.size ∧ StpsAt w b off l := by
          rcases HL.out with h | h
          · subst h; simp at hkl
          · exact h
        obtain ⟨c0, c1, c2⟩ := (hst k hkl).below hlt HB.out
        have HX : Hid (stZ l k = l[k]) := stZ_at hkl
        have HSt := hideIt hst
        generalize l[k] = x at c0 c1 c2 HX
        clear hst HL
        go_upto_region 6 with fail
        have HRA := hideIt (HR.out.alloc (.cells #[.int .i64 x.p, .int .i64 x.k, .int .i64 x.m] 62))
        have HBA : Hid (Below w.heap.size w (wr.alloc (.cells #[.int .i64 x.p, .int .i64 x.k, .int .i64 x.m] 62))) := belA HB.out _
        have hXA : StpN (wr.alloc (.cells #[.int .i64 x.p, .int .i64 x.k, .int .i64 x.m] 62)) wr.heap.size x := ⟨by simp, by simp, by simp⟩
        have hwl : wr.heap.size < (wr.alloc (.cells #[.int .i64 x.p, .int .i64 x.k, .int .i64 x.m] 62)).heap.size := by simp
        clear c0 c1 c2
        generalize wr.alloc (.cells #[.int .i64 x.p, .int .i64 x.k, .int .i64 x.m] 62) = WA at HRA HBA hXA hwl ⊢
        have HXA := hideIt hXA
        obtain ⟨d0, d1, d2⟩ := hXA
        generalize wr.heap.size = Z at HXA d0 d1 d2 hwl hRl ⊢
        by_cases g0 : x.p < 0
        · have hfx : fltR x = 2 := by unfold fltR; rw [if_pos (by omega)]
          have hfc : fltQ l k = 2 := by unfold fltQ; rw [HX.out, hfx, if_neg (by decide)]
          have HE : Hid (CkS l 2 k) := .inr ⟨h60, .inr ⟨k, hkl, HA.out, by rw [hfc]; decide, hfc.symm, rfl⟩⟩
          obtain ⟨y0, q0⟩ := HRA.out.c0
          obtain ⟨y1, q1⟩ := HRA.out.c1
          have z1 := HRA.out.fz
          clear hfx hfc
          go_wp2
          refine bodyPost_ret (results_one rfl _ _ _ _ rfl (HRA.out.res 2 k)) rfl ?_
          exact ⟨2, k, rfl, HE.out, HRet.out _ _ _ HRA.out HBA.out⟩
        by_cases g1 : 7 < x.p
        · have hfx : fltR x = 2 := by unfold fltR; rw [if_pos (by omega)]
          have hfc : fltQ l k = 2 := by unfold fltQ; rw [HX.out, hfx, if_neg (by decide)]
          have HE : Hid (CkS l 2 k) := .inr ⟨h60, .inr ⟨k, hkl, HA.out, by rw [hfc]; decide, hfc.symm, rfl⟩⟩
          obtain ⟨y0, q0⟩ := HRA.out.c0
          obtain ⟨y1, q1⟩ := HRA.out.c1
          have z1 := HRA.out.fz
          clear hfx hfc
          go_wp2
          refine bodyPost_ret (results_one rfl _ _ _ _ rfl (HRA.out.res 2 k)) rfl ?_
          exact ⟨2, k, rfl, HE.out, HRet.out _ _ _ HRA.out HBA.out⟩
        by_cases g2 : x.m < 0
        · have hfx : fltR x = 2 := by unfold fltR; rw [if_pos (by omega)]
          have hfc : fltQ l k = 2 := by unfold fltQ; rw [HX.out, hfx, if_neg (by decide)]
          have HE : Hid (CkS l 2 k) := .inr ⟨h60, .inr ⟨k, hkl, HA.out, by rw [hfc]; decide, hfc.symm, rfl⟩⟩
          obtain ⟨y0, q0⟩ := HRA.out.c0
          obtain ⟨y1, q1⟩ := HRA.out.c1
          have z1 := HRA.out.fz
          clear hfx hfc
          go_wp2
          refine bodyPost_ret (results_one rfl _ _ _ _ rfl (HRA.out.res 2 k)) rfl ?_
          exact ⟨2, k, rfl, HE.out, HRet.out _ _ _ HRA.out HBA.out⟩
        by_cases g3 : 7 < x.m
        · have hfx : fltR x = 2 := by unfold fltR; rw [if_pos (by omega)]
          have hfc : fltQ l k = 2 := by unfold fltQ; rw [HX.out, hfx, if_neg (by decide)]
          have HE : Hid (CkS l 2 k) := .inr ⟨h60, .inr ⟨k, hkl, HA.out, by rw [hfc]; decide, hfc.symm, rfl⟩⟩
          obtain ⟨y0, q0⟩ := HRA.out.c0
          obtain ⟨y1, q1⟩ := HRA.out.c1
          have z1 := HRA.out.fz
          clear hfx hfc
          go_wp2
          refine bodyPost_ret (results_one rfl _ _ _ _ rfl (HRA.out.res 2 k)) rfl ?_
          exact ⟨2, k, rfl, HE.out, HRet.out _ _ _ HRA.out HBA.out⟩
        by_cases g4 : x.k < 1
        · have hfx : fltR x = 1 := by unfold fltR; rw [if_neg (by omega), if_pos (by omega)]
          have hfc : fltQ l k = 1 := by unfold fltQ; rw [HX.out, hfx, if_neg (by decide)]
          have HE : Hid (CkS l 1 k) := .inr ⟨h60, .inr ⟨k, hkl, HA.out, by rw [hfc]; decide, hfc.symm, rfl⟩⟩
          obtain ⟨y0, q0⟩ := HRA.out.c0
          obtain ⟨y1, q1⟩ := HRA.out.c1
          have z1 := HRA.out.fz
          clear hfx hfc
          go_wp2
          refine bodyPost_ret (results_one rfl _ _ _ _ rfl (HRA.out.res 1 k)) rfl ?_
          exact ⟨1, k, rfl, HE.out, HRet.out _ _ _ HRA.out HBA.out⟩
        by_cases g5 : 4 < x.k
        · have hfx : fltR x = 1 := by unfold fltR; rw [if_neg (by omega), if_pos (by omega)]
          have hfc : fltQ l k = 1 := by unfold fltQ; rw [HX.out, hfx, if_neg (by decide)]
          have HE : Hid (CkS l 1 k) := .inr ⟨h60, .inr ⟨k, hkl, HA.out, by rw [hfc]; decide, hfc.symm, rfl⟩⟩
          obtain ⟨y0, q0⟩ := HRA.out.c0
          obtain ⟨y1, q1⟩ := HRA.out.c1
          have z1 := HRA.out.fz
          clear hfx hfc
          go_wp2
          refine bodyPost_ret (results_one rfl _ _ _ _ rfl (HRA.out.res 1 k)) rfl ?_
          exact ⟨1, k, rfl, HE.out, HRet.out _ _ _ HRA.out HBA.out⟩
        by_cases g6 : 2 < x.k ∧ x.m ≠ 0
        · have hfx : fltR x = 1 := by unfold fltR; rw [if_neg (by omega), if_pos (.inr (.inr g6))]
          have hfc : fltQ l k = 1 := by unfold fltQ; rw [HX.out, hfx, if_neg (by decide)]
          have HE : Hid (CkS l 1 k) := .inr ⟨h60, .inr ⟨k, hkl, HA.out, by rw [hfc]; decide, hfc.symm, rfl⟩⟩
          obtain ⟨y0, q0⟩ := HRA.out.c0
          obtain ⟨y1, q1⟩ := HRA.out.c1
          have z1 := HRA.out.fz
          obtain ⟨g7, g8⟩ := g6
          have g9 : (x.m != 0) = true := by simp [g8]
          clear hfx hfc
          go_wp2
          refine bodyPost_ret (results_one rfl _ _ _ _ rfl (HRA.out.res 1 k)) rfl ?_
          exact ⟨1, k, rfl, HE.out, HRet.out _ _ _ HRA.out HBA.out⟩
        have hfx : fltR x = 0 := by unfold fltR; rw [if_neg (by omega), if_neg (fun h => h.elim g4 fun h => h.elim g5 g6)]
        have HFX := hideIt hfx
        clear hfx
        go_upto_region 8 with fail
        go_cut [55] (fun c wx => c = .bool false ∧ wx = WA)
        case first =>
          by_cases h1 : 2 < x.k
          · have h2 : (x.m != 0) = false := by simp; exact Classical.byContradiction fun h => g6 ⟨h1, h⟩
            go_wp2
            go_meet
            exact ⟨rfl, rfl⟩
          · go_wp2
            go_meet
            exact ⟨rfl, rfl⟩
        case rest =>
          obtain ⟨rfl, rfl⟩ := hcut
          have hkc : (k : Int) ≤ cap := by omega
          have hkl' : (k : Int) < l.length := by omega
          have HQ0 : Hid (overB l x.p 0 = false) := rfl
          clear d0 d1 d2
          go_wp2
          go_loopw [62] (fun v wz => ∃ j : Nat, j ≤ k ∧ v = .int .i64 j ∧ overB l x.p j = false ∧ ResC wz w.heap.size ∧ StpN wz Z x ∧ Z < wz.heap.size ∧ Below w.heap.size w wz) (fun v _ => k - (intOf v).toNat)
          case atStart => exact ⟨0, Nat.zero_le _, rfl, HQ0.out, HRA.out, HXA.out, hwl, HBA.out⟩
          case round =>
            clear HRA HXA hwl HBA HQ0
            obtain ⟨j, hj, rfl, hov, hr, hxn, hzl, hb⟩ := hrel
            have HOv := hideIt hov
            have HR := hideIt hr
            have HXn := hideIt hxn
            have HB := hideIt hb
            obtain ⟨d0, d1, d2⟩ := hxn
            clear hov hr hb
            by_cases hjk : j < k
            · have hjl : j < l.length := by omega
              have hjk' : (j : Int) < k := by omega
              obtain ⟨e0, e1, e2⟩ := (HSt.out j hjl).below hlt HB.out
              have HY : Hid (stZ l j = l[j]) := stZ_at hjl
              generalize l[j] = y at e0 e1 e2 HY
              have HOs : Hid (overB l x.p (j + 1) = (y.p == x.p && decide (2 < y.k))) := by
                show overB l x.p (j + 1) = _
                rw [overB_succ, HOv.out, HY.out]; rfl
              have HRA := hideIt (HR.out.alloc (.cells #[.int .i64 y.p, .int .i64 y.k, .int .i64 y.m] 62))
              have HBA : Hid (Below w.heap.size w (wr.alloc (.cells #[.int .i64 y.p, .int .i64 y.k, .int .i64 y.m] 62))) := belA HB.out _
              have HXA : Hid (StpN (wr.alloc (.cells #[.int .i64 y.p, .int .i64 y.k, .int .i64 y.m] 62)) Z x) := HXn.out.below (belA (Below.refl wr.heap.size wr) _) hzl
              have HZA : Hid (Z < (wr.alloc (.cells #[.int .i64 y.p, .int .i64 y.k, .int .i64 y.m] 62)).heap.size) := by
                show Z < _
                rw [World.size_alloc]; omega
              have hZn : ¬ Z = wr.heap.size := by omega
              have hZn' : ¬ wr.heap.size = Z := by omega
              have hbl : b < wr.heap.size := Nat.lt_of_lt_of_le hlt HB.out.size
              have hbn : ¬ b = wr.heap.size := by omega
              have hbn' : ¬ wr.heap.size = b := by omega
              by_cases p1 : y.p = x.p
              · have q1 : (y.p == x.p) = true := by simp [p1]
                by_cases p2 : 2 < y.k
                · have HFc : Hid (fltQ l k = 6) := by
                    show fltQ l k = 6
                    unfold fltQ
                    rw [HX.out, HFX.out, if_pos rfl, overB_at hjk (by rw [HY.out, q1]; simp [p2])]
                    rfl
                  have HE : Hid (CkS l 6 k) := .inr ⟨h60, .inr ⟨k, hkl, HA.out, by rw [HFc.out]; decide, HFc.out.symm, rfl⟩⟩
                  obtain ⟨u0, r0⟩ := HRA.out.c0
                  obtain ⟨u1, r1⟩ := HRA.out.c1
                  have z1 := HRA.out.fz
                  clear p1
                  go_wp2
                  refine bodyPost_ret (results_one rfl _ _ _ _ rfl (HRA.out.res 6 k)) rfl ?_
                  exact ⟨6, k, rfl, HE.out, HRet.out _ _ _ HRA.out HBA.out⟩
                · have R1 : Hid (overB l x.p (j + 1) = false) := by
                    show overB l x.p (j + 1) = false
                    rw [HOs.out, q1]; simp; omega
                  clear p1
                  go_wp2
                  go_roundw
                  case rel => exact ⟨j + 1, by omega, by go_num, R1.out, HRA.out, HXA.out, HZA.out, HBA.out⟩
                  case measure => simp [intOf]; omega
              · have q1 : (y.p == x.p) = false := by simp [p1]
                have R1 : Hid (overB l x.p (j + 1) = false) := by
                  show overB l x.p (j + 1) = false
                  rw [HOs.out, q1]; rfl
                clear p1
                go_wp2
                go_roundw
                case rel => exact ⟨j + 1, by omega, by go_num, R1.out, HRA.out, HXA.out, HZA.out, HBA.out⟩
                case measure => simp [intOf]; omega
            · obtain rfl : j = k := by omega
              have R1 : Hid (∀ i, i < j + 1 → fltQ l i = 0) := fun i hi => by
                by_cases e : i = j
                · subst e
                  unfold fltQ
                  rw [HX.out, HFX.out, if_pos rfl, HOv.out]
                  rfl
                · exact HA.out i (by omega)
              go_wp2
              go_roundw
              case rel => exact ⟨j + 1, by omega, by go_num, R1.out, HR.out, HB.out⟩
              case measure => simp [intOf]; omega
      · have HE : Hid (CkS l 0 (-1)) := .inr ⟨h60, .inl ⟨fun j hj => HA.out j (by omega), rfl, rfl⟩⟩
        obtain rfl : k = l.length := by omega
        obtain ⟨f0, f1⟩ := HF.out.below HB.out
        obtain ⟨y0, q0⟩ := HR.out.c0
        obtain ⟨y1, q1⟩ := HR.out.c1
        have z1 := HR.out.fz
        go_wp2
        refine bodyPost_ret (results_one rfl _ _ _ _ rfl (HR.out.res 0 (-1))) rfl ?_
        exact ⟨0, -1, rfl, HE.out, HRet.out _ _ _ HR.out HB.out⟩
  · have HE : Hid (CkS l 4 (-1)) := .inl ⟨by omega, rfl, rfl⟩
    clear HR0 HB0
    go_enter Tryd.func10, Tryd.ntmps10
    go_wp2
    refine bodyPost_ret (results_one rfl _ _ _ _ rfl (load49 (n := 4) (pl := -1) (by simp) (by simp))) rfl ?_
    exact ⟨4, -1, rfl, HE.out, belA (Below.refl _ _) _⟩
end Go.Proofs.YtibdchahallbjabDoor
