/-
  The document's run: one goes on (its closure step), walked.
-/
import Derived.Test.YthmiocbihhbdpaaDoorLkMZ
namespace Go.Proofs.YthmiocbihhbdpaaDoor
open Go.RowKit

set_option maxRecDepth 100000 in
theorem lead_any {w0 W : World} {H n : Nat} {pv fe vd vv : Value} {st : LkS} {Bo oB cB : Nat} {rb : Nat → Nat} (h : LkM w0 H n pv fe W st vd vv Bo oB cB rb) (i k : Nat) (hi : i < n) (hk : k < n) :
    Calls Tryd.prog 18 #[.int .i64 (i : Nat), .int .i64 (k : Nat), .pointer (some ⟨H, 0, none⟩)] W fun e W' => e = .returned (.bool (st.wt i k)) ∧ Below W.heap.size W W' := by
  have c0 : W.cell? ⟨H, 0, none⟩ = some (.slice (some ⟨Bo, oB, none⟩) n cB) := cell_of_row _ _ _ _ 53 _ h.bw
  have c1 := h.mt.head i hi
  have c2 := (h.mt.row i hi).bit k hk
  generalize st.wt i k = x at c2 ⊢
  clear h
  go_enter Tryd.func18, Tryd.ntmps18
  go_wp2
  go_ret
  exact ⟨rfl, Below.refl _ _⟩

def fnE (w0 : World) (H : Nat) : Value := .func (.func 15) #[] #[.pointer (some ⟨w0.heap.size + 4, 0, none⟩), .pointer (some ⟨w0.heap.size + 6, 0, none⟩), .pointer (some ⟨w0.heap.size + 2, 0, none⟩), .pointer (some ⟨H, 0, none⟩)]

set_option maxRecDepth 100000 in
set_option maxHeartbeats 8000000 in
theorem step_any {p : List (List Stp)} {pa : Option Addr} {pc : Nat} {w0 W : World} {H n : Nat} {vd vv : Value} {st : LkS} {Bo oB cB : Nat} {rb : Nat → Nat} (hp : PlQ w0 pa p) (hpl : PlOk p) (hn : n = p.length)
    (h : LkM w0 H n (.slice pa n pc) (fnE w0 H) W st vd vv Bo oB cB rb) (hI : LkI p n st) (hl : lefN p n lk0 ≤ 60) (t : Nat) (ht : t < n) (hcn : st.cnt t ≤ 1000000) (hvl : st.vic.length ≤ 100000) :
    Calls Tryd.prog 16 #[.int .i64 (t : Int), .pointer (some ⟨w0.heap.size + 6, 0, none⟩), .pointer (some ⟨w0.heap.size + 2, 0, none⟩), .pointer (some ⟨H, 0, none⟩), .pointer (some ⟨w0.heap.size + 8, 0, none⟩), .pointer (some ⟨w0.heap.size, 0, none⟩), .pointer (some ⟨H + 1, 0, none⟩), .pointer (some ⟨w0.heap.size + 4, 0, none⟩)] W fun e W' =>
      e = .returned (.tuple #[]) ∧ ∃ vd' vv' rb', LkM w0 H n (.slice pa n pc) (fnE w0 H) W' (goS p n st t) vd' vv' Bo oB cB rb' := by
  have h8 : n ≤ 8 := by rw [hn]; exact hpl.few
  have hdl : st.done.length ≤ 60 := by have := hI.len; omega
  have HM := hideIt h
  have HI := hideIt hI
  have HP := hideIt hp
  have HPl := hideIt hpl
  have HN := hideIt hn
  have c0 : W.cell? ⟨w0.heap.size + 6, 0, none⟩ = some (.slice (some ⟨w0.heap.size + 5, 0, none⟩) n n) := cell_of_row _ _ _ _ 52 _ h.bv
  have c1 := h.ov.bit t ht
  clear h hI hp hpl hn hl
  go_enter Tryd.func16, Tryd.ntmps16
  cases ho : st.ov t
  rotate_left 1
  · have HF : Hid (goS p n st t = st) := by unfold goS; rw [if_pos ho]; rfl
    rw [ho] at c1
    clear ho
    go_wp2
    refine bodyPost_ret (results_none rfl _ _ _) rfl ?_
    exact ⟨rfl, _, _, _, HM.out.eq HF.out.symm⟩
  rw [ho] at c1
  have HO := hideIt ho
  clear ho
  go_upto_region 1 with fail
  obtain ⟨k0, k1, ⟨u, k2⟩, k3, k4, k5, k6, k7⟩ := HM.out.clr ht
  have hcB := HM.out.hc
  have hmk := made_bits W.drew n (by omega)
  have HM1 := hideIt k5
  clear k5 HM
  go_region
  clear k0 k1 k2 k3 k4 k6 k7 hmk c0 c1
  generalize (((W.alloc (.cells (madeCells #[.bool false] n) 4)).setCell ⟨Bo, oB + t, none⟩ (.slice (some ⟨W.heap.size, 0, none⟩) n n)).drew) = W1 at HM1 ⊢
  generalize upd rb t W.heap.size = rb1 at HM1
  obtain ⟨b, off, ra, rc, rfl, hbl, q0, q1, q2, q3⟩ := HP.out.at (by rw [← HN.out]; exact ht)
  unfold maxLen at q2
  have HRow : Hid (∀ Z, Below w0.heap.size w0 Z → Z.cell? ⟨b, off + t, none⟩ = some (.slice ra (plN p t).length rc) ∧ StpsQ Z ra (plN p t)) := fun Z hZ => ⟨(hZ.cell (p := ⟨b, off + t, none⟩) hbl).trans q0, q3.below hZ⟩
  clear q0 q3
  have r0 := (HRow.out W1 HM1.out.bel).1
  have r1 : W1.cell? ⟨w0.heap.size, 0, none⟩ = some (.slice (some ⟨b, off, none⟩) n pc) := cell_of_row _ _ _ _ 25 _ HM1.out.bp
  have r2 : W1.cell? ⟨w0.heap.size + 8, 0, none⟩ = some (.slice (some ⟨w0.heap.size + 7, 0, none⟩) n n) := cell_of_row _ _ _ _ 24 _ HM1.out.ba
  have r3 := HM1.out.ps.num t ht
  have r4 : W1.cell? ⟨H + 1, 0, none⟩ = some (fnE w0 H) := cell_of_row _ _ _ _ 55 _ HM1.out.be
  unfold fnE at r4
  have HPo : Hid (st.pos t ≤ (plN p t).length) := HI.out.pos t
  by_cases hpos : st.pos t = (plN p t).length
  · have HG : Hid (goS p n st t = endS (clrS st t) t 3) := by
      unfold goS
      rw [if_neg (by rw [HO.out]; simp), if_pos hpos, clr_end]
      rfl
    have hb1 : ((st.pos t : Int) == ((plN p t).length : Int)) = true := by rw [hpos]; simp
    have hb2 : (st.pos t == (plN p t).length) = true := by rw [hpos]; simp
    have hd1 : (clrS st t).done.length ≤ 500 := by show st.done.length ≤ 500; omega
    have hps : (clrS st t).pos t = st.pos t := rfl
    rw [hps] at r3
    clear hps
    generalize st.pos t = P at r3 hb1 hb2 hpos HPo
    clear hpos
    go_wp2_with fail
    go_quiet (fail)
    have HM2 := hideIt (HM1.out.below (below_drewN (Below.refl _ _) nq))
    clear HM1 r0 r1 r2 r3 r4
    generalize W1.drewN nq = W2 at HM2 ⊢
    have r4 : W2.cell? ⟨H + 1, 0, none⟩ = some (fnE w0 H) := cell_of_row _ _ _ _ 55 _ HM2.out.be
    unfold fnE at r4
    go_wp2_with fail
    refine (end_any HM2.out h8 hd1 t ht 3).mono ?_
    rintro e W3 ⟨rfl, vd3, rb3, h3⟩
    have HM3 := hideIt (h3.eq HG.out.symm)
    clear h3 HM2 HRow HP HPl HI HG r4
    go_wp2
    refine bodyPost_ret (results_none rfl _ _ _) rfl ?_
    exact ⟨rfl, _, _, _, HM3.out⟩
  · have hlt : st.pos t < (plN p t).length := by have := HPo.out; omega
    have hb1 : ((st.pos t : Int) == ((plN p t).length : Int)) = false := by rw [beq_eq_false_iff_ne]; omega
    have hb2 : (st.pos t == (plN p t).length) = false := by rw [beq_eq_false_iff_ne]; exact hpos
    have hps : (clrS st t).pos t = st.pos t := rfl
    rw [hps] at r3
    clear hps
    have HNx : Hid (nxS p st t = stZ (plN p t) (st.pos t)) := rfl
    obtain ⟨va, vc, hvd⟩ := ownsRow_slice HM1.out.dn
    obtain rfl : vd = .slice va st.done.length vc := hvd
    go_wp2_with fail
    go_quiet (fail)
    have HM2 := hideIt (HM1.out.below (below_drewN (Below.refl _ _) nq))
    clear HM1 r0 r1 r2 r3 r4 hb1 hb2
    generalize W1.drewN nq = W2 at HM2 ⊢
    obtain ⟨r0, hsq⟩ := HRow.out W2 HM2.out.bel
    have r1 : W2.cell? ⟨w0.heap.size, 0, none⟩ = some (.slice (some ⟨b, off, none⟩) n pc) := cell_of_row _ _ _ _ 25 _ HM2.out.bp
    have r2 : W2.cell? ⟨w0.heap.size + 8, 0, none⟩ = some (.slice (some ⟨w0.heap.size + 7, 0, none⟩) n n) := cell_of_row _ _ _ _ 24 _ HM2.out.ba
    have r3 : W2.cell? ⟨w0.heap.size + 7, t, none⟩ = some (.int .i64 (st.pos t : Int)) := HM2.out.ps.num t ht
    obtain ⟨sp1, sp2, sp3, sp4⟩ := HPl.out.step t (by rw [← HN.out]; exact ht) (st.pos t) hlt
    have hsz : stZ (plN p t) (st.pos t) = (plN p t)[st.pos t] := stZ_at hlt
    obtain ⟨gs, os, rfl, hgs, hst⟩ : ∃ g o, ra = some ⟨g, o, none⟩ ∧ g < W2.heap.size ∧ StpsAt W2 g o (plN p t) := by
      rcases hsq with e | e
      · rw [e] at hlt; simp at hlt
      · exact e
    obtain ⟨s0, s1, s2⟩ := hst (st.pos t) hlt
    rw [← hsz] at s0 s1 s2
    rw [← HNx.out] at s0 s1 s2 sp1 sp2 sp3 sp4
    clear hst hsz hsq
    have HG1 : Hid ((List.range n).any (agst st t (nxS p st t)) = false → goS p n st t = doS st t (nxS p st t)) := go_do HO.out hpos
    have HG2 : Hid ((List.range n).any (agst st t (nxS p st t)) = true → war (waS st t (nxS p st t)).wt n t t = false → goS p n st t = waS st t (nxS p st t)) := go_wait HO.out hpos
    have HG3 : Hid (∀ v, (List.range n).any (agst st t (nxS p st t)) = true → war (waS st t (nxS p st t)).wt n t t = true → lastN (onB (waS st t (nxS p st t)) n t) n = some v → goS p n st t = viS (waS st t (nxS p st t)) v) := fun v => go_vic HO.out hpos
    clear HNx
    generalize nxS p st t = s at s0 s1 s2 sp1 sp2 sp3 sp4 HG1 HG2 HG3
    obtain ⟨sq, sk, sm⟩ := s
    dsimp only at s0 s1 s2 sp1 sp2 sp3 sp4
    subst sp1
    have a0 := cellA (o := .cells #[.int .i64 0, .int .i64 0, .int .i64 0] 47) r0
    have a1 := cellA (o := .cells #[.int .i64 0, .int .i64 0, .int .i64 0] 47) r1
    have a2 := cellA (o := .cells #[.int .i64 0, .int .i64 0, .int .i64 0] 47) r2
    have a3 := cellA (o := .cells #[.int .i64 0, .int .i64 0, .int .i64 0] 47) r3
    have a4 := cellA (o := .cells #[.int .i64 0, .int .i64 0, .int .i64 0] 47) s0
    have a5 := cellA (o := .cells #[.int .i64 0, .int .i64 0, .int .i64 0] 47) s1
    have a6 := cellA (o := .cells #[.int .i64 0, .int .i64 0, .int .i64 0] 47) s2
    have HM3 := hideIt ((HM2.out.below (belA (Below.refl _ _) (.cells #[.int .i64 (t : Int), .int .i64 sk, .int .i64 sm] 47))).below (below_drew1 _))
    have HBs : Hid ((W2.alloc (.cells #[.int .i64 (t : Int), .int .i64 sk, .int .i64 sm] 47)).drew.heap[W2.heap.size]? = some (.cells #[.int .i64 (t : Int), .int .i64 sk, .int .i64 sm] 47 (0, 0))) := heap_alloc_new W2 _
    have hPL : ((st.pos t : Nat) : Int) < ((plN p t).length : Int) := by omega
    go_upto_region 4 with fail
    go_region
    clear r0 r1 r2 r3 a0 a1 a2 a3 a4 a5 a6 s0 s1 s2 HM2 hgs hPL
    generalize W2.heap.size = BS at HBs ⊢
    generalize (W2.alloc (.cells #[.int .i64 (t : Int), .int .i64 sk, .int .i64 sm] 47)).drew = W3 at HM3 HBs ⊢
    have l0 : W3.cell? ⟨w0.heap.size + 4, 0, none⟩ = some (.slice va st.done.length vc) := cell_of_row _ _ _ _ 36 _ HM3.out.bo
    go_wp2
    clear l0
    go_loopw [10, 50] (fun bl i wr => ∃ k : Nat, k ≤ st.done.length ∧ bl = .bool (blK st t ⟨(t : Int), sk, sm⟩ k) ∧ i = .int .i64 k ∧ LkM w0 H n (.slice (some ⟨b, off, none⟩) n pc) (fnE w0 H) wr (mkS st t ⟨(t : Int), sk, sm⟩ k) (.slice va st.done.length vc) vv Bo oB cB rb1 ∧ wr.heap[BS]? = some (.cells #[.int .i64 (t : Int), .int .i64 sk, .int .i64 sm] 47 (0, 0))) (fun _ i _ => st.done.length - (intOf i).toNat)
    case atStart => exact ⟨0, Nat.zero_le _, rfl, rfl, HM3.out, HBs.out⟩
    case round =>
      obtain ⟨k, hkl, rfl, rfl, hm, hbs⟩ := hrel
      replace HM3 := hideIt hm
      replace HBs := hideIt hbs
      clear hm hbs
      by_cases hk : k < st.done.length
      · obtain ⟨aq, cq, eq, _, hsq⟩ := stpsQ_own HM3.out.dn
        obtain ⟨gd, od, rfl, hgd, hst⟩ : ∃ g o, va = some ⟨g, o, none⟩ ∧ g < wr.heap.size ∧ StpsAt wr g o st.done := by
          rcases hsq with e | ⟨g, o, e, h1, h2⟩
          · have e : st.done = [] := e
            rw [e] at hk; simp at hk
          · injection eq with eq1
            exact ⟨g, o, eq1.trans e, h1, h2⟩
        obtain ⟨x0, x1, x2⟩ := hst k hk
        obtain ⟨u, hu, hpu⟩ := HI.out.dp k hk
        have hfl := (fltR_zero (HI.out.ok k hk)).2.2.1
        have hdZ : Hid (stZ st.done k = st.done[k]) := stZ_at hk
        rw [hdZ.out] at hpu hfl
        clear eq hsq hst
        generalize st.done[k] = d at x0 x1 x2 hpu hfl hdZ
        obtain ⟨dp, dk, dm⟩ := d
        dsimp only at x0 x1 x2 hpu hfl
        subst hpu
        have HMd := hideIt (HM3.out.below (belA (Below.refl _ _) (.cells #[.int .i64 (u : Int), .int .i64 dk, .int .i64 dm] 47)))
        have hbsl := lt_of_heap HBs.out
        replace HBs : Hid ((wr.alloc (.cells #[.int .i64 (u : Int), .int .i64 dk, .int .i64 dm] 47)).heap[BS]? = some (.cells #[.int .i64 (t : Int), .int .i64 sk, .int .i64 sm] 47 (0, 0))) := (Below.heap_alloc _ _ _ hbsl).trans HBs.out
        have y0 : (wr.alloc (.cells #[.int .i64 (u : Int), .int .i64 dk, .int .i64 dm] 47)).cell? ⟨w0.heap.size + 6, 0, none⟩ = some (.slice (some ⟨w0.heap.size + 5, 0, none⟩) n n) := cell_of_row _ _ _ _ 52 _ HMd.out.bv
        have y1 : (wr.alloc (.cells #[.int .i64 (u : Int), .int .i64 dk, .int .i64 dm] 47)).cell? ⟨w0.heap.size + 5, u, none⟩ = some (.bool (st.ov u)) := HMd.out.ov.bit u hu
        have y2 : (wr.alloc (.cells #[.int .i64 (u : Int), .int .i64 dk, .int .i64 dm] 47)).cell? ⟨BS, 1, none⟩ = some (.int .i64 sk) := cell_of_row _ _ _ _ 47 _ HBs.out
        have y3 : (wr.alloc (.cells #[.int .i64 (u : Int), .int .i64 dk, .int .i64 dm] 47)).cell? ⟨BS, 2, none⟩ = some (.int .i64 sm) := cell_of_row _ _ _ _ 47 _ HBs.out
        have hx1 : ¬ BS = wr.heap.size := by omega
        have hx2 : ¬ wr.heap.size = BS := by omega
        have hw : IntKind.i64.wrap (dk + sk) = dk + sk := by
          rw [IntKind.wrap_i64]
          have : sk = 1 ∨ sk = 2 := sp2
          omega
        have hkn : (k : Int) < st.done.length := by omega
        clear HM3 hgd
        by_cases e1 : u = t
        · have hne : ((u : Int) != (t : Int)) = false := by simp [e1]
          have HE1 := hideIt e1
          clear e1
          have HC : Hid (cnd st t ⟨(t : Int), sk, sm⟩ (stZ st.done k) = false) := by
            show cnd st t ⟨(t : Int), sk, sm⟩ (stZ st.done k) = false
            rw [hdZ.out]
            unfold cnd agB
            simp [HE1.out]
          have HMn := hideIt (HMd.out.eq (mkS_no (t := t) (s := ⟨(t : Int), sk, sm⟩) hk HC.out).symm)
          have HBn : Hid (blK st t ⟨(t : Int), sk, sm⟩ k = blK st t ⟨(t : Int), sk, sm⟩ (k + 1)) := by
            show blK st t ⟨(t : Int), sk, sm⟩ k = blK st t ⟨(t : Int), sk, sm⟩ (k + 1)
            rw [blK_succ hk, HC.out, Bool.or_false]
          generalize blK st t ⟨(t : Int), sk, sm⟩ k = bb at HBn ⊢
          clear HC HMd hdZ
          go_wp2
          go_roundw
          case rel => exact ⟨k + 1, by omega, congrArg Value.bool HBn.out, by go_num, HMn.out, HBs.out⟩
          case measure => simp [intOf]; omega
        · have hne : ((u : Int) != (t : Int)) = true := by simp; omega
          cases hov : st.ov u
          rotate_left 1
          · rw [hov] at y1
            have HC : Hid (cnd st t ⟨(t : Int), sk, sm⟩ (stZ st.done k) = false) := by
              show cnd st t ⟨(t : Int), sk, sm⟩ (stZ st.done k) = false
              rw [hdZ.out]
              unfold cnd agB
              simp [hov]
            have HMn := hideIt (HMd.out.eq (mkS_no (t := t) (s := ⟨(t : Int), sk, sm⟩) hk HC.out).symm)
            have HBn : Hid (blK st t ⟨(t : Int), sk, sm⟩ k = blK st t ⟨(t : Int), sk, sm⟩ (k + 1)) := by
              show blK st t ⟨(t : Int), sk, sm⟩ k = blK st t ⟨(t : Int), sk, sm⟩ (k + 1)
              rw [blK_succ hk, HC.out, Bool.or_false]
            generalize blK st t ⟨(t : Int), sk, sm⟩ k = bb at HBn ⊢
            clear HC HMd hdZ
            go_wp2
            go_roundw
            case rel => exact ⟨k + 1, by omega, congrArg Value.bool HBn.out, by go_num, HMn.out, HBs.out⟩
            case measure => simp [intOf]; omega
          rw [hov] at y1
          by_cases hm : dm = sm
          rotate_left 1
          · have hmb : (dm == sm) = false := by simp [hm]
            have HC : Hid (cnd st t ⟨(t : Int), sk, sm⟩ (stZ st.done k) = false) := by
              show cnd st t ⟨(t : Int), sk, sm⟩ (stZ st.done k) = false
              rw [hdZ.out]
              unfold cnd agB
              simp [hm]
            have HMn := hideIt (HMd.out.eq (mkS_no (t := t) (s := ⟨(t : Int), sk, sm⟩) hk HC.out).symm)
            have HBn : Hid (blK st t ⟨(t : Int), sk, sm⟩ k = blK st t ⟨(t : Int), sk, sm⟩ (k + 1)) := by
              show blK st t ⟨(t : Int), sk, sm⟩ k = blK st t ⟨(t : Int), sk, sm⟩ (k + 1)
              rw [blK_succ hk, HC.out, Bool.or_false]
            generalize blK st t ⟨(t : Int), sk, sm⟩ k = bb at HBn ⊢
            clear HC HMd hdZ
            go_wp2
            go_roundw
            case rel => exact ⟨k + 1, by omega, congrArg Value.bool HBn.out, by go_num, HMn.out, HBs.out⟩
            case measure => simp [intOf]; omega
          have hmb : (dm == sm) = true := by simp [hm]
          by_cases hd3 : dk < 3
          rotate_left 1
          · clear hm
            have HC : Hid (cnd st t ⟨(t : Int), sk, sm⟩ (stZ st.done k) = false) := by
              show cnd st t ⟨(t : Int), sk, sm⟩ (stZ st.done k) = false
              rw [hdZ.out]
              unfold cnd agB
              simp [hd3]
            have HMn := hideIt (HMd.out.eq (mkS_no (t := t) (s := ⟨(t : Int), sk, sm⟩) hk HC.out).symm)
            have HBn : Hid (blK st t ⟨(t : Int), sk, sm⟩ k = blK st t ⟨(t : Int), sk, sm⟩ (k + 1)) := by
              show blK st t ⟨(t : Int), sk, sm⟩ k = blK st t ⟨(t : Int), sk, sm⟩ (k + 1)
              rw [blK_succ hk, HC.out, Bool.or_false]
            generalize blK st t ⟨(t : Int), sk, sm⟩ k = bb at HBn ⊢
            clear HC HMd hdZ
            go_wp2
            go_roundw
            case rel => exact ⟨k + 1, by omega, congrArg Value.bool HBn.out, by go_num, HMn.out, HBs.out⟩
            case measure => simp [intOf]; omega
          by_cases hsum : 2 < dk + sk
          rotate_left 1
          · clear hm
            have HC : Hid (cnd st t ⟨(t : Int), sk, sm⟩ (stZ st.done k) = false) := by
              show cnd st t ⟨(t : Int), sk, sm⟩ (stZ st.done k) = false
              rw [hdZ.out]
              unfold cnd agB
              simp [hsum]
            have HMn := hideIt (HMd.out.eq (mkS_no (t := t) (s := ⟨(t : Int), sk, sm⟩) hk HC.out).symm)
            have HBn : Hid (blK st t ⟨(t : Int), sk, sm⟩ k = blK st t ⟨(t : Int), sk, sm⟩ (k + 1)) := by
              show blK st t ⟨(t : Int), sk, sm⟩ k = blK st t ⟨(t : Int), sk, sm⟩ (k + 1)
              rw [blK_succ hk, HC.out, Bool.or_false]
            generalize blK st t ⟨(t : Int), sk, sm⟩ k = bb at HBn ⊢
            clear HC HMd hdZ
            go_wp2
            go_roundw
            case rel => exact ⟨k + 1, by omega, congrArg Value.bool HBn.out, by go_num, HMn.out, HBs.out⟩
            case measure => simp [intOf]; omega
          have HC : Hid (cnd st t ⟨(t : Int), sk, sm⟩ (stZ st.done k) = true) := by
            show cnd st t ⟨(t : Int), sk, sm⟩ (stZ st.done k) = true
            rw [hdZ.out]
            unfold cnd agB
            simp [hov, hm, hd3, hsum]
            omega
          have z0 : (wr.alloc (.cells #[.int .i64 (u : Int), .int .i64 dk, .int .i64 dm] 47)).cell? ⟨H, 0, none⟩ = some (.slice (some ⟨Bo, oB, none⟩) n cB) := cell_of_row _ _ _ _ 53 _ HMd.out.bw
          have z1 := HMd.out.mt.head t ht
          have z2 := (HMd.out.mt.row t ht).bit u hu
          have z3 := (HMd.out.mt.row t ht).fz u
          have HMy := hideIt (((HMd.out.putW ht hu true).eq (mkS_yes (t := t) (s := ⟨(t : Int), sk, sm⟩) (u := u) hk HC.out (by rw [hdZ.out]))).below (below_drew1 _))
          have HBy : Hid (blK st t ⟨(t : Int), sk, sm⟩ (k + 1) = true) := by
            show blK st t ⟨(t : Int), sk, sm⟩ (k + 1) = true
            rw [blK_succ hk, HC.out, Bool.or_true]
          have HBs2 : Hid (((wr.alloc (.cells #[.int .i64 (u : Int), .int .i64 dk, .int .i64 dm] 47)).setCell ⟨rb1 t, u, none⟩ (.bool true)).drew.heap[BS]? = some (.cells #[.int .i64 (t : Int), .int .i64 sk, .int .i64 sm] 47 (0, 0))) := by
            obtain ⟨cr, hcr⟩ := (HMd.out.mt.row t ht).blk
            exact (Below.heap_setCell (wr.alloc (.cells #[.int .i64 (u : Int), .int .i64 dk, .int .i64 dm] 47)) ⟨rb1 t, u, none⟩ _ BS (blk_ne HBs.out hcr (by decide))).trans HBs.out
          generalize (mkS st t ⟨(t : Int), sk, sm⟩ k).wt t u = xx at z2
          clear HC HMd hdZ hm e1 HBs
          go_wp2_with fail
          go_region
          all_goals
            go_wp2
            go_roundw
            case rel => exact ⟨k + 1, by omega, congrArg Value.bool HBy.out.symm, by go_num, HMy.out, HBs2.out⟩
            case measure => simp [intOf]; omega
      · obtain rfl : k = st.done.length := by omega
        have HBl : Hid (blK st t ⟨(t : Int), sk, sm⟩ st.done.length = (List.range n).any (agst st t ⟨(t : Int), sk, sm⟩)) := blK_all HI.out.dp t ⟨(t : Int), sk, sm⟩
        cases hbl : (List.range n).any (agst st t ⟨(t : Int), sk, sm⟩)
        · have HG := hideIt (HG1.out hbl)
          rw [hbl] at HBl
          have HM4 := hideIt (HM3.out.eq (mkS_none HBl.out))
          rw [HBl.out]
          clear HG1 HG2 HG3 HBl HM3 hbl
          obtain ⟨va1, vc1, va', vc', W5, hv5, hr5, h5, hb5⟩ := app_step HM4.out (show (clrS st t).done.length ≤ 500 by show st.done.length ≤ 500; omega) ⟨(t : Int), sk, sm⟩
          injection hv5 with hv5a _ hv5c
          subst hv5a hv5c
          have HR5 := hideIt hr5
          have HM5 := hideIt h5
          have c0 : wr.cell? ⟨w0.heap.size + 4, 0, none⟩ = some (.slice va st.done.length vc) := cell_of_row _ _ _ _ 36 _ HM4.out.bo
          have b0 : wr.cell? ⟨BS, 0, none⟩ = some (.int .i64 (t : Int)) := cell_of_row _ _ _ _ 47 _ HBs.out
          have b1 : wr.cell? ⟨BS, 1, none⟩ = some (.int .i64 sk) := cell_of_row _ _ _ _ 47 _ HBs.out
          have b2 : wr.cell? ⟨BS, 2, none⟩ = some (.int .i64 sm) := cell_of_row _ _ _ _ 47 _ HBs.out
          have d0 : W5.cell? ⟨w0.heap.size + 4, 0, none⟩ = some (.slice va st.done.length vc) := cell_of_row _ _ _ _ 36 _ hb5
          have d1 : W5.frozen? ⟨w0.heap.size + 4, 0, none⟩ = false := frozen_of_row _ _ _ _ 36 hb5
          have hsz := HM4.out.lt
          have hH := HM4.out.hH
          have hx1 : ¬ w0.heap.size + 4 = wr.heap.size := by omega
          have hx2 : ¬ wr.heap.size = w0.heap.size + 4 := by omega
          have hkn : ¬ (st.done.length : Int) < st.done.length := by omega
          clear hr5 h5 hb5 HBs hk hkl
          go_upto_region 15 with (at_builtin; refine wpList_append_run _ rfl _ _ 27 rfl _ _ _ W5 rfl rfl HR5.out ?_)
          clear HR5 c0 b0 b1 b2 d0 d1 hx1 hx2 HM4 hkn
          generalize W5.setCell ⟨w0.heap.size + 4, 0, none⟩ _ = W6 at HM5 ⊢
          have e0 : W6.cell? ⟨w0.heap.size + 8, 0, none⟩ = some (.slice (some ⟨w0.heap.size + 7, 0, none⟩) n n) := cell_of_row _ _ _ _ 24 _ HM5.out.ba
          have e1 : W6.cell? ⟨w0.heap.size + 7, t, none⟩ = some (.int .i64 (st.pos t : Int)) := HM5.out.ps.num t ht
          have e2 := HM5.out.ps.fz t
          have HF := hideIt ((HM5.out.putP ht (st.pos t + 1)).eq (st' := goS p n st t) (by rw [HG.out]; rfl))
          have hw1 : IntKind.i64.wrap ((st.pos t : Int) + 1) = ((st.pos t + 1 : Nat) : Int) := by rw [IntKind.wrap_i64]; omega
          clear HM5 HG
          go_wp2
          refine bodyPost_ret (results_none rfl _ _ _) rfl ?_
          exact ⟨rfl, _, _, _, HF.out⟩
        · rw [hbl] at HBl
          rw [HBl.out]
          have HA := hideIt hbl
          have c0 : wr.cell? ⟨w0.heap.size + 4, 1, none⟩ = some (.slice (some ⟨w0.heap.size + 3, 0, none⟩) n n) := cell_of_row _ _ _ _ 36 _ HM3.out.bo
          have c1 : wr.cell? ⟨w0.heap.size + 3, t, none⟩ = some (.int .i64 (st.cnt t : Int)) := HM3.out.cn.num t ht
          have c2 := HM3.out.cn.fz t
          have hw1 : IntKind.i64.wrap ((st.cnt t : Int) + 1) = (st.cnt t : Int) + 1 := by rw [IntKind.wrap_i64]; omega
          have HM4 : Hid (LkM w0 H n (.slice (some ⟨b, off, none⟩) n pc) (fnE w0 H) (wr.setCell ⟨w0.heap.size + 3, t, none⟩ (.int .i64 ((st.cnt t : Int) + 1))) (waS st t ⟨(t : Int), sk, sm⟩) (.slice va st.done.length vc) vv Bo oB cB rb1) := (HM3.out.putC ht (st.cnt t + 1)).eq (mkS_done st t ⟨(t : Int), sk, sm⟩)
          have hkn : ¬ (st.done.length : Int) < st.done.length := by omega
          clear HG1 HBl HM3 hbl HBs hk hkl
          go_upto_region 17 with fail
          clear c0 c1 c2 hw1 hkn
          generalize wr.setCell ⟨w0.heap.size + 3, t, none⟩ _ = W4 at HM4 ⊢
          have e0 : W4.cell? ⟨w0.heap.size + 2, 0, none⟩ = some (.int .i64 (n : Int)) := cell_of_row _ _ _ _ 3 _ HM4.out.bn
          have HWk := hideIt (walks_any n (waS st t ⟨(t : Int), sk, sm⟩).wt H W4 (by omega) fun Z i k hZ hi hk => lead_any (HM4.out.below hZ) i k hi hk)
          go_wp2_with fail
          refine HWk.out.mono ?_
          rintro e W5 ⟨v, gv, A, rfl, hOut, hgl, hA, hb5⟩
          have hRd := hOut.readM hgl
          have HAw : Hid (∀ i k, i < n → k < n → A i k = war (waS st t ⟨(t : Int), sk, sm⟩).wt n i k) := fun i k hi hk => by rw [Bool.eq_iff_iff, hA i k hi hk, war_iff hi hk]
          have HM5 := hideIt (HM4.out.below hb5)
          clear HWk hOut hA hb5 HM4 e0
          obtain ⟨ga, gc, rfl, hgc, hrd⟩ := hRd
          have HRd : Hid (∀ i, i < n → ∃ g off r, ga = some ⟨g, off, none⟩ ∧ W5.cell? ⟨g, off + i, none⟩ = some (.slice (some ⟨r, 0, none⟩) n n) ∧ ∀ k, k < n → W5.cell? ⟨r, k, none⟩ = some (.bool (war (waS st t ⟨(t : Int), sk, sm⟩).wt n i k))) := fun i hi => by
            obtain ⟨g, o, r, q1, q2, q3⟩ := hrd i hi
            exact ⟨g, o, r, q1, q2, fun k hk => by rw [q3 k hk, HAw.out i k hi hk]⟩
          clear hrd HAw hgl
          obtain ⟨g7, o7, r7, rfl, t0, trow⟩ := HRd.out t ht
          have t1 := trow t ht
          cases hww : war (waS st t ⟨(t : Int), sk, sm⟩).wt n t t
          · rw [hww] at t1
            have HF := hideIt (HM5.out.eq (HG2.out HA.out hww).symm)
            clear HG2 HG3 HRd trow hww
            go_wp2
            refine bodyPost_ret (results_none rfl _ _ _) rfl ?_
            exact ⟨rfl, _, _, _, HF.out⟩
          · rw [hww] at t1
            have HWw := hideIt hww
            have HTr := hideIt trow
            have e0 : W5.cell? ⟨w0.heap.size + 2, 0, none⟩ = some (.int .i64 (n : Int)) := cell_of_row _ _ _ _ 3 _ HM5.out.bn
            have hw0 : IntKind.i64.wrap ((n : Int) - 1) = (n : Int) - 1 := by rw [IntKind.wrap_i64]; omega
            clear HG2 hww trow
            go_wp2
            clear e0 t1
            go_loopw [14] (fun i wz => ∃ j : Nat, j ≤ n ∧ i = .int .i64 ((j : Int) - 1) ∧ (∀ u, j ≤ u → u < n → onB (waS st t ⟨(t : Int), sk, sm⟩) n t u = false) ∧ wz = W5) (fun i _ => (intOf i + 1).toNat)
            case atStart => exact ⟨n, Nat.le_refl _, rfl, fun u h1 h2 => absurd h1 (by omega), rfl⟩
            case round =>
              obtain ⟨j, hjn, rfl, hup, rfl⟩ := hrel
              have HUp := hideIt hup
              clear hup
              by_cases hj : 0 < j
              rotate_left 1
              · exfalso
                have := HUp.out t (by omega) ht
                rw [onB_at, HWw.out] at this
                cases this
              obtain ⟨m, rfl⟩ : ∃ m, j = m + 1 := ⟨j - 1, by omega⟩
              rw [show (((m + 1 : Nat) : Int) - 1) = (m : Int) by omega]
              have hm : m < n := by omega
              have hm0 : ¬ (m : Int) < 0 := by omega
              have m0 := HTr.out m hm
              obtain ⟨g8, o8, r8, hga, m1, mrow⟩ := HRd.out m hm
              injection hga with hga
              injection hga with hga1 hga2
              subst hga1 hga2
              have m2 := mrow t ht
              have HOn : Hid (onB (waS st t ⟨(t : Int), sk, sm⟩) n t m = (war (waS st t ⟨(t : Int), sk, sm⟩).wt n t m && war (waS st t ⟨(t : Int), sk, sm⟩).wt n m t)) := rfl
              clear mrow
              cases x1 : war (waS st t ⟨(t : Int), sk, sm⟩).wt n t m
              · rw [x1] at m0
                have HU2 : Hid (∀ u, m ≤ u → u < n → onB (waS st t ⟨(t : Int), sk, sm⟩) n t u = false) := fun u h1 h2 => by
                  by_cases e : u = m
                  · rw [e, onB_at, x1]; rfl
                  · exact HUp.out u (by omega) h2
                have hw2 : IntKind.i64.wrap ((m : Int) - 1) = (m : Int) - 1 := by rw [IntKind.wrap_i64]; omega
                clear HUp HOn HRd HTr HG3
                go_wp2
                go_roundw
                case rel => exact ⟨m, by omega, rfl, HU2.out, trivial⟩
                case measure => simp [intOf]
              · rw [x1] at m0
                cases x2 : war (waS st t ⟨(t : Int), sk, sm⟩).wt n m t
                · rw [x2] at m2
                  have HU2 : Hid (∀ u, m ≤ u → u < n → onB (waS st t ⟨(t : Int), sk, sm⟩) n t u = false) := fun u h1 h2 => by
                    by_cases e : u = m
                    · rw [e, onB_at, x1, x2]; rfl
                    · exact HUp.out u (by omega) h2
                  have hw2 : IntKind.i64.wrap ((m : Int) - 1) = (m : Int) - 1 := by rw [IntKind.wrap_i64]; omega
                  clear HUp HOn HRd HTr HG3
                  go_wp2
                  go_roundw
                  case rel => exact ⟨m, by omega, rfl, HU2.out, trivial⟩
                  case measure => simp [intOf]
                · rw [x2] at m2
                  have HG := hideIt (HG3.out m HA.out HWw.out (lastN_at (m := m) (by rw [onB_at, x1, x2]; rfl) hm (fun u h1 h2 => HUp.out u (by omega) h2)))
                  obtain ⟨vb, vk, hvv⟩ : ∃ a c, vv = .slice a st.vic.length c := by
                    rcases HM5.out.vc with ⟨e1, e2⟩ | ⟨g, o, c, cur, e, _⟩
                    · have e3 : natI st.vic = [] := e2
                      have : st.vic.length = 0 := by simpa [natI] using congrArg List.length e3
                      exact ⟨none, 0, by rw [this]; exact e1⟩
                    · have e : vv = .slice (some ⟨g, o, none⟩) (natI st.vic).length c := e
                      exact ⟨some ⟨g, o, none⟩, c, by rw [e]; simp [natI]⟩
                  subst hvv
                  have HMa := hideIt (HM5.out.below (belA (Below.refl _ _) (.cells #[.int .i64 (m : Int)] 3)))
                  have c0 : wr.cell? ⟨w0.heap.size + 4, 2, none⟩ = some (.slice vb st.vic.length vk) := cell_of_row _ _ _ _ 36 _ HM5.out.bo
                  have hsz := HM5.out.lt
                  have hH := HM5.out.hH
                  have hnl : (natI st.vic).length ≤ 100000 := by unfold natI; rw [List.length_map]; exact hvl
                  have HVc : Hid (RowAt (wr.alloc (.cells #[.int .i64 (m : Int)] 3)) (w0.heap.size + 9) (.slice vb st.vic.length vk) (natI st.vic)) := HMa.out.vc
                  clear HUp HOn HRd HTr HG3 HM5
                  go_wp2_with (at_builtin; refine wpList_append_row rfl _ _ rfl (w0.heap.size + 9) _ (natI st.vic) rfl HVc.out wr.heap.size 1 (m : Int) rfl ?c1 ?c2 ?c3 ?_)
                  case c3 => omega
                  intro v6 W6 ht6
                  rw [← natI_app] at ht6
                  obtain ⟨vb6, vk6, hv6⟩ : ∃ a c, v6 = .slice a (natI (st.vic ++ [m])).length c := by
                    rcases ht6.row with ⟨_, e2⟩ | ⟨g, o, c, cur, e, _⟩
                    · simp [natI] at e2
                    · exact ⟨_, _, e⟩
                  subst hv6
                  have hbk : W6.heap[w0.heap.size + 4]? = some (.cells #[.slice va st.done.length vc, .slice (some ⟨w0.heap.size + 3, 0, none⟩) n n, .slice vb st.vic.length vk] 36 (0, 0)) := (ht6.grown.block _ (lt_of_heap HMa.out.bo) fun e => by
                    have := (HMa.out.vc.blk _ e.symm).1
                    omega).trans HMa.out.bo
                  have d0 : W6.cell? ⟨w0.heap.size + 4, 2, none⟩ = some (.slice vb st.vic.length vk) := cell_of_row _ _ _ _ 36 _ hbk
                  have d1 : W6.frozen? ⟨w0.heap.size + 4, 2, none⟩ = false := frozen_of_row _ _ _ _ 36 hbk
                  have HM7 := hideIt (HMa.out.vict ht6)
                  clear ht6 hbk HMa HVc c0
                  go_upto_region 24 with fail
                  clear d0 d1
                  generalize W6.setCell ⟨w0.heap.size + 4, 2, none⟩ _ = W7 at HM7 ⊢
                  have r4 : W7.cell? ⟨H + 1, 0, none⟩ = some (fnE w0 H) := cell_of_row _ _ _ _ 55 _ HM7.out.be
                  unfold fnE at r4
                  go_wp2_with fail
                  refine (end_any HM7.out h8 (by show st.done.length ≤ 500; omega) m hm 4).mono ?_
                  rintro e W8 ⟨rfl, vd8, rb8, h8x⟩
                  have HF := hideIt (h8x.eq (st' := goS p n st t) HG.out.symm)
                  clear h8x HM7 r4
                  go_wp2
                  refine bodyPost_ret (results_none rfl _ _ _) rfl ?_
                  exact ⟨rfl, _, _, _, HF.out⟩
end Go.Proofs.YthmiocbihhbdpaaDoor
