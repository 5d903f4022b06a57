/-
  What end of a history does.
  What end of a history does with what a process is at.
  What end of a history does with what took place, and with what is not known.
-/
import Derived.Test.YtndogemgjjgbgabDoorMemZ
namespace Go.Proofs.YtndogemgjjgbgabDoor
open Go.RowKit

set_option maxHeartbeats 1000000 in
theorem end_none (e : Ev) (n : Int) (w : World) (B M base cnt : Nat) (s : Hs) (H : HistAt w B M base cnt s) (h0 : 0 ≤ e.p) (h8 : e.p < 8) (hb : s.busy e.p = none) :
    Calls Tryd.prog 24 #[.pointer (some ⟨B, 0, none⟩), .int .i64 n, e.agg] w fun ev w' => ev = .returned (.int .i64 12) ∧ HistAt w' B M base cnt s ∧ Below M w w' := by
  have hB : B < w.heap.size := Nat.lt_of_lt_of_le H.lt2 H.lt3
  have hM : M < w.heap.size := Nat.lt_trans H.lt1 hB
  have hc := H.mapc
  obtain ⟨x, hr1, hx1⟩ := (H.map.alloc e.obj).drew.look e.p h0 h8
  obtain ⟨y, hr2, hx2⟩ := ((H.map.alloc e.obj).alloc zeroObj).drew.look e.p h0 h8
  rw [hb] at hr1 hr2
  simp only [Option.isSome_none] at hr1 hr2
  clear hx1 hx2 hb
  unfold Opn.agg Ev.obj at hr1
  unfold Opn.agg Ev.obj zeroObj at hr2
  have HH := H
  clear H
  unfold Ev.agg
  go_enter Tryd.func24, Tryd.ntmps24
  go_wp2_with fail
  go_region
  all_goals
    go_wp2
    go_ret
    refine ⟨rfl, ?_, ?_⟩
    · repeat (first | exact HH | refine HistAt.drewN ?_ _ | refine HistAt.drew ?_ | refine HistAt.alloc ?_ _)
    · refine Below.mono (B := w.heap.size) ?_ (Nat.le_of_lt hM)
      repeat (first | exact Below.refl _ _ | refine below_drewN ?_ _ | refine Below.drew ?_ | refine belA ?_ _)

set_option maxHeartbeats 1000000 in
theorem end_other (e : Ev) (n : Int) (w : World) (B M base cnt : Nat) (s : Hs) (o : Opn) (H : HistAt w B M base cnt s) (h0 : 0 ≤ e.p) (h8 : e.p < 8) (hb : s.busy e.p = some o) (hne : sameB o e = false) :
    Calls Tryd.prog 24 #[.pointer (some ⟨B, 0, none⟩), .int .i64 n, e.agg] w fun ev w' => ev = .returned (.int .i64 12) ∧ HistAt w' B M base cnt s ∧ Below M w w' := by
  have hB : B < w.heap.size := Nat.lt_of_lt_of_le H.lt2 H.lt3
  have hM : M < w.heap.size := Nat.lt_trans H.lt1 hB
  have hc := H.mapc
  obtain ⟨x, hr1, hx1⟩ := (H.map.alloc e.obj).drew.look e.p h0 h8
  obtain rfl := hx1 o hb
  obtain ⟨y, hr2, hx2⟩ := ((H.map.alloc e.obj).alloc zeroObj).drew.look e.p h0 h8
  obtain rfl := hx2 x hb
  rw [hb] at hr1 hr2
  simp only [Option.isSome_some] at hr1 hr2
  clear hx1 hx2 hb
  unfold Opn.agg Ev.obj at hr1
  unfold Opn.agg Ev.obj zeroObj at hr2
  have HH := H
  clear H
  unfold Ev.agg
  have fin : ∀ W : World, W = ((w.alloc e.obj).alloc y.obj).drew → HistAt W B M base cnt s ∧ Below M w W := fun W hW => by
    subst hW
    exact ⟨((HH.alloc _).alloc _).drew, ((belA (belA (Below.refl _ _) _) _).drew).mono (Nat.le_of_lt hM)⟩
  have FIN := hideIt fin
  clear fin
  cases a1 : y.k == e.k
  · have a1' : (y.k != e.k) = true := by simp [bne, a1]
    clear hne
    go_enter Tryd.func24, Tryd.ntmps24
    go_wp2_with fail
    go_region
    all_goals
      go_wp2
      go_ret
      exact ⟨rfl, FIN.out _ rfl⟩
  · have a1' : (y.k != e.k) = false := by simp [bne, a1]
    cases a2 : y.d == e.d
    · have a2' : (y.d != e.d) = true := by simp [bne, a2]
      clear hne
      go_enter Tryd.func24, Tryd.ntmps24
      go_wp2_with fail
      go_region
      all_goals
        go_wp2
        go_ret
        exact ⟨rfl, FIN.out _ rfl⟩
    · have a2' : (y.d != e.d) = false := by simp [bne, a2]
      cases a3 : y.a == e.a
      · have a3' : (y.a != e.a) = true := by simp [bne, a3]
        clear hne
        go_enter Tryd.func24, Tryd.ntmps24
        go_wp2_with fail
        go_region
        all_goals
          go_wp2
          go_ret
          exact ⟨rfl, FIN.out _ rfl⟩
      · have a3' : (y.a != e.a) = false := by simp [bne, a3]
        have a4 : (y.b == e.b) = false := by simpa [sameB, a1, a2, a3] using hne
        have a4' : (y.b != e.b) = true := by simp [bne, a4]
        clear hne
        go_enter Tryd.func24, Tryd.ntmps24
        go_wp2_with fail
        go_region
        all_goals
          go_wp2
          go_ret
          exact ⟨rfl, FIN.out _ rfl⟩

end Go.Proofs.YtndogemgjjgbgabDoor

namespace Go.Proofs.YtndogemgjjgbgabDoor
open Go.RowKit

/-- An op in a block of its own, that may be written. -/
def OpIn (w : World) (b : Nat) (x : Opn) : Prop := OpAt w b 0 x ∧ ∀ j, w.frozen? ⟨b, j, none⟩ = false

/-- What holds when the map has lost an entry, ahead of the switch. -/
structure Mid (w0 : World) (e : Ev) (o : Opn) (v : Value) (B M base cnt : Nat) (s : Hs) (w : World) : Prop where
  hist : HistAt w B M base cnt s
  ev : EvIn w w0.heap.size e
  op : OpIn w (w0.heap.size + 1) o
  bel : Below M w0 w
  row : w.cell? ⟨B, 9, none⟩ = some v
  own : ∀ g, v.ownBlock = some g → g < w0.heap.size

theorem mid_of {w w2 : World} {e : Ev} {o : Opn} {v : Value} {B M base cnt : Nat} {s : Hs} {busy : Int → Option Opn} (H : HistAt w B M base cnt s) (hv : w.cell? ⟨B, 9, none⟩ = some v)
    (ht : ((w.alloc e.obj).alloc o.obj).drew.drew.mapTurned w2 M) (hm : MapIs w2 M cnt busy) : Mid w e o v B M base cnt ⟨busy, s.lost, s.done⟩ w2 := by
  have hB : B < w.heap.size := Nat.lt_of_lt_of_le H.lt2 H.lt3
  have hM : M < w.heap.size := Nat.lt_trans H.lt1 hB
  have hblk : ∀ b, b < w.heap.size + 2 → b ≠ M → w2.heap[b]? = ((w.alloc e.obj).alloc o.obj).heap[b]? := fun b hb hne => ht.grown.block b (by simpa using hb) (fun k => hne (Option.some.inj k))
  have hc : ∀ b j, b < w.heap.size + 2 → b ≠ M → w2.cell? ⟨b, j, none⟩ = ((w.alloc e.obj).alloc o.obj).cell? ⟨b, j, none⟩ := fun b j hb hne => World.cell?_of_block (a := ⟨b, j, none⟩) (hblk b hb hne)
  have hf : ∀ b j, b < w.heap.size + 2 → b ≠ M → w2.frozen? ⟨b, j, none⟩ = ((w.alloc e.obj).alloc o.obj).frozen? ⟨b, j, none⟩ := fun b j hb hne => World.frozen?_of_block (a := ⟨b, j, none⟩) (hblk b hb hne)
  refine ⟨(((H.alloc _).alloc _).drew.drew).turned ht hm, ?_, ⟨?_, fun j => ?_⟩, ?_, ?_, ?_⟩
  · obtain ⟨k0, k1, k2, k3, k4, k5, k6⟩ := evIn_new w e o.obj
    have hne : w.heap.size ≠ M := Nat.ne_of_gt hM
    exact ⟨(hc _ 0 (by omega) hne).trans k0, (hc _ 1 (by omega) hne).trans k1, (hc _ 2 (by omega) hne).trans k2, (hc _ 3 (by omega) hne).trans k3, (hc _ 4 (by omega) hne).trans k4, (hc _ 5 (by omega) hne).trans k5, (hc _ 6 (by omega) hne).trans k6⟩
  · have hne : w.heap.size + 1 ≠ M := by omega
    have k := opAt_new (w.alloc e.obj) o
    rw [show (w.alloc e.obj).heap.size = w.heap.size + 1 from by simp] at k
    obtain ⟨k0, k1, k2, k3, k4, k5, k6, k7⟩ := k
    exact ⟨(hc _ 0 (by omega) hne).trans k0, (hc _ 1 (by omega) hne).trans k1, (hc _ 2 (by omega) hne).trans k2, (hc _ 3 (by omega) hne).trans k3, (hc _ 4 (by omega) hne).trans k4, (hc _ 5 (by omega) hne).trans k5, (hc _ 6 (by omega) hne).trans k6, (hc _ 7 (by omega) hne).trans k7⟩
  · rw [hf _ j (by omega) (by omega)]
    have e1 : w.heap.size + 1 = (w.alloc e.obj).heap.size := by simp
    rw [e1]
    unfold Opn.obj
    simp
  · exact ((belA (belA (Below.refl _ _) _) _).drew.drew.mono (Nat.le_of_lt hM)).trans (below_turned ht (by simp; omega))
  · rw [hc B 9 (by omega) (Nat.ne_of_gt H.lt1), World.cell?_alloc_lt _ _ _ (by simp; omega), World.cell?_alloc_lt _ _ _ hB]; exact hv
  · intro g hg
    obtain ⟨v0, h1, _, h3⟩ := H.row
    obtain rfl := Option.some.inj (hv.symm.trans h1)
    exact (h3.lt g hg).2

set_option maxHeartbeats 2000000 in
theorem end_fail (e : Ev) (n : Int) (w : World) (B M base cnt : Nat) (s : Hs) (o : Opn) (H : HistAt w B M base cnt s) (h0 : 0 ≤ e.p) (h8 : e.p < 8) (hb : s.busy e.p = some o) (hsame : sameB o e = true) (ht2 : e.t ≠ 2) (ht4 : e.t ≠ 4) :
    Calls Tryd.prog 24 #[.pointer (some ⟨B, 0, none⟩), .int .i64 n, e.agg] w fun ev w' => ev = .returned (.int .i64 0) ∧ HistAt w' B M base cnt ⟨setO s.busy e.p none, s.lost, s.done⟩ ∧ Below M w w' := by
  have hB : B < w.heap.size := Nat.lt_of_lt_of_le H.lt2 H.lt3
  have hM : M < w.heap.size := Nat.lt_trans H.lt1 hB
  have hc := H.mapc
  obtain ⟨x, hr1, hx1⟩ := (H.map.alloc e.obj).drew.look e.p h0 h8
  have hx1 := hx1 o hb
  subst hx1
  obtain ⟨y, hr2, hx2⟩ := ((H.map.alloc e.obj).alloc zeroObj).drew.look e.p h0 h8
  have hx2 := hx2 x hb
  subst hx2
  rw [hb] at hr1 hr2
  simp only [Option.isSome_some] at hr1 hr2
  obtain ⟨v, hv, _, _⟩ := H.row
  obtain ⟨w2, hr3, hm3, ht3⟩ := (((H.map.alloc e.obj).alloc y.obj).drew.drew).drop e.p h0 h8 0
  have MID := hideIt (mid_of H hv ht3 hm3)
  clear hb hm3 ht3
  unfold Opn.agg Ev.obj at hr1
  unfold Opn.agg Ev.obj zeroObj at hr2
  unfold Opn.obj Ev.obj at hr3
  simp only [sameB, Bool.and_eq_true, beq_iff_eq] at hsame
  obtain ⟨⟨⟨a1, a2⟩, a3⟩, a4⟩ := hsame
  have a1' : (y.k != e.k) = false := by simp [a1]
  have a2' : (y.d != e.d) = false := by simp [a2]
  have a3' : (y.a != e.a) = false := by simp [a3]
  have a4' : (y.b != e.b) = false := by simp [a4]
  have t2 : (e.t == 2) = false := by simp [ht2]
  have t4 : (e.t == 4) = false := by simp [ht4]
  clear a1 a2 a3 a4 ht2 ht4 hv H
  unfold Ev.agg
  go_enter Tryd.func24, Tryd.ntmps24
  go_wp2_with fail
  go_region
  all_goals
    clear hr1 hr2
    go_upto_region 4 with fail
    obtain ⟨k0, k1, k2, k3, k4, k5, k6⟩ := MID.out.ev
    have kc := MID.out.hist.mapc
    go_region_held3 (fun w' => w'.cell? ⟨B, 0, none⟩ = some (.map (some M)) ∧ w'.cell? ⟨w.heap.size, 0, none⟩ = some (.int .i64 e.p)) (go_keep) (fail)
    go_wp2
    go_ret
    exact ⟨rfl, MID.out.hist, MID.out.bel⟩

end Go.Proofs.YtndogemgjjgbgabDoor

namespace Go.Proofs.YtndogemgjjgbgabDoor
open Go.RowKit

/-- A cell that is none of a history's is set. -/
theorem HistAt.setFar {w : World} {B M base cnt b j : Nat} {s : Hs} {v : Value} (h : HistAt w B M base cnt s) (hv : w.cell? ⟨B, 9, none⟩ = some v) (hbB : B ≠ b) (hbM : M ≠ b) (hbv : v.ownBlock ≠ some b) (u : Value) : HistAt (w.setCell ⟨b, j, none⟩ u) B M base cnt s := by
  obtain ⟨v0, h1, h2, h3⟩ := h.row
  obtain rfl := Option.some.inj (hv.symm.trans h1)
  have hc : ∀ i, (w.setCell ⟨b, j, none⟩ u).cell? ⟨B, i, none⟩ = w.cell? ⟨B, i, none⟩ := fun i => World.cell?_setCell_other (h := fun k => hbB (congrArg Addr.block k).symm) ..
  have hf : ∀ a, (w.setCell ⟨b, j, none⟩ u).frozen? a = w.frozen? a := fun a => by simp
  exact ⟨by rw [hc]; exact h.mapc, fun p p0 p8 => by rw [hc, hf]; exact h.lost p p0 p8, ⟨v, by rw [hc]; exact h1, by rw [hf]; exact h2, ownsRow_setCell_other h3 hbv u⟩, h.map.setCell hbM u, h.lt1, h.lt2, by simpa using h.lt3⟩

/-- What holds ahead of the append. -/
structure Pre (w0 : World) (x : Opn) (v : Value) (B M base cnt : Nat) (s : Hs) (w : World) : Prop where
  hist : HistAt w B M base cnt s
  op : OpAt w (w0.heap.size + 1) 0 x
  bel : Below M w0 w
  row : w.cell? ⟨B, 9, none⟩ = some v
  own : ∀ g, v.ownBlock = some g → g < w0.heap.size

theorem pre_of {w0 w : World} {e : Ev} {o : Opn} {v : Value} {B M base cnt : Nat} {s : Hs} (h : Mid w0 e o v B M base cnt s w) (hB : B < w0.heap.size) (r n : Int) :
    Pre w0 (endO o r n) v B M base cnt s ((w.setCell ⟨w0.heap.size + 1, 5, none⟩ (.int .i64 r)).setCell ⟨w0.heap.size + 1, 7, none⟩ (.int .i64 n)) := by
  have hM : M < w0.heap.size := Nat.lt_trans h.hist.lt1 hB
  have hv1 : v.ownBlock ≠ some (w0.heap.size + 1) := fun k => by have := h.own _ k; omega
  have row1 : (w.setCell ⟨w0.heap.size + 1, 5, none⟩ (.int .i64 r)).cell? ⟨B, 9, none⟩ = some v := by
    rw [World.cell?_setCell_other (h := fun k => by have := congrArg Addr.block k; simp at this; omega)]; exact h.row
  obtain ⟨⟨k0, k1, k2, k3, k4, k5, k6, k7⟩, hfz⟩ := h.op
  have hoth : ∀ (W : World) (i j : Nat) (u : Value), i ≠ j → (W.setCell ⟨w0.heap.size + 1, i, none⟩ u).cell? ⟨w0.heap.size + 1, j, none⟩ = W.cell? ⟨w0.heap.size + 1, j, none⟩ := fun W i j u hij => World.cell?_setCell_other (h := fun k => hij (congrArg Addr.off k)) ..
  refine ⟨(h.hist.setFar h.row (by omega) (by omega) hv1 _).setFar row1 (by omega) (by omega) hv1 _, ⟨?_, ?_, ?_, ?_, ?_, ?_, ?_, ?_⟩, (h.bel.setCell (by show M ≤ w0.heap.size + 1; omega) _).setCell (by show M ≤ w0.heap.size + 1; omega) _, ?_, h.own⟩
  · rw [hoth _ _ _ _ (by decide), hoth _ _ _ _ (by decide)]; exact k0
  · rw [hoth _ _ _ _ (by decide), hoth _ _ _ _ (by decide)]; exact k1
  · rw [hoth _ _ _ _ (by decide), hoth _ _ _ _ (by decide)]; exact k2
  · rw [hoth _ _ _ _ (by decide), hoth _ _ _ _ (by decide)]; exact k3
  · rw [hoth _ _ _ _ (by decide), hoth _ _ _ _ (by decide)]; exact k4
  · rw [hoth _ _ _ _ (by decide)]; exact World.cell?_setCell_same (h := k5) ..
  · rw [hoth _ _ _ _ (by decide), hoth _ _ _ _ (by decide)]; exact k6
  · exact World.cell?_setCell_same (h := (hoth _ _ _ _ (by decide)).trans k7) ..
  · rw [World.cell?_setCell_other (h := fun k => by have := congrArg Addr.block k; simp at this; omega)]; exact row1

theorem pre_lost {w0 w : World} {e : Ev} {o : Opn} {v : Value} {B M base cnt : Nat} {s : Hs} (h : Mid w0 e o v B M base cnt s w) (hB : B < w0.heap.size) (h0 : 0 ≤ e.p) (h8 : e.p < 8) :
    Pre w0 o v B M base cnt ⟨s.busy, setB s.lost e.p true, s.done⟩ ((w.setCell ⟨B, 1 + e.p.toNat, none⟩ (.bool true)).drew) := by
  have hM : M < w0.heap.size := Nat.lt_trans h.hist.lt1 hB
  have hl := h.hist.lt1
  obtain ⟨⟨k0, k1, k2, k3, k4, k5, k6, k7⟩, hfz⟩ := h.op
  have hoth : ∀ j, (w.setCell ⟨B, 1 + e.p.toNat, none⟩ (.bool true)).cell? ⟨w0.heap.size + 1, j, none⟩ = w.cell? ⟨w0.heap.size + 1, j, none⟩ := fun j => World.cell?_setCell_other (h := fun k => by have := congrArg Addr.block k; simp at this; omega) ..
  refine ⟨(hist_setLost h.hist e.p h0 h8).drew, ⟨(hoth 0).trans k0, (hoth 1).trans k1, (hoth 2).trans k2, (hoth 3).trans k3, (hoth 4).trans k4, (hoth 5).trans k5, (hoth 6).trans k6, (hoth 7).trans k7⟩, (h.bel.setCell (by show M ≤ B; omega) _).drew, ?_, h.own⟩
  show (w.setCell ⟨B, 1 + e.p.toNat, none⟩ (.bool true)).cell? ⟨B, 9, none⟩ = some v
  rw [World.cell?_setCell_other (h := fun k => by have := congrArg Addr.off k; simp at this; omega)]; exact h.row

/-- The append, out of what holds ahead of it: the equation of its run, and all that the region asks. -/
theorem pre_append {w0 w : World} {x : Opn} {v : Value} {B M base cnt : Nat} {s : Hs} (h : Pre w0 x v B M base cnt s w) (hB : B < w0.heap.size) (hw : w0.heap.size + 1 < w.heap.size) (hn : s.done.length ≤ 200) (ty : TypeId) :
    ∃ g cap w4, (Builtin.append_ #[24, 24] ty #[v, .slice (some ⟨w.heap.size, 0, none⟩) 1 1]).run Tryd.prog (w.alloc (.cells #[.int .i64 x.p, .int .i64 x.k, .int .i64 x.d, .int .i64 x.a, .int .i64 x.b, .int .i64 x.r, .int .i64 x.c, .int .i64 x.e] 39)).drew = .ok (.slice (some ⟨g, 0, none⟩) (s.done.length + 1) cap) w4 ∧
      w4.cell? ⟨B, 9, none⟩ = some v ∧ w4.frozen? ⟨B, 9, none⟩ = false ∧ OpAt w4 (w0.heap.size + 1) 0 x ∧
      HistAt (w4.setCell ⟨B, 9, none⟩ (.slice (some ⟨g, 0, none⟩) (s.done.length + 1) cap)) B M base cnt ⟨s.busy, s.lost, s.done ++ [x]⟩ ∧ Below M w0 (w4.setCell ⟨B, 9, none⟩ (.slice (some ⟨g, 0, none⟩) (s.done.length + 1) cap)) := by
  obtain ⟨g, cap, w4, hr, hcf, hh, hb⟩ := hist_append h.hist h.row hn x ty
  have hBw : B < w.heap.size := by omega
  have hBne : v.ownBlock ≠ some B := fun k => by
    obtain ⟨v0, h1, _, h3⟩ := h.hist.row
    obtain rfl := Option.some.inj (h.row.symm.trans h1)
    have := (h3.lt B k).1
    have := h.hist.lt2
    omega
  have hone : v.ownBlock ≠ some (w0.heap.size + 1) := fun k => by have := h.own _ k; omega
  obtain ⟨v0, h1, h2, _⟩ := h.hist.row
  refine ⟨g, cap, w4, hr, ?_, ?_, ?_, hh, h.bel.trans hb⟩
  · rw [(hcf B 9 (by omega) hBne).1, World.cell?_alloc_lt _ _ _ hBw]; exact h.row
  · rw [(hcf B 9 (by omega) hBne).2, World.frozen?_alloc_old _ _ _ (Nat.ne_of_lt hBw)]; exact h2
  · have k : ∀ j, w4.cell? ⟨w0.heap.size + 1, j, none⟩ = w.cell? ⟨w0.heap.size + 1, j, none⟩ := fun j => by
      rw [(hcf (w0.heap.size + 1) j (by omega) hone).1, World.cell?_alloc_lt _ _ _ hw]
    obtain ⟨k0, k1, k2, k3, k4, k5, k6, k7⟩ := h.op
    exact ⟨(k 0).trans k0, (k 1).trans k1, (k 2).trans k2, (k 3).trans k3, (k 4).trans k4, (k 5).trans k5, (k 6).trans k6, (k 7).trans k7⟩

end Go.Proofs.YtndogemgjjgbgabDoor
