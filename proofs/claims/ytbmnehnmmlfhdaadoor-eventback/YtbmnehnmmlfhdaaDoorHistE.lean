/-
  What end of a history does with what took place, and with what is not known.
-/
import Derived.Test.YtbmnehnmmlfhdaaDoorHistD
namespace Go.Proofs.YtbmnehnmmlfhdaaDoor
open Go.RowKit

/-- A cell that is none of a history's is set. -/
theorem HistAt.setFar {w : World} {B M base cnt b j : Nat} {s : Hs} {v : Value} (h : HistAt w B M base cnt s) (hv : w.cell? ⟨B, 9, none⟩ = some v) (hbB : B ≠ b) (hbM : M ≠ b) (hbv : v.ownBlock ≠ some b) (u : Value) : HistAt (w.setCell ⟨b, j, none⟩ u) B M base cnt s := by
  obtain ⟨v0, h1, h2, h3⟩ := h.row
  obtain rfl := Option.some.inj (hv.symm.trans h1)
  have hc : ∀ i, (w.setCell ⟨b, j, none⟩ u).cell? ⟨B, i, none⟩ = w.cell? ⟨B, i, none⟩ := fun i => World.cell?_setCell_other (h := fun k => hbB (congrArg Addr.block k).symm) ..
  have hf : ∀ a, (w.setCell ⟨b, j, none⟩ u).frozen? a = w.frozen? a := fun a => by simp
  exact ⟨by rw [hc]; exact h.mapc, fun p p0 p8 => by rw [hc, hf]; exact h.lost p p0 p8, ⟨v, by rw [hc]; exact h1, by rw [hf]; exact h2, ownsRow_setCell_other h3 hbv u⟩, h.map.setCell hbM u, h.lt1, h.lt2, by simpa using h.lt3⟩

/-- What holds ahead of the append. -/
structure Pre (w0 : World) (x : Opn) (v : Value) (B M base cnt : Nat) (s : Hs) (w : World) : Prop where
  hist : HistAt w B M base cnt s
  op : OpAt w (w0.heap.size + 1) 0 x
  bel : Below M w0 w
  row : w.cell? ⟨B, 9, none⟩ = some v
  own : ∀ g, v.ownBlock = some g → g < w0.heap.size

theorem pre_of {w0 w : World} {e : Ev} {o : Opn} {v : Value} {B M base cnt : Nat} {s : Hs} (h : Mid w0 e o v B M base cnt s w) (hB : B < w0.heap.size) (r n : Int) :
    Pre w0 (endO o r n) v B M base cnt s ((w.setCell ⟨w0.heap.size + 1, 5, none⟩ (.int .i64 r)).setCell ⟨w0.heap.size + 1, 7, none⟩ (.int .i64 n)) := by
  have hM : M < w0.heap.size := Nat.lt_trans h.hist.lt1 hB
  have hv1 : v.ownBlock ≠ some (w0.heap.size + 1) := fun k => by have := h.own _ k; omega
  have row1 : (w.setCell ⟨w0.heap.size + 1, 5, none⟩ (.int .i64 r)).cell? ⟨B, 9, none⟩ = some v := by
    rw [World.cell?_setCell_other (h := fun k => by have := congrArg Addr.block k; simp at this; omega)]; exact h.row
  obtain ⟨⟨k0, k1, k2, k3, k4, k5, k6, k7⟩, hfz⟩ := h.op
  have hoth : ∀ (W : World) (i j : Nat) (u : Value), i ≠ j → (W.setCell ⟨w0.heap.size + 1, i, none⟩ u).cell? ⟨w0.heap.size + 1, j, none⟩ = W.cell? ⟨w0.heap.size + 1, j, none⟩ := fun W i j u hij => World.cell?_setCell_other (h := fun k => hij (congrArg Addr.off k)) ..
  refine ⟨(h.hist.setFar h.row (by omega) (by omega) hv1 _).setFar row1 (by omega) (by omega) hv1 _, ⟨?_, ?_, ?_, ?_, ?_, ?_, ?_, ?_⟩, (h.bel.setCell (by show M ≤ w0.heap.size + 1; omega) _).setCell (by show M ≤ w0.heap.size + 1; omega) _, ?_, h.own⟩
  · rw [hoth _ _ _ _ (by decide), hoth _ _ _ _ (by decide)]; exact k0
  · rw [hoth _ _ _ _ (by decide), hoth _ _ _ _ (by decide)]; exact k1
  · rw [hoth _ _ _ _ (by decide), hoth _ _ _ _ (by decide)]; exact k2
  · rw [hoth _ _ _ _ (by decide), hoth _ _ _ _ (by decide)]; exact k3
  · rw [hoth _ _ _ _ (by decide), hoth _ _ _ _ (by decide)]; exact k4
  · rw [hoth _ _ _ _ (by decide)]; exact World.cell?_setCell_same (h := k5) ..
  · rw [hoth _ _ _ _ (by decide), hoth _ _ _ _ (by decide)]; exact k6
  · exact World.cell?_setCell_same (h := (hoth _ _ _ _ (by decide)).trans k7) ..
  · rw [World.cell?_setCell_other (h := fun k => by have := congrArg Addr.block k; simp at this; omega)]; exact row1

theorem pre_lost {w0 w : World} {e : Ev} {o : Opn} {v : Value} {B M base cnt : Nat} {s : Hs} (h : Mid w0 e o v B M base cnt s w) (hB : B < w0.heap.size) (h0 : 0 ≤ e.p) (h8 : e.p < 8) :
    Pre w0 o v B M base cnt ⟨s.busy, setB s.lost e.p true, s.done⟩ ((w.setCell ⟨B, 1 + e.p.toNat, none⟩ (.bool true)).drew) := by
  have hM : M < w0.heap.size := Nat.lt_trans h.hist.lt1 hB
  have hl := h.hist.lt1
  obtain ⟨⟨k0, k1, k2, k3, k4, k5, k6, k7⟩, hfz⟩ := h.op
  have hoth : ∀ j, (w.setCell ⟨B, 1 + e.p.toNat, none⟩ (.bool true)).cell? ⟨w0.heap.size + 1, j, none⟩ = w.cell? ⟨w0.heap.size + 1, j, none⟩ := fun j => World.cell?_setCell_other (h := fun k => by have := congrArg Addr.block k; simp at this; omega) ..
  refine ⟨(hist_setLost h.hist e.p h0 h8).drew, ⟨(hoth 0).trans k0, (hoth 1).trans k1, (hoth 2).trans k2, (hoth 3).trans k3, (hoth 4).trans k4, (hoth 5).trans k5, (hoth 6).trans k6, (hoth 7).trans k7⟩, (h.bel.setCell (by show M ≤ B; omega) _).drew, ?_, h.own⟩
  show (w.setCell ⟨B, 1 + e.p.toNat, none⟩ (.bool true)).cell? ⟨B, 9, none⟩ = some v
  rw [World.cell?_setCell_other (h := fun k => by have := congrArg Addr.off k; simp at this; omega)]; exact h.row

/-- The append, out of what holds ahead of it: the equation of its run, and all that the region asks. -/
theorem pre_append {w0 w : World} {x : Opn} {v : Value} {B M base cnt : Nat} {s : Hs} (h : Pre w0 x v B M base cnt s w) (hB : B < w0.heap.size) (hw : w0.heap.size + 1 < w.heap.size) (hn : s.done.length ≤ 200) (ty : TypeId) :
    ∃ g cap w4, (Builtin.append_ #[47, 47] ty #[v, .slice (some ⟨w.heap.size, 0, none⟩) 1 1]).run Tryd.prog (w.alloc (.cells #[.int .i64 x.p, .int .i64 x.k, .int .i64 x.d, .int .i64 x.a, .int .i64 x.b, .int .i64 x.r, .int .i64 x.c, .int .i64 x.e] 51)).drew = .ok (.slice (some ⟨g, 0, none⟩) (s.done.length + 1) cap) w4 ∧
      w4.cell? ⟨B, 9, none⟩ = some v ∧ w4.frozen? ⟨B, 9, none⟩ = false ∧ OpAt w4 (w0.heap.size + 1) 0 x ∧
      HistAt (w4.setCell ⟨B, 9, none⟩ (.slice (some ⟨g, 0, none⟩) (s.done.length + 1) cap)) B M base cnt ⟨s.busy, s.lost, s.done ++ [x]⟩ ∧ Below M w0 (w4.setCell ⟨B, 9, none⟩ (.slice (some ⟨g, 0, none⟩) (s.done.length + 1) cap)) := by
  obtain ⟨g, cap, w4, hr, hcf, hh, hb⟩ := hist_append h.hist h.row hn x ty
  have hBw : B < w.heap.size := by omega
  have hBne : v.ownBlock ≠ some B := fun k => by
    obtain ⟨v0, h1, _, h3⟩ := h.hist.row
    obtain rfl := Option.some.inj (h.row.symm.trans h1)
    have := (h3.lt B k).1
    have := h.hist.lt2
    omega
  have hone : v.ownBlock ≠ some (w0.heap.size + 1) := fun k => by have := h.own _ k; omega
  obtain ⟨v0, h1, h2, _⟩ := h.hist.row
  refine ⟨g, cap, w4, hr, ?_, ?_, ?_, hh, h.bel.trans hb⟩
  · rw [(hcf B 9 (by omega) hBne).1, World.cell?_alloc_lt _ _ _ hBw]; exact h.row
  · rw [(hcf B 9 (by omega) hBne).2, World.frozen?_alloc_old _ _ _ (Nat.ne_of_lt hBw)]; exact h2
  · have k : ∀ j, w4.cell? ⟨w0.heap.size + 1, j, none⟩ = w.cell? ⟨w0.heap.size + 1, j, none⟩ := fun j => by
      rw [(hcf (w0.heap.size + 1) j (by omega) hone).1, World.cell?_alloc_lt _ _ _ hw]
    obtain ⟨k0, k1, k2, k3, k4, k5, k6, k7⟩ := h.op
    exact ⟨(k 0).trans k0, (k 1).trans k1, (k 2).trans k2, (k 3).trans k3, (k 4).trans k4, (k 5).trans k5, (k 6).trans k6, (k 7).trans k7⟩

end Go.Proofs.YtbmnehnmmlfhdaaDoor
