/-
  What end of a history does with what a process is at.
-/
import Derived.Test.YtbmnehnmmlfhdaaDoorHistC
namespace Go.Proofs.YtbmnehnmmlfhdaaDoor
open Go.RowKit

/-- An op in a block of its own, that may be written. -/
def OpIn (w : World) (b : Nat) (x : Opn) : Prop := OpAt w b 0 x ∧ ∀ j, w.frozen? ⟨b, j, none⟩ = false

/-- What holds when the map has lost an entry, ahead of the switch. -/
structure Mid (w0 : World) (e : Ev) (o : Opn) (v : Value) (B M base cnt : Nat) (s : Hs) (w : World) : Prop where
  hist : HistAt w B M base cnt s
  ev : EvIn w w0.heap.size e
  op : OpIn w (w0.heap.size + 1) o
  bel : Below M w0 w
  row : w.cell? ⟨B, 9, none⟩ = some v
  own : ∀ g, v.ownBlock = some g → g < w0.heap.size

theorem mid_of {w w2 : World} {e : Ev} {o : Opn} {v : Value} {B M base cnt : Nat} {s : Hs} {busy : Int → Option Opn} (H : HistAt w B M base cnt s) (hv : w.cell? ⟨B, 9, none⟩ = some v)
    (ht : ((w.alloc e.obj).alloc o.obj).drew.drew.mapTurned w2 M) (hm : MapIs w2 M cnt busy) : Mid w e o v B M base cnt ⟨busy, s.lost, s.done⟩ w2 := by
  have hB : B < w.heap.size := Nat.lt_of_lt_of_le H.lt2 H.lt3
  have hM : M < w.heap.size := Nat.lt_trans H.lt1 hB
  have hblk : ∀ b, b < w.heap.size + 2 → b ≠ M → w2.heap[b]? = ((w.alloc e.obj).alloc o.obj).heap[b]? := fun b hb hne => ht.grown.block b (by simpa using hb) (fun k => hne (Option.some.inj k))
  have hc : ∀ b j, b < w.heap.size + 2 → b ≠ M → w2.cell? ⟨b, j, none⟩ = ((w.alloc e.obj).alloc o.obj).cell? ⟨b, j, none⟩ := fun b j hb hne => World.cell?_of_block (a := ⟨b, j, none⟩) (hblk b hb hne)
  have hf : ∀ b j, b < w.heap.size + 2 → b ≠ M → w2.frozen? ⟨b, j, none⟩ = ((w.alloc e.obj).alloc o.obj).frozen? ⟨b, j, none⟩ := fun b j hb hne => World.frozen?_of_block (a := ⟨b, j, none⟩) (hblk b hb hne)
  refine ⟨(((H.alloc _).alloc _).drew.drew).turned ht hm, ?_, ⟨?_, fun j => ?_⟩, ?_, ?_, ?_⟩
  · obtain ⟨k0, k1, k2, k3, k4, k5, k6⟩ := evIn_new w e o.obj
    have hne : w.heap.size ≠ M := Nat.ne_of_gt hM
    exact ⟨(hc _ 0 (by omega) hne).trans k0, (hc _ 1 (by omega) hne).trans k1, (hc _ 2 (by omega) hne).trans k2, (hc _ 3 (by omega) hne).trans k3, (hc _ 4 (by omega) hne).trans k4, (hc _ 5 (by omega) hne).trans k5, (hc _ 6 (by omega) hne).trans k6⟩
  · have hne : w.heap.size + 1 ≠ M := by omega
    have k := opAt_new (w.alloc e.obj) o
    rw [show (w.alloc e.obj).heap.size = w.heap.size + 1 from by simp] at k
    obtain ⟨k0, k1, k2, k3, k4, k5, k6, k7⟩ := k
    exact ⟨(hc _ 0 (by omega) hne).trans k0, (hc _ 1 (by omega) hne).trans k1, (hc _ 2 (by omega) hne).trans k2, (hc _ 3 (by omega) hne).trans k3, (hc _ 4 (by omega) hne).trans k4, (hc _ 5 (by omega) hne).trans k5, (hc _ 6 (by omega) hne).trans k6, (hc _ 7 (by omega) hne).trans k7⟩
  · rw [hf _ j (by omega) (by omega)]
    have e1 : w.heap.size + 1 = (w.alloc e.obj).heap.size := by simp
    rw [e1]
    unfold Opn.obj
    simp
  · exact ((belA (belA (Below.refl _ _) _) _).drew.drew.mono (Nat.le_of_lt hM)).trans (below_turned ht (by simp; omega))
  · rw [hc B 9 (by omega) (Nat.ne_of_gt H.lt1), World.cell?_alloc_lt _ _ _ (by simp; omega), World.cell?_alloc_lt _ _ _ hB]; exact hv
  · intro g hg
    obtain ⟨v0, h1, _, h3⟩ := H.row
    obtain rfl := Option.some.inj (hv.symm.trans h1)
    exact (h3.lt g hg).2

set_option maxHeartbeats 2000000 in
theorem end_fail (e : Ev) (n : Int) (w : World) (B M base cnt : Nat) (s : Hs) (o : Opn) (H : HistAt w B M base cnt s) (h0 : 0 ≤ e.p) (h8 : e.p < 8) (hb : s.busy e.p = some o) (hsame : sameB o e = true) (ht2 : e.t ≠ 2) (ht4 : e.t ≠ 4) :
    Calls Tryd.prog 36 #[.pointer (some ⟨B, 0, none⟩), .int .i64 n, e.agg] w fun ev w' => ev = .returned (.int .i64 0) ∧ HistAt w' B M base cnt ⟨setO s.busy e.p none, s.lost, s.done⟩ ∧ Below M w w' := by
  have hB : B < w.heap.size := Nat.lt_of_lt_of_le H.lt2 H.lt3
  have hM : M < w.heap.size := Nat.lt_trans H.lt1 hB
  have hc := H.mapc
  obtain ⟨x, hr1, hx1⟩ := (H.map.alloc e.obj).drew.look e.p h0 h8
  have hx1 := hx1 o hb
  subst hx1
  obtain ⟨y, hr2, hx2⟩ := ((H.map.alloc e.obj).alloc zeroObj).drew.look e.p h0 h8
  have hx2 := hx2 x hb
  subst hx2
  rw [hb] at hr1 hr2
  simp only [Option.isSome_some] at hr1 hr2
  obtain ⟨v, hv, _, _⟩ := H.row
  obtain ⟨w2, hr3, hm3, ht3⟩ := (((H.map.alloc e.obj).alloc y.obj).drew.drew).drop e.p h0 h8 0
  have MID := hideIt (mid_of H hv ht3 hm3)
  clear hb hm3 ht3
  unfold Opn.agg Ev.obj at hr1
  unfold Opn.agg Ev.obj zeroObj at hr2
  unfold Opn.obj Ev.obj at hr3
  simp only [sameB, Bool.and_eq_true, beq_iff_eq] at hsame
  obtain ⟨⟨⟨a1, a2⟩, a3⟩, a4⟩ := hsame
  have a1' : (y.k != e.k) = false := by simp [a1]
  have a2' : (y.d != e.d) = false := by simp [a2]
  have a3' : (y.a != e.a) = false := by simp [a3]
  have a4' : (y.b != e.b) = false := by simp [a4]
  have t2 : (e.t == 2) = false := by simp [ht2]
  have t4 : (e.t == 4) = false := by simp [ht4]
  clear a1 a2 a3 a4 ht2 ht4 hv H
  unfold Ev.agg
  go_enter Tryd.func36, Tryd.ntmps36
  go_wp2_with fail
  go_region
  all_goals
    clear hr1 hr2
    go_upto_region 4 with fail
    obtain ⟨k0, k1, k2, k3, k4, k5, k6⟩ := MID.out.ev
    have kc := MID.out.hist.mapc
    go_region_held3 (fun w' => w'.cell? ⟨B, 0, none⟩ = some (.map (some M)) ∧ w'.cell? ⟨w.heap.size, 0, none⟩ = some (.int .i64 e.p)) (go_keep) (fail)
    go_wp2
    go_ret
    exact ⟨rfl, MID.out.hist, MID.out.bel⟩

end Go.Proofs.YtbmnehnmmlfhdaaDoor
