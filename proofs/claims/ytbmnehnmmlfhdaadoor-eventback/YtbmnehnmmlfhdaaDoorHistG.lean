/-
  The walk of end: what is not known.
-/
import Derived.Test.YtbmnehnmmlfhdaaDoorHistF
namespace Go.Proofs.YtbmnehnmmlfhdaaDoor
open Go.RowKit

set_option maxHeartbeats 2000000 in
theorem end_info (e : Ev) (n : Int) (w : World) (B M base cnt : Nat) (s : Hs) (o : Opn) (H : HistAt w B M base cnt s) (hn : s.done.length ≤ 200) (h0 : 0 ≤ e.p) (h8 : e.p < 8) (hb : s.busy e.p = some o) (hsame : sameB o e = true) (ht4 : e.t = 4) :
    Calls Tryd.prog 36 #[.pointer (some ⟨B, 0, none⟩), .int .i64 n, e.agg] w fun ev w' => ev = .returned (.int .i64 0) ∧ HistAt w' B M base cnt ⟨setO s.busy e.p none, setB s.lost e.p true, s.done ++ [o]⟩ ∧ Below M w w' := by
  have hB : B < w.heap.size := Nat.lt_of_lt_of_le H.lt2 H.lt3
  have hM : M < w.heap.size := Nat.lt_trans H.lt1 hB
  have hl1 := H.lt1
  have hc := H.mapc
  obtain ⟨x, hr1, hx1⟩ := (H.map.alloc e.obj).drew.look e.p h0 h8
  have hx1 := hx1 o hb
  subst hx1
  obtain ⟨y, hr2, hx2⟩ := ((H.map.alloc e.obj).alloc zeroObj).drew.look e.p h0 h8
  have hx2 := hx2 x hb
  subst hx2
  rw [hb] at hr1 hr2
  simp only [Option.isSome_some] at hr1 hr2
  obtain ⟨v, hv, _, _⟩ := H.row
  obtain ⟨w2, hr3, hm3, ht3⟩ := (((H.map.alloc e.obj).alloc y.obj).drew.drew).drop e.p h0 h8 0
  have MID := hideIt (mid_of H hv ht3 hm3)
  clear hb hm3 ht3
  unfold Opn.agg Ev.obj at hr1
  unfold Opn.agg Ev.obj zeroObj at hr2
  unfold Opn.obj Ev.obj at hr3
  simp only [sameB, Bool.and_eq_true, beq_iff_eq] at hsame
  obtain ⟨⟨⟨a1, a2⟩, a3⟩, a4⟩ := hsame
  have a1' : (y.k != e.k) = false := by simp [a1]
  have a2' : (y.d != e.d) = false := by simp [a2]
  have a3' : (y.a != e.a) = false := by simp [a3]
  have a4' : (y.b != e.b) = false := by simp [a4]
  have t2 : (e.t == 2) = false := by simp [ht4]
  have t4 : (e.t == 4) = true := by simp [ht4]
  have PRE := hideIt (pre_lost MID.out hB h0 h8)
  have hw2 : w.heap.size + 1 < w2.heap.size := MID.out.op.1.lt
  obtain ⟨g9, cap9, w4, hr8, q9, qf, ⟨q0, q1, q2, q3, q4, q5, q6, q7⟩, hh, hbb⟩ := pre_append PRE.out hB (by simpa using hw2) hn 23
  have R1 := hideIt hh
  have R2 := hideIt hbb
  obtain ⟨⟨s0, s1, s2, s3, s4, s5, s6, s7⟩, sf⟩ := MID.out.op
  obtain ⟨lc, lf⟩ := MID.out.hist.lost e.p h0 h8
  have e9 : ((w2.setCell ⟨B, 1 + e.p.toNat, none⟩ (.bool true)).drew).heap.size = w2.heap.size := by simp
  rw [e9] at hr8
  have HR : Hid ((Builtin.append_ #[47, 47] 47 #[v, .slice (some ⟨w2.heap.size, 0, none⟩) 1 1]).run Tryd.prog ((w2.setCell ⟨B, 1 + e.p.toNat, none⟩ (.bool true)).alloc (.cells #[.int .i64 y.p, .int .i64 y.k, .int .i64 y.d, .int .i64 y.a, .int .i64 y.b, .int .i64 y.r, .int .i64 y.c, .int .i64 y.e] 51)).drew.drew = .ok (.slice (some ⟨g9, 0, none⟩) (s.done.length + 1) cap9) w4) := hr8
  have hBw2 : B < w2.heap.size := by omega
  have hB1 : w.heap.size + 1 ≠ B := by omega
  have hB2 : B ≠ w.heap.size + 1 := by omega
  have hB3 : B ≠ w2.heap.size := by omega
  have hp9 : 1 + e.p.toNat ≠ 9 := by omega
  have hp9' : 9 ≠ 1 + e.p.toNat := by omega
  have row2 := MID.out.row
  have row3 : (w2.setCell ⟨B, 1 + e.p.toNat, none⟩ (.bool true)).cell? ⟨B, 9, none⟩ = some v := PRE.out.row
  clear ht4 hh hbb sf e9 hr8
  clear a1 a2 a3 a4 hv H
  unfold Ev.agg
  go_enter Tryd.func36, Tryd.ntmps36
  go_wp2_with fail
  go_region
  all_goals
    clear hr1 hr2
    go_upto_region 4 with fail
    obtain ⟨k0, k1, k2, k3, k4, k5, k6⟩ := MID.out.ev
    have kc := MID.out.hist.mapc
    go_region_held3 (fun w' => w'.cell? ⟨B, 0, none⟩ = some (.map (some M)) ∧ w'.cell? ⟨w.heap.size, 0, none⟩ = some (.int .i64 e.p)) (go_keep) (fail)
    go_upto_region 10 with fail
    go_region
    all_goals
      go_upto_region 11 with fail
      go_region_law (refine step_append_run (by rfl) _ _ 47 (by rfl) v _ _ w4 (by rfl) (by rfl) HR.out ?_)
      all_goals
        go_wp2
        go_ret
        exact ⟨rfl, R1.out, R2.out⟩

end Go.Proofs.YtbmnehnmmlfhdaaDoor
