/-
  The walks of end: what took place, and what is not known.
-/
import Derived.Test.YtbmnehnmmlfhdaaDoorHistE
import Derived.Deep.RegionLaw
namespace Go.Proofs.YtbmnehnmmlfhdaaDoor
open Go.RowKit

/-- append in a region that draws, out of the equation of its run. -/
theorem step_append_run {P : Program} {ops : Array Oper} {o : Oper} {a : Act} {w : World} {K : Act → World → Prop} {Q : Exit → Act → World → Prop} {E : Prop} (hgd : o.guard = none) (s x : Operand) (t : TypeId)
    (ho : o.op = .call { callee := .builtin .append, args := #[s, x], argTypes := #[t, t] }) (v xv v' : Value) (w' : World) (hs : a.eval s = v) (hx : a.eval x = xv) (hr : (Builtin.append_ #[t, t] o.type #[v, xv]).run P w = .ok v' w')
    (hK : K (a.put o.dst v') w') : if Region.wanted o (yielded ops a.tmps) = true then Oper.wp P o a w K Q else E := by
  have hw : Region.wanted o (yielded ops a.tmps) = true := by simp [Region.wanted, hgd]
  rw [if_pos hw]
  unfold Oper.wp execOp
  simp only [ho, resolve, invoke, builtin, Sem.run_bind, Sem.run_pure, Result.andThen_ok, List.map_toArray, List.map_cons, List.map_nil, hs, hx, hr]
  exact hK

set_option maxHeartbeats 2000000 in
theorem end_done (e : Ev) (n : Int) (w : World) (B M base cnt : Nat) (s : Hs) (o : Opn) (H : HistAt w B M base cnt s) (hn : s.done.length ≤ 200) (h0 : 0 ≤ e.p) (h8 : e.p < 8) (hb : s.busy e.p = some o) (hsame : sameB o e = true) (ht2 : e.t = 2) :
    Calls Tryd.prog 36 #[.pointer (some ⟨B, 0, none⟩), .int .i64 n, e.agg] w fun ev w' => ev = .returned (.int .i64 0) ∧ HistAt w' B M base cnt ⟨setO s.busy e.p none, s.lost, s.done ++ [endO o e.r n]⟩ ∧ Below M w w' := by
  have hB : B < w.heap.size := Nat.lt_of_lt_of_le H.lt2 H.lt3
  have hM : M < w.heap.size := Nat.lt_trans H.lt1 hB
  have hl1 := H.lt1
  have hc := H.mapc
  obtain ⟨x, hr1, hx1⟩ := (H.map.alloc e.obj).drew.look e.p h0 h8
  have hx1 := hx1 o hb
  subst hx1
  obtain ⟨y, hr2, hx2⟩ := ((H.map.alloc e.obj).alloc zeroObj).drew.look e.p h0 h8
  have hx2 := hx2 x hb
  subst hx2
  rw [hb] at hr1 hr2
  simp only [Option.isSome_some] at hr1 hr2
  obtain ⟨v, hv, _, _⟩ := H.row
  obtain ⟨w2, hr3, hm3, ht3⟩ := (((H.map.alloc e.obj).alloc y.obj).drew.drew).drop e.p h0 h8 0
  have MID := hideIt (mid_of H hv ht3 hm3)
  clear hb hm3 ht3
  unfold Opn.agg Ev.obj at hr1
  unfold Opn.agg Ev.obj zeroObj at hr2
  unfold Opn.obj Ev.obj at hr3
  simp only [sameB, Bool.and_eq_true, beq_iff_eq] at hsame
  obtain ⟨⟨⟨a1, a2⟩, a3⟩, a4⟩ := hsame
  have a1' : (y.k != e.k) = false := by simp [a1]
  have a2' : (y.d != e.d) = false := by simp [a2]
  have a3' : (y.a != e.a) = false := by simp [a3]
  have a4' : (y.b != e.b) = false := by simp [a4]
  have t2 : (e.t == 2) = true := by simp [ht2]
  have PRE := hideIt (pre_of MID.out hB e.r n)
  have hw2 : w.heap.size + 1 < w2.heap.size := MID.out.op.1.lt
  obtain ⟨g9, cap9, w4, hr8, q9, qf, ⟨q0, q1, q2, q3, q4, q5, q6, q7⟩, hh, hbb⟩ := pre_append PRE.out hB (by simpa using hw2) hn 23
  have R1 := hideIt hh
  have R2 := hideIt hbb
  obtain ⟨⟨s0, s1, s2, s3, s4, s5, s6, s7⟩, sf⟩ := MID.out.op
  have f5 := sf 5
  have f7 := sf 7
  have hw9 := PRE.out.row
  obtain ⟨u0, u1, u2, u3, u4, u5, u6, u7⟩ := PRE.out.op
  unfold endO at hr8 u0 u1 u2 u3 u4 u5 u6 u7
  have e9 : ((w2.setCell ⟨w.heap.size + 1, 5, none⟩ (.int .i64 e.r)).setCell ⟨w.heap.size + 1, 7, none⟩ (.int .i64 n)).heap.size = w2.heap.size := by simp
  rw [e9] at hr8
  have hBw2 : B < w2.heap.size := by omega
  have hB1 : w.heap.size + 1 ≠ B := by omega
  have hB2 : B ≠ w.heap.size + 1 := by omega
  have hB3 : B ≠ w2.heap.size := by omega
  have row2 := MID.out.row
  clear ht2 hh hbb sf e9
  clear a1 a2 a3 a4 hv H
  unfold Ev.agg
  go_enter Tryd.func36, Tryd.ntmps36
  go_wp2_with fail
  go_region
  all_goals
    clear hr1 hr2
    go_upto_region 4 with fail
    obtain ⟨k0, k1, k2, k3, k4, k5, k6⟩ := MID.out.ev
    have kc := MID.out.hist.mapc
    go_region_held3 (fun w' => w'.cell? ⟨B, 0, none⟩ = some (.map (some M)) ∧ w'.cell? ⟨w.heap.size, 0, none⟩ = some (.int .i64 e.p)) (go_keep) (fail)
    go_upto_region 8 with fail
    have HR := hideIt hr8
    clear hr8
    go_region_law (refine step_append_run (by rfl) _ _ 47 (by rfl) v _ _ w4 (by rfl) (by rfl) HR.out ?_)
    all_goals
      go_wp2
      go_ret
      exact ⟨rfl, R1.out, R2.out⟩

end Go.Proofs.YtbmnehnmmlfhdaaDoor
