/-
  What end of a history does with what took place, and with what is not known.
  The walks of end: what took place, and what is not known.
  The walk of end: what is not known.
  What the functions that judge one event do: contracts over the translated program.
  What see of a history does: as the plain history.
  The sort of the library laid at this program: numbers of its functions and types, and a fact a field.
  What the sort of the library does with ops, by their calls.
  The sort of a row of ops, as lists.
  The sort of nothing.
-/
import Derived.Test.YtjpklmighoondaaGreatDoorMemY
import Derived.Deep.RegionLaw
import Derived.Test.YtjpklmighoondaaGreatDoorFieldsQY
import Derived.Shelf.SlSortCmp.WholeK
import Derived.Shelf.SlGeneric
import Derived.Ground.SlsfProg
import Derived.Test.YtjpklmighoondaaGreatDoorProg
import Derived.Laws.OwnMore
namespace Go.Proofs.YtjpklmighoondaaGreatDoor
open Go.RowKit
theorem HistAt.setFar {w:World} {B M base cnt b j:Nat} {s:Hs} {v:Value} (h:HistAt w B M base cnt s) (hv:w.cell? ⟨B,9,none⟩=some v) (hbB:B≠b) (hbM:M≠b) (hbv:v.ownBlock≠some b) (u:Value):HistAt (w.setCell ⟨b,j,none⟩ u) B M base cnt s:=by
 obtain⟨v0,h1,h2,h3⟩:=h.row;obtain rfl:=Option.some.inj (hv.symm.trans h1);have hc:∀i,(w.setCell ⟨b,j,none⟩ u).cell? ⟨B,i,none⟩=w.cell? ⟨B,i,none⟩:=fun i=>World.cell?_setCell_other (h:=fun k=>hbB (congrArg Addr.block k).symm) ..
 have hf:∀a,(w.setCell ⟨b,j,none⟩ u).frozen? a=w.frozen? a:=fun a=>by simp
 exact⟨by rw[hc];exact h.mapc,fun p p0 p8=>by rw[hc,hf];exact h.lost p p0 p8,⟨v,by rw[hc];exact h1,by rw[hf];exact h2,ownsRow_setCell_other h3 hbv u⟩,h.map.setCell hbM u,h.lt1,h.lt2,by simpa using h.lt3⟩
structure Pre (w0 : World) (x : Opn) (v : Value) (B M base cnt : Nat) (s : Hs) (w : World) : Prop where
 hist:HistAt w B M base cnt s
 op:OpAt w (w0.heap.size+1) 0 x
 bel:Below M w0 w
 row:w.cell? ⟨B,9,none⟩=some v
 own:∀g,v.ownBlock=some g→g < w0.heap.size
theorem pre_of {w0 w:World} {e:Ev} {o:Opn} {v:Value} {B M base cnt:Nat} {s:Hs} (h:Mid w0 e o v B M base cnt s w) (hB:B < w0.heap.size) (r n:Int):
  Pre w0 (endO o r n) v B M base cnt s ((w.setCell ⟨w0.heap.size+1,5,none⟩ (.int .i64 r)).setCell ⟨w0.heap.size+1,7,none⟩ (.int .i64 n)):=by
 have hM:M < w0.heap.size:=Nat.lt_trans h.hist.lt1 hB;have hv1:v.ownBlock≠some (w0.heap.size+1):=fun k=>by have:=h.own _ k;omega
 have row1:(w.setCell ⟨w0.heap.size+1,5,none⟩ (.int .i64 r)).cell? ⟨B,9,none⟩=some v:=by
  rw[World.cell?_setCell_other (h:=fun k=>by have:=congrArg Addr.block k;simp at this;omega)];exact h.row
 obtain⟨⟨k0,k1,k2,k3,k4,k5,k6,k7⟩,hfz⟩:=h.op;have hoth:∀(W:World) (i j:Nat) (u:Value),i≠j→(W.setCell ⟨w0.heap.size+1,i,none⟩ u).cell? ⟨w0.heap.size+1,j,none⟩=W.cell? ⟨w0.heap.size+1,j,none⟩:=fun W i j u hij=>World.cell?_setCell_other (h:=fun k=>hij (congrArg Addr.off k)) ..
 refine⟨(h.hist.setFar h.row (by omega) (by omega) hv1 _).setFar row1 (by omega) (by omega) hv1 _,⟨?_,?_,?_,?_,?_,?_,?_,?_⟩,(h.bel.setCell (by show M≤w0.heap.size+1;omega) _).setCell (by show M≤w0.heap.size+1;omega) _,?_,h.own⟩
 ·rw[hoth _ _ _ _ (by decide),hoth _ _ _ _ (by decide)];exact k0
 ·rw[hoth _ _ _ _ (by decide),hoth _ _ _ _ (by decide)];exact k1
 ·rw[hoth _ _ _ _ (by decide),hoth _ _ _ _ (by decide)];exact k2
 ·rw[hoth _ _ _ _ (by decide),hoth _ _ _ _ (by decide)];exact k3
 ·rw[hoth _ _ _ _ (by decide),hoth _ _ _ _ (by decide)];exact k4
 ·rw[hoth _ _ _ _ (by decide)];exact World.cell?_setCell_same (h:=k5) ..
 ·rw[hoth _ _ _ _ (by decide),hoth _ _ _ _ (by decide)];exact k6
 ·exact World.cell?_setCell_same (h:=(hoth _ _ _ _ (by decide)).trans k7) ..
 ·rw[World.cell?_setCell_other (h:=fun k=>by have:=congrArg Addr.block k;simp at this;omega)];exact row1
theorem pre_lost {w0 w:World} {e:Ev} {o:Opn} {v:Value} {B M base cnt:Nat} {s:Hs} (h:Mid w0 e o v B M base cnt s w) (hB:B < w0.heap.size) (h0:0≤e.p) (h8:e.p < 8):
  Pre w0 o v B M base cnt ⟨s.busy,setB s.lost e.p true,s.done⟩ ((w.setCell ⟨B,1+e.p.toNat,none⟩ (.bool true)).drew):=by
 have hM:M < w0.heap.size:=Nat.lt_trans h.hist.lt1 hB;have hl:=h.hist.lt1;obtain⟨⟨k0,k1,k2,k3,k4,k5,k6,k7⟩,hfz⟩:=h.op;have hoth:∀j,(w.setCell ⟨B,1+e.p.toNat,none⟩ (.bool true)).cell? ⟨w0.heap.size+1,j,none⟩=w.cell? ⟨w0.heap.size+1,j,none⟩:=fun j=>World.cell?_setCell_other (h:=fun k=>by have:=congrArg Addr.block k;simp at this;omega) ..
 refine⟨(hist_setLost h.hist e.p h0 h8).drew,⟨(hoth 0).trans k0,(hoth 1).trans k1,(hoth 2).trans k2,(hoth 3).trans k3,(hoth 4).trans k4,(hoth 5).trans k5,(hoth 6).trans k6,(hoth 7).trans k7⟩,(h.bel.setCell (by show M≤B;omega) _).drew,?_,h.own⟩;show (w.setCell ⟨B,1+e.p.toNat,none⟩ (.bool true)).cell? ⟨B,9,none⟩=some v;rw[World.cell?_setCell_other (h:=fun k=>by have:=congrArg Addr.off k;simp at this;omega)];exact h.row
theorem pre_append {w0 w:World} {x:Opn} {v:Value} {B M base cnt:Nat} {s:Hs} (h:Pre w0 x v B M base cnt s w) (hB:B < w0.heap.size) (hw:w0.heap.size+1 < w.heap.size) (hn:s.done.length≤200) (ty:TypeId):
  ∃g cap w4,(Builtin.append_ #[46,46] ty #[v,.slice (some ⟨w.heap.size,0,none⟩) 1 1]).run Tryz.prog (w.alloc (.cells #[.int .i64 x.p,.int .i64 x.k,.int .i64 x.d,.int .i64 x.a,.int .i64 x.b,.int .i64 x.r,.int .i64 x.c,.int .i64 x.e] 157)).drew=.ok (.slice (some ⟨g,0,none⟩) (s.done.length+1) cap) w4∧
   w4.cell? ⟨B,9,none⟩=some v∧w4.frozen? ⟨B,9,none⟩=false∧OpAt w4 (w0.heap.size+1) 0 x∧
   HistAt (w4.setCell ⟨B,9,none⟩ (.slice (some ⟨g,0,none⟩) (s.done.length+1) cap)) B M base cnt ⟨s.busy,s.lost,s.done++ [x]⟩∧Below M w0 (w4.setCell ⟨B,9,none⟩ (.slice (some ⟨g,0,none⟩) (s.done.length+1) cap)):=by
 obtain⟨g,cap,w4,hr,hcf,hh,hb⟩:=hist_append h.hist h.row hn x ty;have hBw:B < w.heap.size:=by omega
 have hBne:v.ownBlock≠some B:=fun k=>by
  obtain⟨v0,h1,_,h3⟩:=h.hist.row;obtain rfl:=Option.some.inj (h.row.symm.trans h1);have:=(h3.lt B k).1;have:=h.hist.lt2;omega
 have hone:v.ownBlock≠some (w0.heap.size+1):=fun k=>by have:=h.own _ k;omega
 obtain⟨v0,h1,h2,_⟩:=h.hist.row;refine⟨g,cap,w4,hr,?_,?_,?_,hh,h.bel.trans hb⟩
 ·rw[(hcf B 9 (by omega) hBne).1,World.cell?_alloc_lt _ _ _ hBw];exact h.row
 ·rw[(hcf B 9 (by omega) hBne).2,World.frozen?_alloc_old _ _ _ (Nat.ne_of_lt hBw)];exact h2
 ·have k:∀j,w4.cell? ⟨w0.heap.size+1,j,none⟩=w.cell? ⟨w0.heap.size+1,j,none⟩:=fun j=>by
   rw[(hcf (w0.heap.size+1) j (by omega) hone).1,World.cell?_alloc_lt _ _ _ hw]
  obtain⟨k0,k1,k2,k3,k4,k5,k6,k7⟩:=h.op;exact⟨(k 0).trans k0,(k 1).trans k1,(k 2).trans k2,(k 3).trans k3,(k 4).trans k4,(k 5).trans k5,(k 6).trans k6,(k 7).trans k7⟩
open Go.RowKit
theorem step_append_runEv {P:Program} {ops:Array Oper} {o:Oper} {a:Act} {w:World} {K:Act→World→Prop} {Q:Exit→Act→World→Prop} {E:Prop} (hgd:o.guard=none) (s x:Operand) (t:TypeId)
  (ho:o.op=.call {callee:=.builtin .append,args:=#[s,x],argTypes:=#[t,t]}) (v xv v':Value) (w':World) (hs:a.eval s=v) (hx:a.eval x=xv) (hr:(Builtin.append_ #[t,t] o.type #[v,xv]).run P w=.ok v' w')
  (hK:K (a.put o.dst v') w'):if Region.wanted o (yielded ops a.tmps)=true then Oper.wp P o a w K Q else E:=by
 have hw:Region.wanted o (yielded ops a.tmps)=true:=by simp[Region.wanted,hgd]
 rw[if_pos hw];unfold Oper.wp execOp;simp only[ho,resolve,invoke,builtin,Sem.run_bind,Sem.run_pure,Result.andThen_ok,List.map_toArray,List.map_cons,List.map_nil,hs,hx,hr];exact hK
set_option maxHeartbeats 2000000 in
theorem end_done (e:Ev) (n:Int) (w:World) (B M base cnt:Nat) (s:Hs) (o:Opn) (H:HistAt w B M base cnt s) (hn:s.done.length≤200) (h0:0≤e.p) (h8:e.p < 8) (hb:s.busy e.p=some o) (hsame:sameB o e=true) (ht2:e.t=2):
  Calls Tryz.prog 74 #[.pointer (some ⟨B,0,none⟩),.int .i64 n,e.agg] w fun ev w'=>ev=.returned (.int .i64 0)∧HistAt w' B M base cnt ⟨setO s.busy e.p none,s.lost,s.done++ [endO o e.r n]⟩∧Below M w w':=by
 have hB:B < w.heap.size:=Nat.lt_of_lt_of_le H.lt2 H.lt3;have hM:M < w.heap.size:=Nat.lt_trans H.lt1 hB;have hl1:=H.lt1;have hc:=H.mapc;obtain⟨x,hr1,hx1⟩:=(H.map.alloc e.obj).drew.look e.p h0 h8;have hx1:=hx1 o hb;subst hx1;obtain⟨y,hr2,hx2⟩:=((H.map.alloc e.obj).alloc zeroObj).drew.look e.p h0 h8;have hx2:=hx2 x hb;subst hx2;rw[hb] at hr1 hr2;simp only[Option.isSome_some] at hr1 hr2;obtain⟨v,hv,_,_⟩:=H.row;obtain⟨w2,hr3,hm3,ht3⟩:=(((H.map.alloc e.obj).alloc y.obj).drew.drew).drop e.p h0 h8 0;have MID:=hideIt (mid_of H hv ht3 hm3);clear hb hm3 ht3;unfold Opn.agg Ev.obj at hr1;unfold Opn.agg Ev.obj zeroObj at hr2;unfold Opn.obj Ev.obj at hr3;simp only[sameB,Bool.and_eq_true,beq_iff_eq] at hsame;obtain⟨⟨⟨a1,a2⟩,a3⟩,a4⟩:=hsame;have a1':(y.k != e.k)=false:=by simp[a1]
 have a2':(y.d != e.d)=false:=by simp[a2]
 have a3':(y.a != e.a)=false:=by simp[a3]
 have a4':(y.b != e.b)=false:=by simp[a4]
 have t2:(e.t==2)=true:=by simp[ht2]
 have PRE:=hideIt (pre_of MID.out hB e.r n);have hw2:w.heap.size+1 < w2.heap.size:=MID.out.op.1.lt;obtain⟨g9,cap9,w4,hr8,q9,qf,⟨q0,q1,q2,q3,q4,q5,q6,q7⟩,hh,hbb⟩:=pre_append PRE.out hB (by simpa using hw2) hn 23;have R1:=hideIt hh;have R2:=hideIt hbb;obtain⟨⟨s0,s1,s2,s3,s4,s5,s6,s7⟩,sf⟩:=MID.out.op;have f5:=sf 5;have f7:=sf 7;have hw9:=PRE.out.row;obtain⟨u0,u1,u2,u3,u4,u5,u6,u7⟩:=PRE.out.op;unfold endO at hr8 u0 u1 u2 u3 u4 u5 u6 u7;have e9:((w2.setCell ⟨w.heap.size+1,5,none⟩ (.int .i64 e.r)).setCell ⟨w.heap.size+1,7,none⟩ (.int .i64 n)).heap.size=w2.heap.size:=by simp
 rw[e9] at hr8;have hBw2:B < w2.heap.size:=by omega
 have hB1:w.heap.size+1≠B:=by omega
 have hB2:B≠w.heap.size+1:=by omega
 have hB3:B≠w2.heap.size:=by omega
 have row2:=MID.out.row;clear ht2 hh hbb sf e9;clear a1 a2 a3 a4 hv H;unfold Ev.agg;go_enter Tryz.func74,Tryz.ntmps74
 go_wp2_with fail
 go_region
 all_goals
  clear hr1 hr2;go_upto_region 4 with fail
  obtain⟨k0,k1,k2,k3,k4,k5,k6⟩:=MID.out.ev;have kc:=MID.out.hist.mapc
  go_region_held3 (fun w'=>w'.cell? ⟨B,0,none⟩=some (.map (some M))∧w'.cell? ⟨w.heap.size,0,none⟩=some (.int .i64 e.p)) (go_keep) (fail)
  go_upto_region 8 with fail
  have HR:=hideIt hr8;clear hr8
  go_region_law (refine step_append_runEv (by rfl) _ _ 46 (by rfl) v _ _ w4 (by rfl) (by rfl) HR.out ?_)
  all_goals
   go_wp2;go_ret;exact⟨rfl,R1.out,R2.out⟩
open Go.RowKit
set_option maxHeartbeats 2000000 in
theorem end_info (e:Ev) (n:Int) (w:World) (B M base cnt:Nat) (s:Hs) (o:Opn) (H:HistAt w B M base cnt s) (hn:s.done.length≤200) (h0:0≤e.p) (h8:e.p < 8) (hb:s.busy e.p=some o) (hsame:sameB o e=true) (ht4:e.t=4):
  Calls Tryz.prog 74 #[.pointer (some ⟨B,0,none⟩),.int .i64 n,e.agg] w fun ev w'=>ev=.returned (.int .i64 0)∧HistAt w' B M base cnt ⟨setO s.busy e.p none,setB s.lost e.p true,s.done++ [o]⟩∧Below M w w':=by
 have hB:B < w.heap.size:=Nat.lt_of_lt_of_le H.lt2 H.lt3;have hM:M < w.heap.size:=Nat.lt_trans H.lt1 hB;have hl1:=H.lt1;have hc:=H.mapc;obtain⟨x,hr1,hx1⟩:=(H.map.alloc e.obj).drew.look e.p h0 h8;have hx1:=hx1 o hb;subst hx1;obtain⟨y,hr2,hx2⟩:=((H.map.alloc e.obj).alloc zeroObj).drew.look e.p h0 h8;have hx2:=hx2 x hb;subst hx2;rw[hb] at hr1 hr2;simp only[Option.isSome_some] at hr1 hr2;obtain⟨v,hv,_,_⟩:=H.row;obtain⟨w2,hr3,hm3,ht3⟩:=(((H.map.alloc e.obj).alloc y.obj).drew.drew).drop e.p h0 h8 0;have MID:=hideIt (mid_of H hv ht3 hm3);clear hb hm3 ht3;unfold Opn.agg Ev.obj at hr1;unfold Opn.agg Ev.obj zeroObj at hr2;unfold Opn.obj Ev.obj at hr3;simp only[sameB,Bool.and_eq_true,beq_iff_eq] at hsame;obtain⟨⟨⟨a1,a2⟩,a3⟩,a4⟩:=hsame;have a1':(y.k != e.k)=false:=by simp[a1]
 have a2':(y.d != e.d)=false:=by simp[a2]
 have a3':(y.a != e.a)=false:=by simp[a3]
 have a4':(y.b != e.b)=false:=by simp[a4]
 have t2:(e.t==2)=false:=by simp[ht4]
 have t4:(e.t==4)=true:=by simp[ht4]
 have PRE:=hideIt (pre_lost MID.out hB h0 h8);have hw2:w.heap.size+1 < w2.heap.size:=MID.out.op.1.lt;obtain⟨g9,cap9,w4,hr8,q9,qf,⟨q0,q1,q2,q3,q4,q5,q6,q7⟩,hh,hbb⟩:=pre_append PRE.out hB (by simpa using hw2) hn 23;have R1:=hideIt hh;have R2:=hideIt hbb;obtain⟨⟨s0,s1,s2,s3,s4,s5,s6,s7⟩,sf⟩:=MID.out.op;obtain⟨lc,lf⟩:=MID.out.hist.lost e.p h0 h8;have e9:((w2.setCell ⟨B,1+e.p.toNat,none⟩ (.bool true)).drew).heap.size=w2.heap.size:=by simp
 rw[e9] at hr8;have HR:Hid ((Builtin.append_ #[46,46] 46 #[v,.slice (some ⟨w2.heap.size,0,none⟩) 1 1]).run Tryz.prog ((w2.setCell ⟨B,1+e.p.toNat,none⟩ (.bool true)).alloc (.cells #[.int .i64 y.p,.int .i64 y.k,.int .i64 y.d,.int .i64 y.a,.int .i64 y.b,.int .i64 y.r,.int .i64 y.c,.int .i64 y.e] 157)).drew.drew=.ok (.slice (some ⟨g9,0,none⟩) (s.done.length+1) cap9) w4):=hr8;have hBw2:B < w2.heap.size:=by omega
 have hB1:w.heap.size+1≠B:=by omega
 have hB2:B≠w.heap.size+1:=by omega
 have hB3:B≠w2.heap.size:=by omega
 have hp9:1+e.p.toNat≠9:=by omega
 have hp9':9≠1+e.p.toNat:=by omega
 have row2:=MID.out.row;have row3:(w2.setCell ⟨B,1+e.p.toNat,none⟩ (.bool true)).cell? ⟨B,9,none⟩=some v:=PRE.out.row;clear ht4 hh hbb sf e9 hr8;clear a1 a2 a3 a4 hv H;unfold Ev.agg;go_enter Tryz.func74,Tryz.ntmps74
 go_wp2_with fail
 go_region
 all_goals
  clear hr1 hr2;go_upto_region 4 with fail
  obtain⟨k0,k1,k2,k3,k4,k5,k6⟩:=MID.out.ev;have kc:=MID.out.hist.mapc
  go_region_held3 (fun w'=>w'.cell? ⟨B,0,none⟩=some (.map (some M))∧w'.cell? ⟨w.heap.size,0,none⟩=some (.int .i64 e.p)) (go_keep) (fail)
  go_upto_region 10 with fail
  go_region
  all_goals
   go_upto_region 11 with fail
   go_region_law (refine step_append_runEv (by rfl) _ _ 46 (by rfl) v _ _ w4 (by rfl) (by rfl) HR.out ?_)
   all_goals
    go_wp2;go_ret;exact⟨rfl,R1.out,R2.out⟩
open Go.RowKit
set_option maxHeartbeats 1000000 in
theorem fault_any (p t k d a b r:Int) (w:World):
  Calls Tryz.prog 59 #[.agg #[.int .i64 p,.int .i64 t,.int .i64 k,.int .i64 d,.int .i64 a,.int .i64 b,.int .i64 r]] w fun e w'=>e=.returned (.int .i64 (faultN p t k d a b r))∧w'=w.alloc (.cells #[.int .i64 p,.int .i64 t,.int .i64 k,.int .i64 d,.int .i64 a,.int .i64 b,.int .i64 r] 54):=by
 cases hin:inB p k a b r
 ·have e:faultN p t k d a b r=2:=by simp[faultN,hin]
  rw[e];clear e;go_enter Tryz.func59,Tryz.ntmps59
  go_wp2_with (go_at_call 119;refine(inBounds_any _ _ _ _ _ _).mono ?_;rintro e w' ⟨rfl,rfl⟩)
  go_ret;exact⟨rfl,rfl⟩
 ·by_cases h1:1≤t
  ·by_cases h2:t≤4
   ·cases hk:kindB d
    ·have e:faultN p t k d a b r=1:=by simp[faultN,hin,hk]
     rw[e];clear e;go_enter Tryz.func59,Tryz.ntmps59
     go_wp2_with (first | (go_at_call 119;refine(inBounds_any _ _ _ _ _ _).mono ?_;rintro e w' ⟨rfl,rfl⟩) | (go_at_call 120;refine(isKind_any _ _).mono ?_;rintro e w' ⟨rfl,rfl⟩))
     go_ret;exact⟨rfl,rfl⟩
    ·by_cases h3:r=0
     ·have e:faultN p t k d a b r=0:=by unfold faultN;rw[hin,hk];simp[h1,h2,h3]
      rw[e];clear e;have h3':(r != 0)=false:=by simp[h3]
      clear h3;go_enter Tryz.func59,Tryz.ntmps59
      go_wp2_with (first | (go_at_call 119;refine(inBounds_any _ _ _ _ _ _).mono ?_;rintro e w' ⟨rfl,rfl⟩) | (go_at_call 120;refine(isKind_any _ _).mono ?_;rintro e w' ⟨rfl,rfl⟩))
      go_ret;exact⟨rfl,rfl⟩
     ·have h3':(r != 0)=true:=by simp[h3]
      by_cases h4:t=2
      ·have e:faultN p t k d a b r=0:=by simp[faultN,hin,hk,h4]
       rw[e];clear e;have h4':(t != 2)=false:=by simp[h4]
       clear h3 h4;go_enter Tryz.func59,Tryz.ntmps59
       go_wp2_with (first | (go_at_call 119;refine(inBounds_any _ _ _ _ _ _).mono ?_;rintro e w' ⟨rfl,rfl⟩) | (go_at_call 120;refine(isKind_any _ _).mono ?_;rintro e w' ⟨rfl,rfl⟩))
       go_ret;exact⟨rfl,rfl⟩
      ·have e:faultN p t k d a b r=1:=by simp[faultN,hin,hk,h1,h2,h3,h4]
       rw[e];clear e;have h4':(t != 2)=true:=by simp[h4]
       clear h3 h4;go_enter Tryz.func59,Tryz.ntmps59
       go_wp2_with (first | (go_at_call 119;refine(inBounds_any _ _ _ _ _ _).mono ?_;rintro e w' ⟨rfl,rfl⟩) | (go_at_call 120;refine(isKind_any _ _).mono ?_;rintro e w' ⟨rfl,rfl⟩))
       go_ret;exact⟨rfl,rfl⟩
   ·have e:faultN p t k d a b r=1:=by simp[faultN,hin,h2]
    rw[e];clear e;go_enter Tryz.func59,Tryz.ntmps59
    go_wp2_with (first | (go_at_call 119;refine(inBounds_any _ _ _ _ _ _).mono ?_;rintro e w' ⟨rfl,rfl⟩) | (go_at_call 120;refine(isKind_any _ _).mono ?_;rintro e w' ⟨rfl,rfl⟩))
    go_ret;exact⟨rfl,rfl⟩
  ·have e:faultN p t k d a b r=1:=by simp[faultN,hin,h1]
   rw[e];clear e;go_enter Tryz.func59,Tryz.ntmps59
   go_wp2_with (first | (go_at_call 119;refine(inBounds_any _ _ _ _ _ _).mono ?_;rintro e w' ⟨rfl,rfl⟩) | (go_at_call 120;refine(isKind_any _ _).mono ?_;rintro e w' ⟨rfl,rfl⟩))
   go_ret;exact⟨rfl,rfl⟩
open Go.RowKit
theorem HistAt.mono {w:World} {B M base cnt cnt':Nat} {s:Hs} (h:HistAt w B M base cnt s) (hc:cnt≤cnt'):HistAt w B M base cnt' s:=by
 obtain⟨D,h1,h2⟩:=h.map;exact⟨h.mapc,h.lost,h.row,⟨D,h1.mono hc,h2⟩,h.lt1,h.lt2,h.lt3⟩
theorem eight_of {e:Ev} (h:e.fault=0):0≤e.p∧e.p < 8:=by
 have:=(fault_parts h).1;simp[inB,eightB] at this;omega
theorem begin_any (e:Ev) (n:Int) (w:World) (B M base cnt:Nat) (s:Hs) (H:HistAt w B M base cnt s) (hcn:cnt < 1000) (hf:e.fault=0) (ht:e.t=1):
  Calls Tryz.prog 73 #[.pointer (some ⟨B,0,none⟩),.int .i64 n,e.agg] w fun ev w'=>ev=.returned (.int .i64 (seeN e s))∧(seeN e s=0→HistAt w' B M base (cnt+1) (seeS n e s))∧Below M w w':=by
 obtain⟨h0,h8⟩:=eight_of hf;have en:seeN e s=if (s.busy e.p).isSome||s.lost e.p then 6 else 0:=by unfold seeN;rw[if_neg (by simpa using hf),if_pos ht]
 have es:seeS n e s=⟨setO s.busy e.p (some (e.op n)),s.lost,s.done⟩:=by unfold seeS;rw[if_pos ht]
 rw[en,es];cases hb:s.busy e.p with
 | some o=>
  refine(begin_busy e n w B M base cnt s o H h0 h8 hb).mono ?_;rintro ev w' ⟨rfl,_,hbel⟩;exact⟨by simp,fun h=>by simp at h,hbel⟩
 | none=>
  cases hl:s.lost e.p
  ·refine(begin_new e n w B M base cnt s H hcn h0 h8 hb hl).mono ?_;rintro ev w' ⟨rfl,hh,hbel⟩;exact⟨by simp,fun _=>hh,hbel⟩
  ·refine(begin_lost e n w B M base cnt s H h0 h8 hb hl).mono ?_;rintro ev w' ⟨rfl,_,hbel⟩;exact⟨by simp,fun h=>by simp at h,hbel⟩
theorem end_any (e:Ev) (n:Int) (w:World) (B M base cnt:Nat) (s:Hs) (H:HistAt w B M base cnt s) (hn:s.done.length≤200) (hf:e.fault=0) (ht:e.t≠1):
  Calls Tryz.prog 74 #[.pointer (some ⟨B,0,none⟩),.int .i64 n,e.agg] w fun ev w'=>ev=.returned (.int .i64 (seeN e s))∧(seeN e s=0→HistAt w' B M base (cnt+1) (seeS n e s))∧Below M w w':=by
 obtain⟨h0,h8⟩:=eight_of hf;unfold seeN seeS;rw[if_neg (by simpa using hf),if_neg ht,if_neg ht];cases hb:s.busy e.p with
 | none=>
  refine(end_none e n w B M base cnt s H h0 h8 hb).mono ?_;rintro ev w' ⟨rfl,_,hbel⟩;exact⟨rfl,fun h=>by simp at h,hbel⟩
 | some o=>
  cases hs:sameB o e
  ·refine(end_other e n w B M base cnt s o H h0 h8 hb hs).mono ?_;rintro ev w' ⟨rfl,_,hbel⟩;exact⟨by simp[hs],fun h=>by simp[hs] at h,hbel⟩
  ·dsimp only;rw[if_pos hs];by_cases h2:e.t=2
   ·refine(end_done e n w B M base cnt s o H hn h0 h8 hb hs h2).mono ?_;rintro ev w' ⟨rfl,hh,hbel⟩;exact⟨rfl,fun _=>by show HistAt w' B M base (cnt+1) (if e.t=2 then _ else _);rw[if_pos h2];exact hh.mono (by omega),hbel⟩
   ·by_cases h4:e.t=4
    ·refine(end_info e n w B M base cnt s o H hn h0 h8 hb hs h4).mono ?_;rintro ev w' ⟨rfl,hh,hbel⟩;exact⟨rfl,fun _=>by show HistAt w' B M base (cnt+1) (if e.t=2 then _ else if e.t=4 then _ else _);rw[if_neg h2,if_pos h4];exact hh.mono (by omega),hbel⟩
    ·refine(end_fail e n w B M base cnt s o H h0 h8 hb hs h2 h4).mono ?_;rintro ev w' ⟨rfl,hh,hbel⟩;exact⟨rfl,fun _=>by show HistAt w' B M base (cnt+1) (if e.t=2 then _ else if e.t=4 then _ else _);rw[if_neg h2,if_neg h4];exact hh.mono (by omega),hbel⟩
set_option maxHeartbeats 1000000 in
theorem see_any (e:Ev) (n:Int) (w:World) (B M base cnt:Nat) (s:Hs) (H:HistAt w B M base cnt s) (hcn:cnt < 1000) (hn:s.done.length≤200):
  Calls Tryz.prog 32 #[.pointer (some ⟨B,0,none⟩),.int .i64 n,e.agg] w fun ev w'=>ev=.returned (.int .i64 (seeN e s))∧(seeN e s=0→HistAt w' B M base (cnt+1) (seeS n e s))∧Below M w w':=by
 have hB:B < w.heap.size:=Nat.lt_of_lt_of_le H.lt2 H.lt3;have hM:M < w.heap.size:=Nat.lt_trans H.lt1 hB;have HW:Hid (HistAt ((w.alloc e.obj).alloc e.obj) B M base cnt s):=(H.alloc _).alloc _;have HB:Hid (Below M w ((w.alloc e.obj).alloc e.obj)):=(belA (belA (Below.refl _ _) _) _).mono (Nat.le_of_lt hM);clear H;have HF:Hid (∀W,Calls Tryz.prog 59 #[.agg #[.int .i64 e.p,.int .i64 e.t,.int .i64 e.k,.int .i64 e.d,.int .i64 e.a,.int .i64 e.b,.int .i64 e.r]] W fun ev w'=>ev=.returned (.int .i64 e.fault)∧w'=W.alloc (.cells #[.int .i64 e.p,.int .i64 e.t,.int .i64 e.k,.int .i64 e.d,.int .i64 e.a,.int .i64 e.b,.int .i64 e.r] 54)):=fun W=>fault_any e.p e.t e.k e.d e.a e.b e.r W
 by_cases hf:e.fault=0
 ·have hf':(e.fault != 0)=false:=by simp[hf]
  by_cases ht:e.t=1
  ·have HC:=hideIt (begin_any e n _ B M base cnt s HW.out hcn hf ht);have ht':(e.t==1)=true:=by simp[ht]
   clear hf ht;unfold Ev.agg;go_enter Tryz.func32,Tryz.ntmps32
   go_wp2_with fail
   refine(HF.out _).mono ?_;rintro ev w1 ⟨rfl,rfl⟩;go_wp2_with fail
   refine HC.out.mono ?_;rintro ev w1 ⟨rfl,h1,h2⟩;have R1:=hideIt h1;clear h1;go_wp2;go_ret;exact⟨rfl,R1.out,HB.out.trans h2⟩
  ·have HC:=hideIt (end_any e n _ B M base cnt s HW.out hn hf ht);have ht':(e.t==1)=false:=by simp[ht]
   clear hf ht;unfold Ev.agg;go_enter Tryz.func32,Tryz.ntmps32
   go_wp2_with fail
   refine(HF.out _).mono ?_;rintro ev w1 ⟨rfl,rfl⟩;go_wp2_with fail
   refine HC.out.mono ?_;rintro ev w1 ⟨rfl,h1,h2⟩;have R1:=hideIt h1;clear h1;go_wp2;go_ret;exact⟨rfl,R1.out,HB.out.trans h2⟩
 ·have en:seeN e s=e.fault:=by unfold seeN;rw[if_pos (by simpa using hf)]
  rw[en];have R1:Hid (e.fault=0→HistAt ((w.alloc e.obj).alloc e.obj) B M base (cnt+1) (seeS n e s)):=fun h=>absurd h hf
  have hf':(e.fault != 0)=true:=by simp[hf]
  clear hf en;unfold Ev.agg;go_enter Tryz.func32,Tryz.ntmps32
  go_wp2_with fail
  refine(HF.out _).mono ?_;rintro ev w1 ⟨rfl,rfl⟩;go_wp2;go_ret;exact⟨rfl,R1.out,HB.out⟩
open Go.Shelf
def sortOp_ren:Go.Shelf.Ren:=⟨fun | 6=>75 | 15=>136 | 14=>135 | 28=>198 | 29=>199 | 20=>190 | 21=>191 | 22=>192 | 23=>193 | 24=>194 | 25=>195 | 26=>196 | 27=>197 | 46=>240 | 47=>241 | 48=>242 | 49=>243 | 50=>244 | 57=>273 | n=>n,fun | 22=>46 | 24=>157 | 25=>159 | 3=>3 | 39=>70 | 0=>0 | 53=>300 | 55=>164 | 4=>4 | 46=>294 | 45=>293 | 50=>222 | 5=>5 | 9=>9 | 66=>339 | 70=>176 | 76=>379 | 77=>380 | n=>n,fun | n=>n⟩
theorem sortOp:Go.Proofs.SlLaysF0.n6 Tryz.prog sortOp_ren:= {
 mixed:=by kernel_rfl
 f6:=⟨Tryz.f75.name,by decide,Tryz.func75.trans (congrArg some (by kernel_rfl))⟩
 f14:=⟨Tryz.f135.name,by decide,Tryz.func135.trans (congrArg some (by kernel_rfl))⟩
 f15:=Tryz.func136.trans (congrArg some (by kernel_rfl))
 f20:=⟨Tryz.f190.name,by decide,Tryz.func190.trans (congrArg some (by kernel_rfl))⟩
 f21:=⟨Tryz.f191.name,by decide,Tryz.func191.trans (congrArg some (by kernel_rfl))⟩
 f22:=⟨Tryz.f192.name,by decide,Tryz.func192.trans (congrArg some (by kernel_rfl))⟩
 f23:=⟨Tryz.f193.name,by decide,Tryz.func193.trans (congrArg some (by kernel_rfl))⟩
 f24:=⟨Tryz.f194.name,by decide,Tryz.func194.trans (congrArg some (by kernel_rfl))⟩
 f25:=⟨Tryz.f195.name,by decide,Tryz.func195.trans (congrArg some (by kernel_rfl))⟩
 f26:=⟨Tryz.f196.name,by decide,Tryz.func196.trans (congrArg some (by kernel_rfl))⟩
 f27:=⟨Tryz.f197.name,by decide,Tryz.func197.trans (congrArg some (by kernel_rfl))⟩
 f28:=Tryz.func198.trans (congrArg some (by kernel_rfl))
 f29:=Tryz.func199.trans (congrArg some (by kernel_rfl))
 f46:=⟨Tryz.f240.name,by decide,Tryz.func240.trans (congrArg some (by kernel_rfl))⟩
 f47:=Tryz.func241.trans (congrArg some (by kernel_rfl))
 f48:=Tryz.func242.trans (congrArg some (by kernel_rfl))
 f49:=⟨Tryz.f243.name,by decide,Tryz.func243.trans (congrArg some (by kernel_rfl))⟩
 f50:=⟨Tryz.f244.name,by decide,Tryz.func244.trans (congrArg some (by kernel_rfl))⟩
 f57:=⟨Tryz.f273.name,by decide,Tryz.func273.trans (congrArg some (by kernel_rfl))⟩
 t0:=Tryz.underlying0
 a0:=Tryz.isAgg0
 z0:=Tryz.sizeOf0
 v0:=Tryz.zeroValue0
 t3:=Tryz.underlying3
 a3:=Tryz.isAgg3
 z3:=Tryz.sizeOf3
 v3:=Tryz.zeroValue3
 t4:=Tryz.underlying4
 a4:=Tryz.isAgg4
 z4:=Tryz.sizeOf4
 v4:=Tryz.zeroValue4
 t5:=Tryz.underlying5
 a5:=Tryz.isAgg5
 z5:=Tryz.sizeOf5
 v5:=Tryz.zeroValue5
 t9:=Tryz.underlying9
 a9:=Tryz.isAgg9
 z9:=Tryz.sizeOf9
 v9:=Tryz.zeroValue9
 t22:=Tryz.underlying46
 a22:=Tryz.isAgg46
 z22:=Tryz.sizeOf46
 v22:=Tryz.zeroValue46
 t25:=Tryz.underlying159
 a25:=Tryz.isAgg159
 z25:=Tryz.sizeOf159
 v25:=Tryz.zeroValue159
 t39:=Tryz.underlying70
 a39:=Tryz.isAgg70
 z39:=Tryz.sizeOf70
 v39:=Tryz.zeroValue70
 t45:=Tryz.underlying293
 a45:=Tryz.isAgg293
 z45:=Tryz.sizeOf293
 v45:=Tryz.zeroValue293
 t46:=Tryz.underlying294
 a46:=Tryz.isAgg294
 z46:=Tryz.sizeOf294
 v46:=Tryz.zeroValue294
 t50:=Tryz.underlying222
 a50:=Tryz.isAgg222
 z50:=Tryz.sizeOf222
 v50:=Tryz.zeroValue222
 t53:=Tryz.underlying300
 a53:=Tryz.isAgg300
 z53:=Tryz.sizeOf300
 v53:=Tryz.zeroValue300
 t55:=Tryz.underlying164
 a55:=Tryz.isAgg164
 z55:=Tryz.sizeOf164
 v55:=Tryz.zeroValue164
 t66:=Tryz.underlying339
 a66:=Tryz.isAgg339
 z66:=Tryz.sizeOf339
 v66:=Tryz.zeroValue339
 t70:=Tryz.underlying176
 a70:=Tryz.isAgg176
 z70:=Tryz.sizeOf176
 v70:=Tryz.zeroValue176
 t76:=Tryz.underlying379
 a76:=Tryz.isAgg379
 z76:=Tryz.sizeOf379
 v76:=Tryz.zeroValue379
 t77:=Tryz.underlying380
 a77:=Tryz.isAgg380
 z77:=Tryz.sizeOf380
 v77:=Tryz.zeroValue380}
open Go.Shelf Go.RowKit Go.Lib Go.Sort
def cmpO (x y:Opn):Int:=if x.c < y.c then -1 else if y.c < x.c then 1 else 0
theorem ltO (x y:Opn):ltOf cmpO x y=decide (x.c < y.c):=by
 unfold ltOf cmpO;by_cases h1:x.c < y.c
 ·simp[h1]
 ·by_cases h2:y.c < x.c<;>simp[h1,h2]
theorem swoO:SWO (ltOf cmpO) where
 irrefl x:=by rw[ltO];simp
 trans x y z h1 h2:=by rw[ltO] at*;simp at*;omega
 ntrans x y z h1 h2:=by rw[ltO] at*;simp at*;omega
set_option maxHeartbeats 400000 in
theorem compare_any (a b:Int) (w:World):Calls Tryz.prog 77 #[.int .i64 a,.int .i64 b] w fun e w'=>e=.returned (.int .i64 (if a < b then -1 else if b < a then 1 else 0))∧w'=w:=by
 by_cases h1:a < b
 ·rw[if_pos h1];go_enter Tryz.func77,Tryz.ntmps77
  go_wp2;go_ret;exact⟨rfl,rfl⟩
 ·by_cases h2:b < a
  ·rw[if_neg h1,if_pos h2];go_enter Tryz.func77,Tryz.ntmps77
   go_wp2;go_ret;exact⟨rfl,rfl⟩
  ·rw[if_neg h1,if_neg h2];go_enter Tryz.func77,Tryz.ntmps77
   go_wp2;go_ret;exact⟨rfl,rfl⟩
set_option maxHeartbeats 400000 in
theorem closure14 (x y:Opn) (W:World):Calls Tryz.prog 76 #[x.agg,y.agg] W fun e w'=>e=.returned (.int .i64 (cmpO x y))∧∃q os',w'=grow (W.drewN q) os':=by
 have hcon:=hideIt (fun W'=>compare_any x.c y.c W');unfold cmpO;generalize (if x.c < y.c then (-1:Int) else if y.c < x.c then 1 else 0)=r at hcon ⊢;unfold Opn.agg;go_enter Tryz.func76,Tryz.ntmps76
 go_wp2_with (go_at_call 77;refine(hcon.out _).mono ?_;rintro e w' ⟨rfl,rfl⟩)
 go_ret;exact⟨rfl,0,_,by rw[alloc_eq_grow,alloc_eq_grow,grow_grow];rfl⟩
theorem sort_any (blk off cap:Nat) (d:Array Opn) (w:World) [Inhabited Opn] (hH:HoldsK Opn.list 8 w blk off d) (hblk:blk < w.heap.size) (hsz:d.size < 4611686018427387904):
  Calls Tryz.prog 75 #[.slice (some ⟨blk,off,none⟩) d.size cap,.func (.func 76) #[] #[]] w fun e w'=>e=.returned (.tuple #[])∧∃d' n os,PermIn 0 d.size d d'∧SortedIn (ltOf cmpO) 0 d.size d'∧w'=sortWorldK Opn.list 8 w blk off n d' os:=by
 have eg:∀args w,(callFunc 76 args).run Tryz.prog w=.ok (.enter 76 args) w:=enters_of Tryz.func76 (by kernel_rfl) rfl;have hcon:=AnyQ.slices_SortFunc sortOp 8 Tryz.isAgg157 Tryz.sizeOf157 Opn.list (fun _=>rfl) (fun x v hv=>by simp[Opn.list] at hv;rcases hv with rfl | rfl | rfl | rfl | rfl | rfl | rfl | rfl<;>rfl) cmpO swoO 76 #[] blk off cap d w eg (fun _ _ _ _ x y=>closure14 x y _) hH hblk hsz;exact hcon
open Go.RowKit
theorem opList_len (x:Opn):x.list.length=8:=rfl
theorem opCells_get (L:List Opn) (i c:Nat) (hi:i < L.length) (hc:c < 8):(opCells L)[i*8+c]?=L[i].list[c]?:=by
 induction L generalizing i with
 | nil=>simp at hi
 | cons x r ih=>
  show (x.list++opCells r)[i*8+c]?=_;cases i with
  | zero=>
   rw[List.getElem?_append_left (by rw[opList_len];omega)];simp
  | succ i=>
   rw[List.getElem?_append_right (by rw[opList_len];omega),opList_len,show (i+1)*8+c - 8=i*8+c from by omega,ih i (by simpa using hi)];simp
theorem opCells_len (L:List Opn):(opCells L).length=L.length*8:=by
 induction L with
 | nil=>rfl
 | cons x r ih=>show (x.list++opCells r).length=_;rw[List.length_append,opList_len,ih];simp;omega
theorem below_sort {w:World} {M g n:Nat} {d:Array Opn} {os:Array Obj} [Inhabited Opn] (hg:M≤g) (hM:M≤w.heap.size):RowKit.Below M w (Proofs.sortWorldK Opn.list 8 w g 0 n d os):=by
 refine⟨rfl,rfl,rfl,?_,fun k hk=>?_⟩
 ·simp[Proofs.sortWorldK,Sort.grow,Sort.putRowK,Sort.putRow,Sort.mapBlock,Sort.ahead]
 ·simp only[Proofs.sortWorldK,Sort.grow,Sort.putRowK,Sort.putRow,Sort.mapBlock,Sort.ahead];rw[Array.getElem?_append_left (by simp;omega),Array.getElem?_modify,if_neg (by omega)]
theorem sort_list (g cap base M:Nat) (L:List Opn) (w:World) (hlen:L.length≤1000) (ho:w.ownsRow base 157 8 (.slice (some ⟨g,0,none⟩) L.length cap) L.length (opCells L)) (hg:M≤g) (hM:M≤w.heap.size) (hgs:g < w.heap.size):
  Calls Tryz.prog 75 #[.slice (some ⟨g,0,none⟩) L.length cap,.func (.func 76) #[] #[]] w fun e w'=>e=.returned (.tuple #[])∧∃L':List Opn,L'.Perm L∧L'.length=L.length∧L'.Pairwise (fun x y=>x.c≤y.c)∧OpsAt w' g 0 L'∧RowKit.Below M w w':=by
 haveI:Inhabited Opn:=⟨zeroOp⟩;have hsize:L.toArray.size=L.length:=by simp
 have hH:Sort.HoldsK Opn.list 8 w g 0 L.toArray:=by
  intro j hj;have hj':j < L.length*8:=by simpa [Sort.flatK] using hj
  have hd:j / 8 < L.length:=by omega
  refine⟨?_,by rw[Nat.zero_add];exact ho.frozenAt j⟩;rw[Nat.zero_add,ho.cellAt j hj',show j=j / 8*8+j%8 from by omega,opCells_get L (j / 8) (j%8) hd (by omega)];have e1:(j / 8*8+j%8) / 8=j / 8:=by omega
  have e2:(j / 8*8+j%8)%8=j%8:=by omega
  have hlt:j%8 < L[j / 8].list.length:=by rw[opList_len];omega
  rw[List.getElem?_eq_getElem hlt];have hr:j / 8*8+j%8 < L.length*8:=by omega
  simp[Sort.flatK,e1,e2,hr,hd,hlt]
 have h:=sort_any g 0 cap L.toArray w hH hgs (by rw[hsize];omega);rw[hsize] at h;refine h.mono ?_;rintro e w' ⟨rfl,d',n,os,hp,hs,rfl⟩;obtain⟨p1,_,p3⟩:=hp;have hdl:d'.size=L.length:=by rw[p1,hsize]
 have hperm:d'.toList.Perm L:=by
  have e1:(d'.extract 0 L.length).toList=d'.toList:=by rw[←hdl];simp
  have e2:(L.toArray.extract 0 L.length).toList=L:=by simp
  rw[e1,e2] at p3;exact p3
 refine⟨rfl,d'.toList,hperm,hperm.length_eq,?_,?_,below_sort hg hM⟩
 ·refine List.pairwise_iff_getElem.2 fun i j hi hj hij=>?_
  have:=hs i j (Nat.zero_le _) hij (by simpa [hdl] using hj);rw[ltO] at this;have hi':i < d'.size:=by simpa using hi
  have hj':j < d'.size:=by simpa using hj
  simp[hi',hj'] at this
  simpa using this
 ·have hh:=Proofs.holdsK_sortWorldK_c Opn.list 8 w g 0 L.toArray d' n os hH hgs p1;intro i hi;have hi':i < d'.size:=by simpa using hi
  have hc:∀c,c < 8→(Proofs.sortWorldK Opn.list 8 w g 0 n d' os).cell? ⟨g,0+i*8+c,none⟩=some (d'.toList[i].list)[c]! :=fun c hc=>by
   have:=(hh.cell hi' hc).1
   simpa [hi'] using this
  exact⟨hc 0 (by decide),hc 1 (by decide),hc 2 (by decide),hc 3 (by decide),hc 4 (by decide),hc 5 (by decide),hc 6 (by decide),hc 7 (by decide)⟩
open Go.RowKit
set_option maxHeartbeats 400000 in
theorem len_zero (w:World):Calls Tryz.prog 136 #[.int .u64 0] w fun e w'=>∃l:Int,e=.returned (.int .i64 l)∧w'=w:=by
 go_enter Tryz.func136,Tryz.ntmps136
 go_wp2;go_ret;exact⟨_,rfl,rfl⟩
set_option maxHeartbeats 400000 in
theorem insertion_none (p:Option Addr) (cap:Nat) (fv:Value) (w:World):Calls Tryz.prog 190 #[.slice p 0 cap,.int .i64 0,.int .i64 0,fv] w fun e w'=>e=.returned (.tuple #[])∧w'=w:=by
 go_enter Tryz.func190,Tryz.ntmps190
 go_wp2;refine wp_loop_rounds 1 ?_;rw[rounds_succ];go_wp2
 go_end0
 exact⟨rfl,rfl⟩
set_option maxHeartbeats 400000 in
theorem pdq_none (p:Option Addr) (cap:Nat) (lim:Int) (fv:Value) (w:World):Calls Tryz.prog 135 #[.slice p 0 cap,.int .i64 0,.int .i64 0,.int .i64 lim,fv] w fun e w'=>e=.returned (.tuple #[])∧w'=w:=by
 go_enter Tryz.func135,Tryz.ntmps135
 go_wp2;refine wp_loop_rounds 1 ?_;rw[rounds_succ];go_wp2_with (go_at_call 190;refine(insertion_none _ _ _ _).mono ?_;rintro e w' ⟨rfl,rfl⟩)
 (try simp only[Exit.inBlock,Exit.then])
 refine bodyPost_ret (results_none rfl _ _ _) rfl ?_;exact⟨rfl,rfl⟩
set_option maxHeartbeats 400000 in
theorem sort_none (p:Option Addr) (cap:Nat) (fv:Value) (w:World):Calls Tryz.prog 75 #[.slice p 0 cap,fv] w fun e w'=>e=.returned (.tuple #[])∧w'=w:=by
 go_enter Tryz.func75,Tryz.ntmps75
 go_wp2_with (first | (go_at_call 136;refine(len_zero _).mono ?_;rintro e w' ⟨l,rfl,rfl⟩) | (go_at_call 135;refine(pdq_none _ _ _ _ _).mono ?_;rintro e w' ⟨rfl,rfl⟩))
 go_end0
 exact⟨rfl,rfl⟩
end Go.Proofs.YtjpklmighoondaaGreatDoor
