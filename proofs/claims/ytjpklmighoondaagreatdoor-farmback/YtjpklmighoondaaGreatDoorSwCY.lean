/-
  The program's store, walked: goRound.
  The program's store: a client's parts; done, asked, GiveUp, Begin, walked.
  The program's store, walked: asked, GiveUp, Begin.
-/
import Derived.Test.YtjpklmighoondaaGreatDoorFieldsQY
import Derived.Test.YtjpklmighoondaaGreatDoorSwAY
set_option maxRecDepth 100000
namespace Go.Proofs.YtjpklmighoondaaGreatDoor.St
open Go.RowKit
structure SameX (P P' : Pst) : Prop where
 n:P'.n=P.n
 k:P'.k=P.k
 ask:P'.ask=P.ask
 tell:P'.tell=P.tell
 back:P'.back=P.back
 nil:P'.nil=P.nil
 lr:P'.lr=P.lr
 has:P'.has=P.has
 cl:P'.cl=P.cl
 evs:P'.evs=P.evs
 sts:P'.sts=P.sts
theorem SameX.refl (P:Pst):SameX P P:=⟨rfl,rfl,rfl,rfl,rfl,rfl,rfl,rfl,rfl,rfl,rfl⟩
theorem SameX.trans {P P1 P2:Pst} (h:SameX P P1) (h':SameX P1 P2):SameX P P2:=⟨h'.n.trans h.n,h'.k.trans h.k,h'.ask.trans h.ask,h'.tell.trans h.tell,h'.back.trans h.back,h'.nil.trans h.nil,h'.lr.trans h.lr,h'.has.trans h.has,h'.cl.trans h.cl,h'.evs.trans h.evs,h'.sts.trans h.sts⟩
theorem sendP_same (P:Pst) (m:Mq):SameX P (sendP P m):=by
 unfold sendP
 split<;>exact⟨rfl,rfl,rfl,rfl,rfl,rfl,rfl,rfl,rfl,rfl,rfl⟩
theorem sendsP_succ (P:Pst) (c:Nat) (x:Pcl) (m:Nat):sendsP P c x (m+1)=sendP (sendsP P c x m) (msgP (sendsP P c x m).n c x m):=by
 unfold sendsP;rw[List.range_succ,List.foldl_append];rfl
theorem sendsP_same (P:Pst) (c:Nat) (x:Pcl):∀m,SameX P (sendsP P c x m)
 | 0=>SameX.refl P
 | m+1=>by rw[sendsP_succ];exact(sendsP_same P c x m).trans (sendP_same _ _)
theorem SFr.cast {K K':StK} {k k':Nat} {W W':World} (h:SFr K k W W' K') (e:k=k'):SFr K k' W W' K':=e▸h
section
variable {w0 W : World} {K : StK} {P : Pst}
set_option maxHeartbeats 4000000 in
theorem goRound_any (h:StoP w0 W K P) (hn7:P.n≤7) (hk8:P.k≤8) {i:Nat} (hi:i < P.k) (hrd:0≤(P.cl i).rd∧(P.cl i).rd≤100000) (a:Int):
  Calls Tryz.prog 151 #[.pointer (some ⟨K.B,0,none⟩),.int .i64 (i:Int),.int .i64 a] W fun en W'=>en=.returned (.tuple #[])∧StTold w0 K P W (roundP P i a) W':=by
 have c8:=h.cells.2.2.2.2.1;have hii:(i:Int) < (P.k:Int):=by omega
 have hx:=h.cx i hi;have a0:=hx.at_;have a8:=hx.rd;have a9:=hx.cv;have f0:=h.fzC (i*13);have f8:=h.fzC (i*13+8);have f9:=h.fzC (i*13+9);have hw:IntKind.i64.wrap ((P.cl i).rd+1)=(P.cl i).rd+1:=IntWalk.i64_in _ (by omega);have hO:OnlyC W (((W.setCell ⟨K.C,i*13,none⟩ (.int .i64 a)).setCell ⟨K.C,i*13+8,none⟩ (.int .i64 ((P.cl i).rd+1))).setCell ⟨K.C,i*13+9,none⟩ (.slice none 0 0)) K.C (i*13) 13 250:=
  (((OnlyC.refl h.cb).set (by omega) _).set (by omega) _).set (by omega) _
 have hcell:∀j,j≠i*13→j≠i*13+8→j≠i*13+9→(((W.setCell ⟨K.C,i*13,none⟩ (.int .i64 a)).setCell ⟨K.C,i*13+8,none⟩ (.int .i64 ((P.cl i).rd+1))).setCell ⟨K.C,i*13+9,none⟩ (.slice none 0 0)).cell? ⟨K.C,j,none⟩=W.cell? ⟨K.C,j,none⟩:=fun j h1 h2 h3=>by
  rw[World.cell?_setCell_other _ _ _ _ (offNe (Ne.symm h3)),World.cell?_setCell_other _ _ _ _ (offNe (Ne.symm h2)),World.cell?_setCell_other _ _ _ _ (offNe (Ne.symm h1))]
 have hC:ClAt (((W.setCell ⟨K.C,i*13,none⟩ (.int .i64 a)).setCell ⟨K.C,i*13+8,none⟩ (.int .i64 ((P.cl i).rd+1))).setCell ⟨K.C,i*13+9,none⟩ (.slice none 0 0)) K.C (i*13) (roundX (P.cl i) a) (.slice none 0 0):=by
  refine⟨?_,hx.call.cells fun j h1 h2=>hcell j (by omega) (by omega) (by omega),?_,?_,hx.kept.cells fun j h1 h2=>hcell j (by omega) (by omega) (by omega)⟩
  ·rw[World.cell?_setCell_other _ _ _ _ (offNe (by omega)),World.cell?_setCell_other _ _ _ _ (offNe (by omega))];exact World.cell?_setCell_same' _ _ _ (by rw[a0];rfl)
  ·rw[World.cell?_setCell_other _ _ _ _ (offNe (by omega))];exact World.cell?_setCell_same' _ _ _ (by rw[World.cell?_setCell_other _ _ _ _ (offNe (by omega)),a8];rfl)
  ·exact World.cell?_setCell_same' _ _ _ (by rw[World.cell?_setCell_other _ _ _ _ (offNe (by omega)),World.cell?_setCell_other _ _ _ _ (offNe (by omega)),a9];rfl)
 obtain⟨hP1,hF1⟩:=h.setC hi hO hC (.inr ⟨rfl,rfl⟩);have HP1:=hideIt hP1;have HF1:=hideIt hF1;have c7:(((W.setCell ⟨K.C,i*13,none⟩ (.int .i64 a)).setCell ⟨K.C,i*13+8,none⟩ (.int .i64 ((P.cl i).rd+1))).setCell ⟨K.C,i*13+9,none⟩ (.slice none 0 0)).cell? ⟨K.B,7,none⟩=some (.slice (some ⟨K.N,0,none⟩) P.n P.n):=hP1.cells.2.2.2.1;have HRd:Hid (roundP P i a=sendsP {P with cl:=updP P.cl i (roundX (P.cl i) a)} i (roundX (P.cl i) a) P.n):=rfl;have HXc:Hid (({P with cl:=updP P.cl i (roundX (P.cl i) a)} :Pst).cl i=roundX (P.cl i) a):=updP_same _ _ _;have HXa:Hid ((roundX (P.cl i) a).at_=a):=rfl;have Hn1:Hid (({P with cl:=updP P.cl i (roundX (P.cl i) a)} :Pst).n=P.n):=rfl;have Hk1:Hid (({P with cl:=updP P.cl i (roundX (P.cl i) a)} :Pst).k=P.k):=rfl;clear hO hC hcell hx h hP1 hF1;generalize roundP P i a=Pend at HRd ⊢;generalize roundX (P.cl i) a=x at*
 generalize ({P with cl:=updP P.cl i x} :Pst)=P1 at*
 go_enter Tryz.func151,Tryz.ntmps151
 go_wp2;clear a0 a8 a9 f0 f8 f9 hw c7 c8;generalize ((W.setCell _ _).setCell _ _).setCell _ _=W1 at*
 go_loopw [33] (fun v wr=>∃(j:Nat) (K2:StK),j≤P.n∧v=.int .i64 j∧StoP w0 wr K2 (sendsP P1 i x j)∧SFr K P.k W wr K2) (fun v _=>P.n - (intOf v).toNat)
 case atStart=>exact⟨0,_,Nat.zero_le _,rfl,HP1.out,HF1.out⟩
 case round=>
  clear HP1 HF1;obtain⟨j,K2,hj,rfl,hP,hF⟩:=hrel;have HP:=hideIt hP;have HF:=hideIt hF;clear hP hF;by_cases hjn:j < P.n
  ·have hjn':(j:Int) < P.n:=by omega
   have hs:=sendsP_same P1 i x j;have HQc:Hid ((sendsP P1 i x j).cl i=x):=by show _=_;rw[hs.cl];exact HXc.out
   have HQn:Hid ((sendsP P1 i x j).n=P.n):=hs.n.trans Hn1.out;have HQk:Hid ((sendsP P1 i x j).k=P.k):=hs.k.trans Hk1.out;have HT:Hid (∀Z,Below wr.heap.size wr Z→Z.cell? ⟨K.B,0,none⟩=some (.int .i64 (P.n:Int))∧Z.cell? ⟨K.C,i*13+1+2,none⟩=some (.int .i64 x.call.k)∧Z.cell? ⟨K.C,i*13+8,none⟩=some (.int .i64 x.rd)∧Z.cell? ⟨K.C,i*13+10,none⟩=some (.int .i64 x.kept.s.t)∧Z.cell? ⟨K.C,i*13+10+1,none⟩=some (.int .i64 x.kept.s.c)∧Z.cell? ⟨K.C,i*13+10+2,none⟩=some (.int .i64 x.kept.v)):=fun Z hZ=>by
    have hZP:=HP.out.below hZ;obtain⟨⟨q0,_⟩,_⟩:=hZP.cells;have hx:=hZP.cx i (by rw[HQk.out];exact hi);rw[HQc.out,HF.out.B.2.2] at hx;rw[HQn.out,HF.out.B.1] at q0;exact⟨q0,hx.call.2.2.1,hx.rd,hx.kept.1,hx.kept.2.1,hx.kept.2.2⟩
   have hwn:IntKind.i64.wrap ((P.n:Int)+(i:Int))=(P.n:Int)+(i:Int):=IntWalk.i64_in _ (by omega);have HS:Hid (∀Z,Below wr.heap.size wr Z→Calls Tryz.prog 155 #[.pointer (some ⟨K.B,0,none⟩),.int .i64 ((P.n:Int)+(i:Int)),.int .i64 (j:Int),.agg #[.int .i64 x.call.k,.int .i64 x.rd,.bool (a==2),.int .i64 x.kept.s.t,.int .i64 x.kept.s.c,.int .i64 x.kept.v]] Z fun en W'=>en=.returned (.tuple #[])∧StTold w0 K P W (sendsP P1 i x (j+1)) W'):=fun Z hZ=>by
    have:=sendS_any (HP.out.below hZ) (msgP P.n i x j);unfold msgP at this;rw[HXa.out,HF.out.B.1,show decide (a=2)=(a==2) from rfl] at this;refine this.mono fun e W' ⟨h1,K3,h2,h3⟩=>⟨h1,K3,?_,(HF.out.trans ((SFr.below hZ).trans (h3.cast HQk.out)))⟩
    rw[sendsP_succ,HQn.out];unfold msgP;rw[HXa.out];exact h2
   clear hs;go_wp2_with fail
   refine wp_region_L (B:= [25]) (S:=fun _=>True) (T:=fun Z=>Below wr.heap.size wr Z) (by kernel_rfl) ⟨trivial,(Below.refl _ _).drew⟩ (fun hHeld=>?_);refine tkS 0 ?_ rfl ?_ ?_;rotate_left 1
   ·intro wz _;go_simp;all_goals with_reducible rfl
   simp only[Act.put,p1,p2,p3,p4,p5];refine tkS 1 ?_ rfl ?_ ?_;rotate_left 1
   ·intro wz _;go_simp;all_goals with_reducible rfl
   simp only[Act.put,p1,p2,p3,p4,p5,p6];refine tkS 2 ?_ rfl ?_ ?_;rotate_left 1
   ·intro wz _;go_simp;all_goals with_reducible rfl
   simp only[Act.put,p1,p2,p3,p4,p5,p6];refine tkS 3 ?_ rfl ?_ ?_;rotate_left 1
   ·intro wz _;go_simp;all_goals with_reducible rfl
   simp only[Act.put,p1,p2,p3,p4,p5,p6];refine tkS 4 ?_ rfl ?_ ?_;rotate_left 1
   ·intro wz _;go_simp;all_goals with_reducible rfl
   simp only[Act.put,p1,p2,p3,p4,p5,p6];refine tkL [7,25] 5 ?_ rfl ?_ ?_;rotate_left 1
   ·intro wz sb;obtain⟨y0,y1,y2,y3,y4,y5⟩:=HT.out wz sb.2;go_simp;all_goals with_reducible rfl
   simp only[Act.put,p1,p2,p3,p4,p5,p6];refine tkS 6 ?_ rfl ?_ ?_;rotate_left 1
   ·intro wz _;go_simp;all_goals with_reducible rfl
   simp only[Act.put,p1,p2,p3,p4,p5,p6];refine tkS 7 ?_ rfl ?_ ?_;rotate_left 1
   ·intro wz _;go_simp;all_goals with_reducible rfl
   simp only[Act.put,p1,p2,p3,p4,p5,p6];refine tkS 8 ?_ rfl ?_ ?_;rotate_left 1
   ·intro wz _;go_simp;all_goals with_reducible rfl
   simp only[Act.put,p1,p2,p3,p4,p5,p6];refine tkS 9 ?_ rfl ?_ ?_;rotate_left 1
   ·intro wz _;go_simp;all_goals with_reducible rfl
   simp only[Act.put,p1,p2,p3,p4,p5,p6];refine tkS 10 ?_ rfl ?_ ?_;rotate_left 1
   ·intro wz _;go_simp;all_goals with_reducible rfl
   simp only[Act.put,p1,p2,p3,p4,p5,p6];refine tkS 11 ?_ rfl ?_ ?_;rotate_left 1
   ·intro wz _;go_simp;all_goals with_reducible rfl
   simp only[Act.put,p1,p2,p3,p4,p5,p6];refine tkS 12 ?_ rfl ?_ ?_;rotate_left 1
   ·intro wz _;go_simp;all_goals with_reducible rfl
   simp only[Act.put,p1,p2,p3,p4,p5,p6];refine tkL [24,25] 13 ?_ rfl ?_ ?_;rotate_left 1
   ·intro wz sb;obtain⟨y0,y1,y2,y3,y4,y5⟩:=HT.out wz sb.2;go_simp;all_goals with_reducible rfl
   simp only[Act.put,p1,p2,p3,p4,p5,p6];refine tkS 14 ?_ rfl ?_ ?_;rotate_left 1
   ·intro wz _;go_simp;all_goals with_reducible rfl
   simp only[Act.put,p1,p2,p3,p4,p5,p6];refine tkS 15 ?_ rfl ?_ ?_;rotate_left 1
   ·intro wz _;go_simp;all_goals with_reducible rfl
   simp only[Act.put,p1,p2,p3,p4,p5,p6];refine tkS 16 ?_ rfl ?_ ?_;rotate_left 1
   ·intro wz _;go_simp;all_goals with_reducible rfl
   simp only[Act.put,p1,p2,p3,p4,p5,p6];refine tkL [24,25] 17 ?_ rfl ?_ ?_;rotate_left 1
   ·intro wz sb;obtain⟨y0,y1,y2,y3,y4,y5⟩:=HT.out wz sb.2;go_simp;all_goals with_reducible rfl
   simp only[Act.put,p1,p2,p3,p4,p5,p6];refine tkS 18 ?_ rfl ?_ ?_;rotate_left 1
   ·intro wz _;go_simp;all_goals with_reducible rfl
   simp only[Act.put,p1,p2,p3,p4,p5,p6];refine tkS 19 ?_ rfl ?_ ?_;rotate_left 1
   ·intro wz _;go_simp;all_goals with_reducible rfl
   simp only[Act.put,p1,p2,p3,p4,p5,p6];refine tkS 20 ?_ rfl ?_ ?_;rotate_left 1
   ·intro wz _;go_simp;all_goals with_reducible rfl
   simp only[Act.put,p1,p2,p3,p4,p5,p6];refine tkS 21 ?_ rfl ?_ ?_;rotate_left 1
   ·intro wz _;go_simp;all_goals with_reducible rfl
   simp only[Act.put,p1,p2,p3,p4,p5,p6];refine tkS 22 ?_ rfl ?_ ?_;rotate_left 1
   ·intro wz _;go_simp;all_goals with_reducible rfl
   simp only[Act.put,p1,p2,p3,p4,p5,p6];refine tkL [24,25] 23 ?_ rfl ?_ ?_;rotate_left 1
   ·intro wz sb;obtain⟨y0,y1,y2,y3,y4,y5⟩:=HT.out wz sb.2;go_simp;all_goals with_reducible rfl
   simp only[Act.put,p1,p2,p3,p4,p5,p6];refine tkS 24 ?_ rfl ?_ ?_;rotate_left 1
   ·intro wz _;go_simp;all_goals with_reducible rfl
   simp only[Act.put,p1,p2,p3,p4,p5,p6];refine wpAnyL_ready (rs:= [25]) (by kernel_rfl) (by simp) (AllReadyL.last rfl (by kernel_rfl) (fun Q hQ=>?_) AllReadyL.nil);go_simp;refine(HS.out _ hHeld.2).mono ?_;rintro e W2 ⟨rfl,K3,hP3,hF3⟩;have HP3:=hideIt hP3;have HF3:=hideIt hF3;refine hQ.out _ _ trivial (fun _=>?_);clear hQ Q hP3 hF3 hHeld HS HT;refine wpAnyL_done (by kernel_rfl) ?_ _;go_wp2
   go_roundw
   case rel=>exact⟨j+1,K3,by omega,by go_num,HP3.out,HF3.out⟩
   case measure=>simp[intOf];omega
  ·obtain rfl:j=P.n:=by omega
   go_wp2
   go_end0
   exact⟨rfl,K2,by rw[HRd.out];exact HP.out,HF.out⟩
end
end Go.Proofs.YtjpklmighoondaaGreatDoor.St
namespace Go.Proofs.YtjpklmighoondaaGreatDoor.St
open Go.RowKit
section
variable {w0 W W' : World} {K : StK} {P : Pst}
theorem cell_set_ne {g a b:Nat} (h:b≠a) (u:Value):(W.setCell ⟨g,a,none⟩ u).cell? ⟨g,b,none⟩=W.cell? ⟨g,b,none⟩:=World.cell?_setCell_other _ _ _ _ (offNe (Ne.symm h))
theorem cell_set_eq {g a:Nat} {v:Value} (h:W.cell? ⟨g,a,none⟩=some v) (u:Value):(W.setCell ⟨g,a,none⟩ u).cell? ⟨g,a,none⟩=some u:=World.cell?_setCell_same' _ _ _ (by rw[h];rfl)
theorem StoP.setAt (h:StoP w0 W K P) {i:Nat} (hi:i < P.k) (a:Int):StoP w0 (W.setCell ⟨K.C,i*13,none⟩ (.int .i64 a)) {K with cv:=updP K.cv i (K.cv i)} {P with cl:=updP P.cl i {P.cl i with at_:=a}} ∧SFr K P.k W (W.setCell ⟨K.C,i*13,none⟩ (.int .i64 a)) {K with cv:=updP K.cv i (K.cv i)} :=by
 have hx:=h.cx i hi;have hn:∀j,j≠i*13→(W.setCell ⟨K.C,i*13,none⟩ (.int .i64 a)).cell? ⟨K.C,j,none⟩=W.cell? ⟨K.C,j,none⟩:=fun j hj=>cell_set_ne hj _
 exact h.setC hi ((OnlyC.refl h.cb).set (by omega) _) (x:= {P.cl i with at_:=a}) ⟨cell_set_eq hx.at_ _,hx.call.cells fun j h1 h2=>hn j (by omega),(hn _ (by omega)).trans hx.rd,(hn _ (by omega)).trans hx.cv,hx.kept.cells fun j h1 h2=>hn j (by omega)⟩ (.inl ⟨rfl,rfl⟩)
theorem StoP.setKept (h:StoP w0 W K P) {i:Nat} (hi:i < P.k) (y:Hd):StoP w0 ((((W).setCell ⟨K.C,i*13+10,none⟩ (.int .i64 y.s.t)).setCell ⟨K.C,i*13+10+1,none⟩ (.int .i64 y.s.c)).setCell ⟨K.C,i*13+10+2,none⟩ (.int .i64 y.v)) {K with cv:=updP K.cv i (K.cv i)} {P with cl:=updP P.cl i {P.cl i with kept:=y}} ∧SFr K P.k W ((((W).setCell ⟨K.C,i*13+10,none⟩ (.int .i64 y.s.t)).setCell ⟨K.C,i*13+10+1,none⟩ (.int .i64 y.s.c)).setCell ⟨K.C,i*13+10+2,none⟩ (.int .i64 y.v)) {K with cv:=updP K.cv i (K.cv i)} :=by
 have hx:=h.cx i hi;have hn:∀j,j≠i*13+10→j≠i*13+10+1→j≠i*13+10+2→((((W).setCell ⟨K.C,i*13+10,none⟩ (.int .i64 y.s.t)).setCell ⟨K.C,i*13+10+1,none⟩ (.int .i64 y.s.c)).setCell ⟨K.C,i*13+10+2,none⟩ (.int .i64 y.v)).cell? ⟨K.C,j,none⟩=W.cell? ⟨K.C,j,none⟩:=fun j h1 h2 h3=>by rw[cell_set_ne h3,cell_set_ne h2,cell_set_ne h1]
 refine h.setC hi ((((OnlyC.refl h.cb).set (by omega) _).set (by omega) _).set (by omega) _) (x:= {P.cl i with kept:=y}) ⟨(hn _ (by omega) (by omega) (by omega)).trans hx.at_,hx.call.cells fun j h1 h2=>hn j (by omega) (by omega) (by omega),(hn _ (by omega) (by omega) (by omega)).trans hx.rd,(hn _ (by omega) (by omega) (by omega)).trans hx.cv,⟨?_,?_,?_⟩⟩ (.inl ⟨rfl,rfl⟩)
 ·rw[cell_set_ne (by omega),cell_set_ne (by omega)];exact cell_set_eq hx.kept.1 _
 ·rw[cell_set_ne (by omega)];exact cell_set_eq ((cell_set_ne (by omega) _).trans hx.kept.2.1) _
 ·exact cell_set_eq ((cell_set_ne (by omega) _).trans ((cell_set_ne (by omega) _).trans hx.kept.2.2)) _
theorem StoP.setCall (h:StoP w0 W K P) {i:Nat} (hi:i < P.k) (e:Evp):StoP w0 ((((((((W).setCell ⟨K.C,i*13+1,none⟩ (.int .i64 e.p)).setCell ⟨K.C,i*13+1+1,none⟩ (.int .i64 e.t)).setCell ⟨K.C,i*13+1+2,none⟩ (.int .i64 e.k)).setCell ⟨K.C,i*13+1+3,none⟩ (.int .i64 e.d)).setCell ⟨K.C,i*13+1+4,none⟩ (.int .i64 e.a)).setCell ⟨K.C,i*13+1+5,none⟩ (.int .i64 e.b)).setCell ⟨K.C,i*13+1+6,none⟩ (.int .i64 e.r)) {K with cv:=updP K.cv i (K.cv i)} {P with cl:=updP P.cl i {P.cl i with call:=e}} ∧SFr K P.k W ((((((((W).setCell ⟨K.C,i*13+1,none⟩ (.int .i64 e.p)).setCell ⟨K.C,i*13+1+1,none⟩ (.int .i64 e.t)).setCell ⟨K.C,i*13+1+2,none⟩ (.int .i64 e.k)).setCell ⟨K.C,i*13+1+3,none⟩ (.int .i64 e.d)).setCell ⟨K.C,i*13+1+4,none⟩ (.int .i64 e.a)).setCell ⟨K.C,i*13+1+5,none⟩ (.int .i64 e.b)).setCell ⟨K.C,i*13+1+6,none⟩ (.int .i64 e.r)) {K with cv:=updP K.cv i (K.cv i)} :=by
 have hx:=h.cx i hi;have hn:∀j,(j < i*13+1∨i*13+8≤j)→((((((((W).setCell ⟨K.C,i*13+1,none⟩ (.int .i64 e.p)).setCell ⟨K.C,i*13+1+1,none⟩ (.int .i64 e.t)).setCell ⟨K.C,i*13+1+2,none⟩ (.int .i64 e.k)).setCell ⟨K.C,i*13+1+3,none⟩ (.int .i64 e.d)).setCell ⟨K.C,i*13+1+4,none⟩ (.int .i64 e.a)).setCell ⟨K.C,i*13+1+5,none⟩ (.int .i64 e.b)).setCell ⟨K.C,i*13+1+6,none⟩ (.int .i64 e.r)).cell? ⟨K.C,j,none⟩=W.cell? ⟨K.C,j,none⟩:=fun j h1=>by rw[cell_set_ne (by omega),cell_set_ne (by omega),cell_set_ne (by omega),cell_set_ne (by omega),cell_set_ne (by omega),cell_set_ne (by omega),cell_set_ne (by omega)]
 obtain⟨q0,q1,q2,q3,q4,q5,q6⟩:=hx.call;refine h.setC hi ((((((((OnlyC.refl h.cb).set (by omega) _).set (by omega) _).set (by omega) _).set (by omega) _).set (by omega) _).set (by omega) _).set (by omega) _) (x:= {P.cl i with call:=e}) ⟨(hn _ (by omega)).trans hx.at_,⟨?_,?_,?_,?_,?_,?_,?_⟩,(hn _ (by omega)).trans hx.rd,(hn _ (by omega)).trans hx.cv,hx.kept.cells fun j h1 h2=>hn j (by omega)⟩ (.inl ⟨rfl,rfl⟩)
 ·rw[cell_set_ne (by omega),cell_set_ne (by omega),cell_set_ne (by omega),cell_set_ne (by omega),cell_set_ne (by omega),cell_set_ne (by omega)];exact cell_set_eq q0 _
 ·rw[cell_set_ne (by omega),cell_set_ne (by omega),cell_set_ne (by omega),cell_set_ne (by omega),cell_set_ne (by omega)];exact cell_set_eq (by rw[cell_set_ne (by omega)];exact q1) _
 ·rw[cell_set_ne (by omega),cell_set_ne (by omega),cell_set_ne (by omega),cell_set_ne (by omega)];exact cell_set_eq (by rw[cell_set_ne (by omega),cell_set_ne (by omega)];exact q2) _
 ·rw[cell_set_ne (by omega),cell_set_ne (by omega),cell_set_ne (by omega)];exact cell_set_eq (by rw[cell_set_ne (by omega),cell_set_ne (by omega),cell_set_ne (by omega)];exact q3) _
 ·rw[cell_set_ne (by omega),cell_set_ne (by omega)];exact cell_set_eq (by rw[cell_set_ne (by omega),cell_set_ne (by omega),cell_set_ne (by omega),cell_set_ne (by omega)];exact q4) _
 ·rw[cell_set_ne (by omega)];exact cell_set_eq (by rw[cell_set_ne (by omega),cell_set_ne (by omega),cell_set_ne (by omega),cell_set_ne (by omega),cell_set_ne (by omega)];exact q5) _
 ·exact cell_set_eq (by rw[cell_set_ne (by omega),cell_set_ne (by omega),cell_set_ne (by omega),cell_set_ne (by omega),cell_set_ne (by omega),cell_set_ne (by omega)];exact q6) _
set_option maxHeartbeats 4000000 in
theorem done_any (h:StoP w0 W K P) (hev:P.evs.length≤9000) (hst:P.sts.length≤9000) {i:Nat} (hi:i < P.k):
  Calls Tryz.prog 159 #[.pointer (some ⟨K.B,0,none⟩),.int .i64 (i:Int)] W fun en W'=>en=.returned (.tuple #[])∧StTold w0 K P W (doneP P i) W':=by
 have c8:=h.cells.2.2.2.2.1;have hii:(i:Int) < (P.k:Int):=by omega
 have hx:=h.cx i hi;obtain⟨q0,q1,q2,q3,q4,q5,q6⟩:=hx.call;have HP:=hideIt h;have hCl:=h.ltC;have HDn:Hid (doneP P i= {P with evs:=P.evs++ [endP (P.cl i)],sts:=P.sts++ [(P.cl i).kept.s],cl:=updP P.cl i {P.cl i with at_:=0}}):=rfl;have HKt:Hid (∀Z,Below W.heap.size W Z→Z.cell? ⟨K.C,i*13+10,none⟩=some (.int .i64 (P.cl i).kept.s.t)∧Z.cell? ⟨K.C,i*13+10+1,none⟩=some (.int .i64 (P.cl i).kept.s.c)∧Z.cell? ⟨K.C,i*13+10+2,none⟩=some (.int .i64 (P.cl i).kept.v)):=fun Z hZ=>((HP.out.below hZ).cx i hi).kept
 have HSee:Hid (∀Z,Below W.heap.size W Z→∀e:Evp,e=endP (P.cl i)→Calls Tryz.prog 150 #[.pointer (some ⟨K.B,0,none⟩),.agg #[.int .i64 e.p,.int .i64 e.t,.int .i64 e.k,.int .i64 e.d,.int .i64 e.a,.int .i64 e.b,.int .i64 e.r],.agg #[.int .i64 (P.cl i).kept.s.t,.int .i64 (P.cl i).kept.s.c]] Z fun en W'=>en=.returned (.tuple #[])∧(∃a0:Value,W'.cell? ⟨K.C,i*13,none⟩=some a0∧W'.frozen? ⟨K.C,i*13,none⟩=false)∧StTold w0 K P W (doneP P i) (W'.setCell ⟨K.C,i*13,none⟩ (.int .i64 0))):=fun Z hZ e he=>by
  refine(see_any (HP.out.below hZ) hev hst e (P.cl i).kept.s).mono fun en W' ⟨h1,K1,h2,h3⟩=>⟨h1,?_,?_⟩
  ·have hx1:=h2.cx i hi;rw[h3.B.2.2] at hx1;exact⟨_,hx1.at_,by rw[←h3.B.2.2];exact h2.fzC _⟩
  ·obtain⟨h4,h5⟩:=h2.setAt hi 0;rw[h3.B.2.2] at h4 h5;refine⟨_,?_,(SFr.below hZ).trans (h3.trans h5)⟩;rw[HDn.out,←he];exact h4
 clear h hx;generalize hcl:P.cl i=x at*
 have HEn:Hid (endP x=if x.call.d=1 then {x.call with t:=2,r:=x.kept.v} else {x.call with t:=2}):=rfl;clear hcl;go_enter Tryz.func159,Tryz.ntmps159
 go_upto_region 3 with fail
 have HKb:=hideIt (HKt.out _ (belA (Below.refl _ W) (.cells #[.int .i64 x.call.p,.int .i64 2,.int .i64 x.call.k,.int .i64 x.call.d,.int .i64 x.call.a,.int .i64 x.call.b,.int .i64 x.call.r] 54)));by_cases hd:x.call.d=1
 ·have g1:(x.call.d==1)=true:=by simp[hd]
  have HEq:Hid ({x.call with t:=2,r:=x.kept.v} =endP x):=(HEn.out.trans (if_pos hd)).symm;clear hd;obtain⟨_,_,k2⟩:=HKb.out;go_upto_region 5 with fail
  clear k2 HKb;have hb0:Below W.heap.size W (W.alloc (.cells #[.int .i64 x.call.p,.int .i64 2,.int .i64 x.call.k,.int .i64 x.call.d,.int .i64 x.call.a,.int .i64 x.call.b,.int .i64 x.kept.v] 54)):=belA (Below.refl _ _) _;have hn0:=heap_alloc_new W (.cells #[.int .i64 x.call.p,.int .i64 2,.int .i64 x.call.k,.int .i64 x.call.d,.int .i64 x.call.a,.int .i64 x.call.b,.int .i64 x.kept.v] 54);have HB0:=hideIt hb0;have HN0:=hideIt hn0;clear hb0 hn0;generalize W.alloc (.cells #[.int .i64 x.call.p,.int .i64 2,.int .i64 x.call.k,.int .i64 x.call.d,.int .i64 x.call.a,.int .i64 x.call.b,.int .i64 x.kept.v] 54)=W1 at*
  have HU:Hid (∀Z,Below W1.heap.size W1 Z→Z.cell? ⟨W.heap.size,0,none⟩=some (.int .i64 x.call.p)∧Z.cell? ⟨W.heap.size,1,none⟩=some (.int .i64 2)∧Z.cell? ⟨W.heap.size,2,none⟩=some (.int .i64 x.call.k)∧Z.cell? ⟨W.heap.size,3,none⟩=some (.int .i64 x.call.d)∧Z.cell? ⟨W.heap.size,4,none⟩=some (.int .i64 x.call.a)∧Z.cell? ⟨W.heap.size,5,none⟩=some (.int .i64 x.call.b)∧Z.cell? ⟨W.heap.size,6,none⟩=some (.int .i64 x.kept.v)):=fun Z hZ=>blkEv (e:= {x.call with t:=2,r:=x.kept.v}) ((hZ.block _ (lt_of_heap HN0.out)).trans HN0.out)
  have HV:Hid (∀Z,Below W1.heap.size W1 Z→Z.cell? ⟨K.C,i*13+10,none⟩=some (.int .i64 x.kept.s.t)∧Z.cell? ⟨K.C,i*13+10+1,none⟩=some (.int .i64 x.kept.s.c)):=fun Z hZ=>⟨(HKt.out Z (belJ HB0.out hZ)).1,(HKt.out Z (belJ HB0.out hZ)).2.1⟩
  have HSe:Hid (∀Z,Below W1.heap.size W1 Z→Calls Tryz.prog 150 #[.pointer (some ⟨K.B,0,none⟩),.agg #[.int .i64 x.call.p,.int .i64 2,.int .i64 x.call.k,.int .i64 x.call.d,.int .i64 x.call.a,.int .i64 x.call.b,.int .i64 x.kept.v],.agg #[.int .i64 x.kept.s.t,.int .i64 x.kept.s.c]] Z fun en W'=>en=.returned (.tuple #[])∧(∃a0:Value,W'.cell? ⟨K.C,i*13,none⟩=some a0∧W'.frozen? ⟨K.C,i*13,none⟩=false)∧StTold w0 K P W (doneP P i) (W'.setCell ⟨K.C,i*13,none⟩ (.int .i64 0))):=fun Z hZ=>HSee.out Z (belJ HB0.out hZ) {x.call with t:=2,r:=x.kept.v} HEq.out
  clear HSee;refine wp_region_L (B:= [7]) (S:=fun _=>True) (T:=fun Z=>Below W1.heap.size W1 Z) (by kernel_rfl) ⟨trivial,(Below.refl _ _).drew⟩ (fun hHeld=>?_);refine tkS 0 ?_ rfl ?_ ?_;rotate_left 1
  ·intro wz _;go_simp;all_goals with_reducible rfl
  simp only[Act.put,p1,p2,p3,p4,p5];refine tkL [7] 1 ?_ rfl ?_ ?_;rotate_left 1
  ·intro wz sb;obtain⟨y0,y1,y2,y3,y4,y5,y6⟩:=HU.out wz sb.2;go_simp;all_goals with_reducible rfl
  simp only[Act.put,p1,p2,p3,p4,p5,p6];refine tkS 2 ?_ rfl ?_ ?_;rotate_left 1
  ·intro wz _;go_simp;all_goals with_reducible rfl
  simp only[Act.put,p1,p2,p3,p4,p5,p6];refine tkS 3 ?_ rfl ?_ ?_;rotate_left 1
  ·intro wz _;go_simp;all_goals with_reducible rfl
  simp only[Act.put,p1,p2,p3,p4,p5,p6];refine tkS 4 ?_ rfl ?_ ?_;rotate_left 1
  ·intro wz _;go_simp;all_goals with_reducible rfl
  simp only[Act.put,p1,p2,p3,p4,p5,p6];refine tkS 5 ?_ rfl ?_ ?_;rotate_left 1
  ·intro wz _;go_simp;all_goals with_reducible rfl
  simp only[Act.put,p1,p2,p3,p4,p5,p6];refine tkL [7] 6 ?_ rfl ?_ ?_;rotate_left 1
  ·intro wz sb;obtain⟨y0,y1⟩:=HV.out wz sb.2;go_simp;all_goals with_reducible rfl
  simp only[Act.put,p1,p2,p3,p4,p5,p6];refine wpAnyL_ready (rs:= [7]) (by kernel_rfl) (by simp) (AllReadyL.last rfl (by kernel_rfl) (fun Q hQ=>?_) AllReadyL.nil);go_simp;refine(HSe.out _ hHeld.2).mono ?_;rintro e W2 ⟨rfl,⟨a0,ha0,hf0⟩,hT⟩;have HT:=hideIt hT;refine hQ.out _ _ trivial (fun _=>?_);clear hQ Q hHeld hT HU HV HSe;refine wpAnyL_done (by kernel_rfl) ?_ _;go_wp2
  go_end0
  exact⟨rfl,HT.out⟩
 ·have g1:(x.call.d==1)=false:=by simp[hd]
  have HEq:Hid ({x.call with t:=2} =endP x):=(HEn.out.trans (if_neg hd)).symm;clear hd;go_upto_region 5 with fail
  clear HKb;have hb0:Below W.heap.size W (W.alloc (.cells #[.int .i64 x.call.p,.int .i64 2,.int .i64 x.call.k,.int .i64 x.call.d,.int .i64 x.call.a,.int .i64 x.call.b,.int .i64 x.call.r] 54)):=belA (Below.refl _ _) _;have hn0:=heap_alloc_new W (.cells #[.int .i64 x.call.p,.int .i64 2,.int .i64 x.call.k,.int .i64 x.call.d,.int .i64 x.call.a,.int .i64 x.call.b,.int .i64 x.call.r] 54);have HB0:=hideIt hb0;have HN0:=hideIt hn0;clear hb0 hn0;generalize W.alloc (.cells #[.int .i64 x.call.p,.int .i64 2,.int .i64 x.call.k,.int .i64 x.call.d,.int .i64 x.call.a,.int .i64 x.call.b,.int .i64 x.call.r] 54)=W1 at*
  have HU:Hid (∀Z,Below W1.heap.size W1 Z→Z.cell? ⟨W.heap.size,0,none⟩=some (.int .i64 x.call.p)∧Z.cell? ⟨W.heap.size,1,none⟩=some (.int .i64 2)∧Z.cell? ⟨W.heap.size,2,none⟩=some (.int .i64 x.call.k)∧Z.cell? ⟨W.heap.size,3,none⟩=some (.int .i64 x.call.d)∧Z.cell? ⟨W.heap.size,4,none⟩=some (.int .i64 x.call.a)∧Z.cell? ⟨W.heap.size,5,none⟩=some (.int .i64 x.call.b)∧Z.cell? ⟨W.heap.size,6,none⟩=some (.int .i64 x.call.r)):=fun Z hZ=>blkEv (e:= {x.call with t:=2}) ((hZ.block _ (lt_of_heap HN0.out)).trans HN0.out)
  have HV:Hid (∀Z,Below W1.heap.size W1 Z→Z.cell? ⟨K.C,i*13+10,none⟩=some (.int .i64 x.kept.s.t)∧Z.cell? ⟨K.C,i*13+10+1,none⟩=some (.int .i64 x.kept.s.c)):=fun Z hZ=>⟨(HKt.out Z (belJ HB0.out hZ)).1,(HKt.out Z (belJ HB0.out hZ)).2.1⟩
  have HSe:Hid (∀Z,Below W1.heap.size W1 Z→Calls Tryz.prog 150 #[.pointer (some ⟨K.B,0,none⟩),.agg #[.int .i64 x.call.p,.int .i64 2,.int .i64 x.call.k,.int .i64 x.call.d,.int .i64 x.call.a,.int .i64 x.call.b,.int .i64 x.call.r],.agg #[.int .i64 x.kept.s.t,.int .i64 x.kept.s.c]] Z fun en W'=>en=.returned (.tuple #[])∧(∃a0:Value,W'.cell? ⟨K.C,i*13,none⟩=some a0∧W'.frozen? ⟨K.C,i*13,none⟩=false)∧StTold w0 K P W (doneP P i) (W'.setCell ⟨K.C,i*13,none⟩ (.int .i64 0))):=fun Z hZ=>HSee.out Z (belJ HB0.out hZ) {x.call with t:=2} HEq.out
  clear HSee;refine wp_region_L (B:= [7]) (S:=fun _=>True) (T:=fun Z=>Below W1.heap.size W1 Z) (by kernel_rfl) ⟨trivial,(Below.refl _ _).drew⟩ (fun hHeld=>?_);refine tkS 0 ?_ rfl ?_ ?_;rotate_left 1
  ·intro wz _;go_simp;all_goals with_reducible rfl
  simp only[Act.put,p1,p2,p3,p4,p5];refine tkL [7] 1 ?_ rfl ?_ ?_;rotate_left 1
  ·intro wz sb;obtain⟨y0,y1,y2,y3,y4,y5,y6⟩:=HU.out wz sb.2;go_simp;all_goals with_reducible rfl
  simp only[Act.put,p1,p2,p3,p4,p5,p6];refine tkS 2 ?_ rfl ?_ ?_;rotate_left 1
  ·intro wz _;go_simp;all_goals with_reducible rfl
  simp only[Act.put,p1,p2,p3,p4,p5,p6];refine tkS 3 ?_ rfl ?_ ?_;rotate_left 1
  ·intro wz _;go_simp;all_goals with_reducible rfl
  simp only[Act.put,p1,p2,p3,p4,p5,p6];refine tkS 4 ?_ rfl ?_ ?_;rotate_left 1
  ·intro wz _;go_simp;all_goals with_reducible rfl
  simp only[Act.put,p1,p2,p3,p4,p5,p6];refine tkS 5 ?_ rfl ?_ ?_;rotate_left 1
  ·intro wz _;go_simp;all_goals with_reducible rfl
  simp only[Act.put,p1,p2,p3,p4,p5,p6];refine tkL [7] 6 ?_ rfl ?_ ?_;rotate_left 1
  ·intro wz sb;obtain⟨y0,y1⟩:=HV.out wz sb.2;go_simp;all_goals with_reducible rfl
  simp only[Act.put,p1,p2,p3,p4,p5,p6];refine wpAnyL_ready (rs:= [7]) (by kernel_rfl) (by simp) (AllReadyL.last rfl (by kernel_rfl) (fun Q hQ=>?_) AllReadyL.nil);go_simp;refine(HSe.out _ hHeld.2).mono ?_;rintro e W2 ⟨rfl,⟨a0,ha0,hf0⟩,hT⟩;have HT:=hideIt hT;refine hQ.out _ _ trivial (fun _=>?_);clear hQ Q hHeld hT HU HV HSe;refine wpAnyL_done (by kernel_rfl) ?_ _;go_wp2
  go_end0
  exact⟨rfl,HT.out⟩
end
end Go.Proofs.YtjpklmighoondaaGreatDoor.St
namespace Go.Proofs.YtjpklmighoondaaGreatDoor.St
open Go.RowKit
section
variable {w0 W W' : World} {K : StK} {P : Pst}
set_option maxHeartbeats 4000000 in
theorem asked_any (h:StoP w0 W K P) (hn7:P.n≤7) (hk8:P.k≤8) (hev:P.evs.length≤9000) (hst:P.sts.length≤9000) {i:Nat} (hi:i < P.k) (hrd:0≤(P.cl i).rd∧(P.cl i).rd≤100000) (hkt:0≤(P.cl i).kept.s.t∧(P.cl i).kept.s.t≤100000):
  Calls Tryz.prog 158 #[.pointer (some ⟨K.B,0,none⟩),.int .i64 (i:Int)] W fun en W'=>en=.returned (.tuple #[])∧StTold w0 K P W (askedP P i) W':=by
 have c8:=h.cells.2.2.2.2.1;have c4:=h.cells.1.2.2.2.2;have hii:(i:Int) < (P.k:Int):=by omega
 have hx:=h.cx i hi;have q3:W.cell? ⟨K.C,i*13+1+3,none⟩=some (.int .i64 (P.cl i).call.d):=hx.call.2.2.2.1;have HP:=hideIt h;by_cases hd:(P.cl i).call.d=2
 ·have g1:((P.cl i).call.d==2)=true:=by simp[hd]
  have hasked:askedP P i=roundP {P with cl:=updP P.cl i {P.cl i with kept:=⟨⟨(P.cl i).kept.s.t+1,i⟩,(P.cl i).call.a⟩}} i 2:=by
   unfold askedP askedX;rw[if_pos (.inl hd),if_pos hd]
  have HT:Hid (∀Z,Below W.heap.size W Z→Z.cell? ⟨K.C,i*13+10,none⟩=some (.int .i64 (P.cl i).kept.s.t)∧Z.cell? ⟨K.C,i*13+1+4,none⟩=some (.int .i64 (P.cl i).call.a)):=fun Z hZ=>⟨((HP.out.below hZ).cx i hi).kept.1,((HP.out.below hZ).cx i hi).call.2.2.2.2.1⟩
  have HG:Hid (∀Z,Below W.heap.size W Z→HdAt Z K.C (i*13+10) (P.cl i).kept∧(∀j,Z.frozen? ⟨K.C,j,none⟩=false)∧Calls Tryz.prog 151 #[.pointer (some ⟨K.B,0,none⟩),.int .i64 (i:Int),.int .i64 2] (((Z.setCell ⟨K.C,i*13+10,none⟩ (.int .i64 ((P.cl i).kept.s.t+1))).setCell ⟨K.C,i*13+10+1,none⟩ (.int .i64 (i:Int))).setCell ⟨K.C,i*13+10+2,none⟩ (.int .i64 (P.cl i).call.a)) fun en W'=>en=.returned (.tuple #[])∧StTold w0 K P W (askedP P i) W'):=fun Z hZ=>by
   have hZP:=HP.out.below hZ;obtain⟨h1,h2⟩:=hZP.setKept hi ⟨⟨(P.cl i).kept.s.t+1,i⟩,(P.cl i).call.a⟩;refine⟨(hZP.cx i hi).kept,hZP.fzC,?_⟩;have hg:=goRound_any h1 hn7 hk8 hi (by show 0≤(updP P.cl i _ i).rd∧(updP P.cl i _ i).rd≤100000;rw[updP_same];exact hrd) 2;refine hg.mono fun en W' ⟨e1,K3,e2,e3⟩=>⟨e1,K3,by rw[hasked];exact e2,(SFr.below hZ).trans (h2.trans e3)⟩
  have hw:IntKind.i64.wrap ((P.cl i).kept.s.t+1)=(P.cl i).kept.s.t+1:=IntWalk.i64_in _ (by omega);clear h hx hasked hd;generalize askedP P i=Pend at*
  generalize P.cl i=x at*
  go_enter Tryz.func158,Tryz.ntmps158
  go_wp2_with fail
  refine wp_region_L (B:= [18]) (S:=fun _=>True) (T:=fun Z=>Below W.heap.size W Z) (by kernel_rfl) ⟨trivial,(Below.refl _ _).drew⟩ (fun hHeld=>?_);refine tkS 0 ?_ rfl ?_ ?_;rotate_left 1
  ·intro wz _;go_simp;all_goals with_reducible rfl
  simp only[Act.put,p1,p2,p3,p4,p5];refine tkS 1 ?_ rfl ?_ ?_;rotate_left 1
  ·intro wz _;go_simp;all_goals with_reducible rfl
  simp only[Act.put,p1,p2,p3,p4,p5,p6];refine tkS 2 ?_ rfl ?_ ?_;rotate_left 1
  ·intro wz _;go_simp;all_goals with_reducible rfl
  simp only[Act.put,p1,p2,p3,p4,p5,p6];refine tkS 3 ?_ rfl ?_ ?_;rotate_left 1
  ·intro wz _;go_simp;all_goals with_reducible rfl
  simp only[Act.put,p1,p2,p3,p4,p5,p6];refine tkS 4 ?_ rfl ?_ ?_;rotate_left 1
  ·intro wz _;go_simp;all_goals with_reducible rfl
  simp only[Act.put,p1,p2,p3,p4,p5,p6];refine tkS 5 ?_ rfl ?_ ?_;rotate_left 1
  ·intro wz _;go_simp;all_goals with_reducible rfl
  simp only[Act.put,p1,p2,p3,p4,p5,p6];refine tkL [7,9,15,16,17,18] 6 ?_ rfl ?_ ?_;rotate_left 1
  ·intro wz sb;obtain⟨y0,y1⟩:=HT.out wz sb.2;go_simp;all_goals with_reducible rfl
  simp only[Act.put,p1,p2,p3,p4,p5,p6];refine tkS 7 ?_ rfl ?_ ?_;rotate_left 1
  ·intro wz _;go_simp;all_goals with_reducible rfl
  simp only[Act.put,p1,p2,p3,p4,p5,p6];refine tkS 8 ?_ rfl ?_ ?_;rotate_left 1
  ·intro wz _;go_simp;all_goals with_reducible rfl
  simp only[Act.put,p1,p2,p3,p4,p5,p6];refine tkS 9 ?_ rfl ?_ ?_;rotate_left 1
  ·intro wz _;go_simp;all_goals with_reducible rfl
  simp only[Act.put,p1,p2,p3,p4,p5,p6];refine tkS 10 ?_ rfl ?_ ?_;rotate_left 1
  ·intro wz _;go_simp;all_goals with_reducible rfl
  simp only[Act.put,p1,p2,p3,p4,p5,p6];refine tkS 11 ?_ rfl ?_ ?_;rotate_left 1
  ·intro wz _;go_simp;all_goals with_reducible rfl
  simp only[Act.put,p1,p2,p3,p4,p5,p6];refine tkS 12 ?_ rfl ?_ ?_;rotate_left 1
  ·intro wz _;go_simp;all_goals with_reducible rfl
  simp only[Act.put,p1,p2,p3,p4,p5,p6];refine tkS 13 ?_ rfl ?_ ?_;rotate_left 1
  ·intro wz _;go_simp;all_goals with_reducible rfl
  simp only[Act.put,p1,p2,p3,p4,p5,p6];refine tkL [15,16,17,18] 14 ?_ rfl ?_ ?_;rotate_left 1
  ·intro wz sb;obtain⟨y0,y1⟩:=HT.out wz sb.2;go_simp;all_goals with_reducible rfl
  simp only[Act.put,p1,p2,p3,p4,p5,p6];refine tkS 15 ?_ rfl ?_ ?_;rotate_left 1
  ·intro wz _;go_simp;all_goals with_reducible rfl
  simp only[Act.put,p1,p2,p3,p4,p5,p6];refine tkS 16 ?_ rfl ?_ ?_;rotate_left 1
  ·intro wz _;go_simp;all_goals with_reducible rfl
  simp only[Act.put,p1,p2,p3,p4,p5,p6];refine tkS 17 ?_ rfl ?_ ?_;rotate_left 1
  ·intro wz _;go_simp;all_goals with_reducible rfl
  simp only[Act.put,p1,p2,p3,p4,p5,p6];obtain⟨⟨k0,k1,k2⟩,fz,hG⟩:=HG.out _ hHeld.2;have HGc:=hideIt hG;generalize W.drew=Y0 at*
  refine wpAnyL_ready (rs:= [18]) (by kernel_rfl) (by simp) (AllReadyL.last rfl (by kernel_rfl) (fun Q hQ=>?_) AllReadyL.nil);go_simp;refine hQ.out _ _ trivial (fun _=>?_);clear hQ Q hHeld HG HT k0 k1 k2 fz hG;refine wpAnyL_done (by kernel_rfl) ?_ _;go_wp2_with fail
  refine HGc.out.mono ?_;rintro e W2 ⟨rfl,hT⟩;have HTd:=hideIt hT;clear hT HGc;go_wp2;exact bodyPost_ret (results_none rfl _ _ _) rfl ⟨rfl,HTd.out⟩
 ·have g1:((P.cl i).call.d==2)=false:=by simp[hd]
  cases hb:P.back with
  | true=>
   have hasked:askedP P i=roundP P i 2:=by
    unfold askedP askedX;rw[if_pos (.inr hb),if_neg hd,updP_self]
   have HG:=hideIt (goRound_any h hn7 hk8 hi hrd 2);rw[hb] at c4;rw[hasked];clear h hx hasked hd;generalize P.cl i=x at*
   go_enter Tryz.func158,Tryz.ntmps158
   go_wp2_with fail
   refine HG.out.mono ?_;rintro e W2 ⟨rfl,hT⟩;have HTd:=hideIt hT;clear hT HG;go_wp2;exact bodyPost_ret (results_none rfl _ _ _) rfl ⟨rfl,HTd.out⟩
  | false=>
   have hasked:askedP P i=doneP P i:=by
    unfold askedP;rw[if_neg (fun h=>h.elim hd fun h=>by rw[hb] at h;cases h)]
   have HG:=hideIt (done_any h hev hst hi);rw[hb] at c4;rw[hasked];clear h hx hasked hd;generalize P.cl i=x at*
   go_enter Tryz.func158,Tryz.ntmps158
   go_wp2_with fail
   refine HG.out.mono ?_;rintro e W2 ⟨rfl,hT⟩;have HTd:=hideIt hT;clear hT HG;go_wp2
   go_end0
   exact⟨rfl,HTd.out⟩
end
end Go.Proofs.YtjpklmighoondaaGreatDoor.St
