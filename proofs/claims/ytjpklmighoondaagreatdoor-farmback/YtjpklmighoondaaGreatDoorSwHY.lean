/-
  The program's store, walked: answer.
  The program's store, walked: Drop, Double, GiveUp.
  The program's store, walked: GiveUp.
-/
import Derived.Test.YtjpklmighoondaaGreatDoorFieldsQY
import Derived.Test.YtjpklmighoondaaGreatDoorSwFY
set_option maxRecDepth 100000
namespace Go.Proofs.YtjpklmighoondaaGreatDoor.St
open Go.RowKit
theorem upd2_self {α:Type} (f:Nat→Nat→α) (i q:Nat):upd2 f i q (f i q)=f:=by
 funext j s
 unfold upd2
 split
 ·next h=>rw[h.1,h.2]
 ·rfl
section
variable {w0 W W' : World} {K : StK} {P : Pst}
theorem StoP.setHas (h:StoP w0 W K P) {i q:Nat} (hi:i < P.n) (hq:q < 8) (y:Hd):StoP w0 (((W.setCell ⟨K.N,i*24+q*3,none⟩ (.int .i64 y.s.t)).setCell ⟨K.N,i*24+q*3+1,none⟩ (.int .i64 y.s.c)).setCell ⟨K.N,i*24+q*3+2,none⟩ (.int .i64 y.v)) K {P with has:=upd2 P.has i q y} ∧SFr K P.k W (((W.setCell ⟨K.N,i*24+q*3,none⟩ (.int .i64 y.s.t)).setCell ⟨K.N,i*24+q*3+1,none⟩ (.int .i64 y.s.c)).setCell ⟨K.N,i*24+q*3+2,none⟩ (.int .i64 y.v)) K:=by
 have hx:=h.nx i q hi hq;refine h.setN hi hq ((((OnlyC.refl h.nb).set (by omega) _).set (by omega) _).set (by omega) _) ⟨?_,?_,?_⟩
 ·rw[cell_set_ne (by omega),cell_set_ne (by omega)];exact cell_set_eq hx.1 _
 ·rw[cell_set_ne (by omega)];exact cell_set_eq ((cell_set_ne (by omega) _).trans hx.2.1) _
 ·exact cell_set_eq ((cell_set_ne (by omega) _).trans ((cell_set_ne (by omega) _).trans hx.2.2)) _
set_option maxHeartbeats 8000000 in
theorem answer_any (h:StoP w0 W K P) {i q:Nat} (hi:i < P.n) (hq:q < 8) (fr rd t c v:Int) (tells:Bool):
  Calls Tryz.prog 104 #[.pointer (some ⟨K.B,0,none⟩),.agg #[.int .i64 fr,.int .i64 (i:Int),.int .i64 (q:Int),.int .i64 rd,.bool tells,.int .i64 t,.int .i64 c,.int .i64 v]] W fun en W'=>en=.returned (.tuple #[])∧StTold w0 K P W (answerP P ⟨fr,(i:Int),(q:Int),rd,tells,t,c,v⟩) W':=by
 have hb0:Below W.heap.size W (W.alloc (.cells #[.int .i64 fr,.int .i64 (i:Int),.int .i64 (q:Int),.int .i64 rd,.bool tells,.int .i64 t,.int .i64 c,.int .i64 v] 202)):=belA (Below.refl _ _) _;have hm0:=heap_alloc_new W (.cells #[.int .i64 fr,.int .i64 (i:Int),.int .i64 (q:Int),.int .i64 rd,.bool tells,.int .i64 t,.int .i64 c,.int .i64 v] 202);have hans:answerP P ⟨fr,(i:Int),(q:Int),rd,tells,t,c,v⟩=sendP {P with has:=upd2 P.has i q (if tells=true then newerH (P.has i q) ⟨⟨t,c⟩,v⟩ else P.has i q)} ⟨(i:Int),fr,(q:Int),rd,false,(if tells=true then newerH (P.has i q) ⟨⟨t,c⟩,v⟩ else P.has i q).s.t,(if tells=true then newerH (P.has i q) ⟨⟨t,c⟩,v⟩ else P.has i q).s.c,(if tells=true then newerH (P.has i q) ⟨⟨t,c⟩,v⟩ else P.has i q).v⟩:=by
  unfold answerP;simp only[Int.toNat_natCast];rfl
 have HCo:=hideIt hans;have HP1:=hideIt (h.below hb0);have HF1:Hid (SFr K P.k W _ K):=SFr.below hb0;have HM:=hideIt hm0;have hii:(i:Int) < (P.n:Int):=by omega
 have hqq:(q:Int) < 8:=by omega
 have hCB:K.N < W.heap.size:=by obtain⟨_,e⟩:=h.nb;exact lt_of_heap e
 clear h hb0 hm0 hans;generalize answerP P ⟨fr,(i:Int),(q:Int),rd,tells,t,c,v⟩=Pend at*
 go_enter Tryz.func104,Tryz.ntmps104
 go_upto_region 1 with fail
 generalize W.alloc _=W1 at*
 have HMb:Hid (∀Z:World,Z.heap[W.heap.size]?=some (.cells #[.int .i64 fr,.int .i64 (i:Int),.int .i64 (q:Int),.int .i64 rd,.bool tells,.int .i64 t,.int .i64 c,.int .i64 v] 202)→Z.cell? ⟨W.heap.size,0,none⟩=some (.int .i64 fr)∧Z.cell? ⟨W.heap.size,1,none⟩=some (.int .i64 (i:Int))∧Z.cell? ⟨W.heap.size,2,none⟩=some (.int .i64 (q:Int))∧Z.cell? ⟨W.heap.size,3,none⟩=some (.int .i64 rd)∧Z.cell? ⟨W.heap.size,4,none⟩=some (.bool tells)∧Z.cell? ⟨W.heap.size,5,none⟩=some (.int .i64 t)∧Z.cell? ⟨W.heap.size,6,none⟩=some (.int .i64 c)∧Z.cell? ⟨W.heap.size,7,none⟩=some (.int .i64 v)):=fun Z hZ=>blkMq (m:=⟨fr,(i:Int),(q:Int),rd,tells,t,c,v⟩) hZ
 obtain⟨m0,m1,m2,m3,m4,m5,m6,m7⟩:=HMb.out W1 HM.out;have c0:=HP1.out.cells.2.2.2.1
 go_quiet (fail)
 generalize hV2:W1.drewN _=V2;have HP2:Hid (StoP w0 V2 K P):=by rw[←hV2];exact HP1.out.below (below_drewN (Below.refl _ _) _)
 have HF2:Hid (SFr K P.k W V2 K):=by rw[←hV2];exact HF1.out.trans (SFr.below (below_drewN (Below.refl _ _) _))
 have HM2:Hid (V2.heap[W.heap.size]?=some (.cells #[.int .i64 fr,.int .i64 (i:Int),.int .i64 (q:Int),.int .i64 rd,.bool tells,.int .i64 t,.int .i64 c,.int .i64 v] 202)):=by rw[←hV2];exact HM.out
 clear hV2 m0 m1 m2 m3 m4 m5 m6 m7 c0 HP1 HF1 HM;obtain⟨m0,m1,m2,m3,m4,m5,m6,m7⟩:=HMb.out V2 HM2.out;cases tells with
 | false=>
  generalize hy:P.has i q=y;have HE:Hid (Pend=sendP {P with has:=upd2 P.has i q y} ⟨(i:Int),fr,(q:Int),rd,false,y.s.t,y.s.c,y.v⟩):=by
   rw[←hy];exact HCo.out
  have HP4:Hid (StoP w0 V2 K {P with has:=upd2 P.has i q y}):=by rw[←hy,upd2_self];exact HP2.out
  have HF4:=HF2;have HM4:=HM2;clear hy HCo HP2 HF2 HM2;go_wp2_with fail
  clear m0 m1 m2 m3 m4 m5 m6 m7;have HU:Hid (∀Z,Below V2.heap.size V2 Z→Z.cell? ⟨W.heap.size,0,none⟩=some (.int .i64 fr)∧Z.cell? ⟨W.heap.size,1,none⟩=some (.int .i64 (i:Int))∧Z.cell? ⟨W.heap.size,2,none⟩=some (.int .i64 (q:Int))∧Z.cell? ⟨W.heap.size,3,none⟩=some (.int .i64 rd)∧Z.cell? ⟨W.heap.size,4,none⟩=some (.bool false)∧Z.cell? ⟨W.heap.size,5,none⟩=some (.int .i64 t)∧Z.cell? ⟨W.heap.size,6,none⟩=some (.int .i64 c)∧Z.cell? ⟨W.heap.size,7,none⟩=some (.int .i64 v)):=fun Z hZ=>HMb.out Z ((hZ.block _ (lt_of_heap HM4.out)).trans HM4.out)
  have HT:Hid (∀Z,Below V2.heap.size V2 Z→Z.cell? ⟨K.N,i*24+q*3,none⟩=some (.int .i64 y.s.t)∧Z.cell? ⟨K.N,i*24+q*3+1,none⟩=some (.int .i64 y.s.c)∧Z.cell? ⟨K.N,i*24+q*3+2,none⟩=some (.int .i64 y.v)):=fun Z hZ=>by
   have:=(HP4.out.below hZ).nx i q hi hq;simp only[upd2,and_self,if_true] at this;exact this
  have HSe:Hid (∀Z,Below V2.heap.size V2 Z→Calls Tryz.prog 155 #[.pointer (some ⟨K.B,0,none⟩),.int .i64 (i:Int),.int .i64 fr,.agg #[.int .i64 (q:Int),.int .i64 rd,.bool false,.int .i64 y.s.t,.int .i64 y.s.c,.int .i64 y.v]] Z fun en W'=>en=.returned (.tuple #[])∧StTold w0 K P W Pend W'):=fun Z hZ=>by
   refine(sendS_any (HP4.out.below hZ) ⟨(i:Int),fr,(q:Int),rd,false,y.s.t,y.s.c,y.v⟩).mono fun en W' ⟨h1,K1,h2,h3⟩=>⟨h1,K1,?_,HF4.out.trans ((SFr.below hZ).trans h3)⟩
   rw[HE.out];exact h2
  clear HP4 HF4 HE HM4 HMb;refine wp_region_L (B:= [15]) (S:=fun _=>True) (T:=fun Z=>Below V2.heap.size V2 Z) (by kernel_rfl) ⟨trivial,(Below.refl _ _).drew⟩ (fun hHeld=>?_);refine tkS 0 ?_ rfl ?_ ?_;rotate_left 1
  ·intro wz _;go_simp;all_goals with_reducible rfl
  simp only[Act.put,p1,p2,p3,p4,p5];refine tkS 1 ?_ rfl ?_ ?_;rotate_left 1
  ·intro wz _;go_simp;all_goals with_reducible rfl
  simp only[Act.put,p1,p2,p3,p4,p5,p6];refine tkL [15] 2 ?_ rfl ?_ ?_;rotate_left 1
  ·intro wz sb;obtain⟨y0,y1,y2,y3,y4,y5,y6,y7⟩:=HU.out wz sb.2;go_simp;all_goals with_reducible rfl
  simp only[Act.put,p1,p2,p3,p4,p5,p6];refine tkS 3 ?_ rfl ?_ ?_;rotate_left 1
  ·intro wz _;go_simp;all_goals with_reducible rfl
  simp only[Act.put,p1,p2,p3,p4,p5,p6];refine tkL [15] 4 ?_ rfl ?_ ?_;rotate_left 1
  ·intro wz sb;obtain⟨y0,y1,y2,y3,y4,y5,y6,y7⟩:=HU.out wz sb.2;go_simp;all_goals with_reducible rfl
  simp only[Act.put,p1,p2,p3,p4,p5,p6];refine tkS 5 ?_ rfl ?_ ?_;rotate_left 1
  ·intro wz _;go_simp;all_goals with_reducible rfl
  simp only[Act.put,p1,p2,p3,p4,p5,p6];refine tkS 6 ?_ rfl ?_ ?_;rotate_left 1
  ·intro wz _;go_simp;all_goals with_reducible rfl
  simp only[Act.put,p1,p2,p3,p4,p5,p6];refine tkL [14,15] 7 ?_ rfl ?_ ?_;rotate_left 1
  ·intro wz sb;obtain⟨y0,y1,y2,y3,y4,y5,y6,y7⟩:=HU.out wz sb.2;go_simp;all_goals with_reducible rfl
  simp only[Act.put,p1,p2,p3,p4,p5,p6];refine tkS 8 ?_ rfl ?_ ?_;rotate_left 1
  ·intro wz _;go_simp;all_goals with_reducible rfl
  simp only[Act.put,p1,p2,p3,p4,p5,p6];refine tkS 9 ?_ rfl ?_ ?_;rotate_left 1
  ·intro wz _;go_simp;all_goals with_reducible rfl
  simp only[Act.put,p1,p2,p3,p4,p5,p6];refine tkL [14,15] 10 ?_ rfl ?_ ?_;rotate_left 1
  ·intro wz sb;obtain⟨y0,y1,y2,y3,y4,y5,y6,y7⟩:=HU.out wz sb.2;go_simp;all_goals with_reducible rfl
  simp only[Act.put,p1,p2,p3,p4,p5,p6];refine tkS 11 ?_ rfl ?_ ?_;rotate_left 1
  ·intro wz _;go_simp;all_goals with_reducible rfl
  simp only[Act.put,p1,p2,p3,p4,p5,p6];refine tkS 12 ?_ rfl ?_ ?_;rotate_left 1
  ·intro wz _;go_simp;all_goals with_reducible rfl
  simp only[Act.put,p1,p2,p3,p4,p5,p6];refine tkL [14,15] 13 ?_ rfl ?_ ?_;rotate_left 1
  ·intro wz sb;obtain⟨y0,y1,y2⟩:=HT.out wz sb.2;go_simp;all_goals with_reducible rfl
  simp only[Act.put,p1,p2,p3,p4,p5,p6];refine tkS 14 ?_ rfl ?_ ?_;rotate_left 1
  ·intro wz _;go_simp;all_goals with_reducible rfl
  simp only[Act.put,p1,p2,p3,p4,p5,p6];refine wpAnyL_ready (rs:= [15]) (by kernel_rfl) (by simp) (AllReadyL.last rfl (by kernel_rfl) (fun Q hQ=>?_) AllReadyL.nil);go_simp;refine(HSe.out _ hHeld.2).mono ?_;rintro e W5 ⟨rfl,hT⟩;have HTd:=hideIt hT;refine hQ.out _ _ trivial (fun _=>?_);clear hQ Q hHeld hT HU HT HSe;refine wpAnyL_done (by kernel_rfl) ?_ _;go_wp2
  go_end0
  exact⟨rfl,HTd.out⟩
 | true=>
  have HNw:Hid (∀Z,Calls Tryz.prog 154 #[.agg #[.int .i64 (P.has i q).s.t,.int .i64 (P.has i q).s.c,.int .i64 (P.has i q).v],.agg #[.int .i64 t,.int .i64 c,.int .i64 v]] Z fun e w'=>e=.returned (.agg #[.int .i64 (newerH (P.has i q) ⟨⟨t,c⟩,v⟩).s.t,.int .i64 (newerH (P.has i q) ⟨⟨t,c⟩,v⟩).s.c,.int .i64 (newerH (P.has i q) ⟨⟨t,c⟩,v⟩).v])∧Below Z.heap.size Z w'):=fun Z=>newer_any (P.has i q) ⟨⟨t,c⟩,v⟩ Z
  have HT:Hid (∀Z,Below V2.heap.size V2 Z→Z.cell? ⟨K.N,i*24+q*3,none⟩=some (.int .i64 (P.has i q).s.t)∧Z.cell? ⟨K.N,i*24+q*3+1,none⟩=some (.int .i64 (P.has i q).s.c)∧Z.cell? ⟨K.N,i*24+q*3+2,none⟩=some (.int .i64 (P.has i q).v)):=fun Z hZ=>(HP2.out.below hZ).nx i q hi hq
  have HFz:Hid (∀Z,Below V2.heap.size V2 Z→∀j,Z.frozen? ⟨K.N,j,none⟩=false):=fun Z hZ j=>by
   obtain⟨_,e⟩:=(HP2.out.below hZ).nb;exact frozen_of_row _ _ _ _ 115 e
  have HU:Hid (∀Z,Below V2.heap.size V2 Z→Z.cell? ⟨W.heap.size,5,none⟩=some (.int .i64 t)∧Z.cell? ⟨W.heap.size,6,none⟩=some (.int .i64 c)∧Z.cell? ⟨W.heap.size,7,none⟩=some (.int .i64 v)):=fun Z hZ=>by
   obtain⟨_,_,_,_,_,h5,h6,h7⟩:=HMb.out Z ((hZ.block _ (lt_of_heap HM2.out)).trans HM2.out);exact⟨h5,h6,h7⟩
  generalize newerH (P.has i q) ⟨⟨t,c⟩,v⟩=y at*
  have HE:Hid (Pend=sendP {P with has:=upd2 P.has i q y} ⟨(i:Int),fr,(q:Int),rd,false,y.s.t,y.s.c,y.v⟩):=HCo.out;have HEnd:Hid (∀Z,Below V2.heap.size V2 Z→StoP w0 (((Z.setCell ⟨K.N,i*24+q*3,none⟩ (.int .i64 y.s.t)).setCell ⟨K.N,i*24+q*3+1,none⟩ (.int .i64 y.s.c)).setCell ⟨K.N,i*24+q*3+2,none⟩ (.int .i64 y.v)) K {P with has:=upd2 P.has i q y} ∧SFr K P.k W (((Z.setCell ⟨K.N,i*24+q*3,none⟩ (.int .i64 y.s.t)).setCell ⟨K.N,i*24+q*3+1,none⟩ (.int .i64 y.s.c)).setCell ⟨K.N,i*24+q*3+2,none⟩ (.int .i64 y.v)) K∧(((Z.setCell ⟨K.N,i*24+q*3,none⟩ (.int .i64 y.s.t)).setCell ⟨K.N,i*24+q*3+1,none⟩ (.int .i64 y.s.c)).setCell ⟨K.N,i*24+q*3+2,none⟩ (.int .i64 y.v)).heap[W.heap.size]?=some (.cells #[.int .i64 fr,.int .i64 (i:Int),.int .i64 (q:Int),.int .i64 rd,.bool true,.int .i64 t,.int .i64 c,.int .i64 v] 202)):=fun Z hZ=>by
   obtain⟨h1,h2⟩:=(HP2.out.below hZ).setHas hi hq y;refine⟨h1,HF2.out.trans ((SFr.below hZ).trans h2),?_⟩;rw[Below.heap_setCell _ ⟨K.N,_,none⟩ _ _ (show W.heap.size≠K.N by omega),Below.heap_setCell _ ⟨K.N,_,none⟩ _ _ (show W.heap.size≠K.N by omega),Below.heap_setCell _ ⟨K.N,_,none⟩ _ _ (show W.heap.size≠K.N by omega)];exact(hZ.block _ (lt_of_heap HM2.out)).trans HM2.out
  clear HCo HP2 HF2 HM2;go_wp2_with fail
  clear m0 m1 m2 m3 m4 m5 m6 m7;refine wp_region_L (B:= [7,9]) (S:=fun _=>True) (T:=fun Z=>Below V2.heap.size V2 Z) (by kernel_rfl) ⟨trivial,(Below.refl _ _).drew⟩ (fun hHeld=>?_);refine tkS 0 ?_ rfl ?_ ?_;rotate_left 1
  ·intro wz _;go_simp;all_goals with_reducible rfl
  simp only[Act.put,p1,p2,p3,p4,p5];refine tkS 1 ?_ rfl ?_ ?_;rotate_left 1
  ·intro wz _;go_simp;all_goals with_reducible rfl
  simp only[Act.put,p1,p2,p3,p4,p5,p6];refine tkS 2 ?_ rfl ?_ ?_;rotate_left 1
  ·intro wz _;go_simp;all_goals with_reducible rfl
  simp only[Act.put,p1,p2,p3,p4,p5,p6];refine tkL [7,8,9] 3 ?_ rfl ?_ ?_;rotate_left 1
  ·intro wz sb;obtain⟨y0,y1,y2⟩:=HT.out wz sb.2;go_simp;all_goals with_reducible rfl
  simp only[Act.put,p1,p2,p3,p4,p5,p6];refine tkS 4 ?_ rfl ?_ ?_;rotate_left 1
  ·intro wz _;go_simp;all_goals with_reducible rfl
  simp only[Act.put,p1,p2,p3,p4,p5,p6];refine tkS 5 ?_ rfl ?_ ?_;rotate_left 1
  ·intro wz _;go_simp;all_goals with_reducible rfl
  simp only[Act.put,p1,p2,p3,p4,p5,p6];refine tkL [7,8,9] 6 ?_ rfl ?_ ?_;rotate_left 1
  ·intro wz sb;obtain⟨y0,y1,y2⟩:=HU.out wz sb.2;go_simp;all_goals with_reducible rfl
  simp only[Act.put,p1,p2,p3,p4,p5,p6];generalize V2.drew=Y0 at hHeld ⊢;refine wpAnyL_ready (rs:= [7]) (by kernel_rfl) (by simp) (AllReadyL.last rfl (by kernel_rfl) (fun Q hQ=>?_) AllReadyL.nil);go_simp;refine(HNw.out _).mono ?_;rintro e Y1 ⟨rfl,hb1⟩;have hb2:=belJ hHeld.2 hb1;obtain⟨k0,k1,k2⟩:=HT.out _ hb2;have fz:=HFz.out _ hb2;obtain⟨hP4,hF4,hM4⟩:=HEnd.out _ hb2;have HP4:=hideIt hP4;have HF4:=hideIt hF4;have HM4:=hideIt hM4;refine hQ.out _ _ trivial (fun _=>?_);clear hQ Q hHeld hb1 hb2 hP4 hF4 hM4 HEnd HFz HU HT HNw;refine tkE 8 ?_ rfl ?_ ?_;rotate_left 1
  ·intro wz _;go_simp;all_goals with_reducible rfl
  simp only[Act.put,p1,p2,p3,p4,p5,p6];refine wpAnyL_ready (rs:= [9]) (by kernel_rfl) (by simp) (AllReadyL.last rfl (by kernel_rfl) (fun Q hQ=>?_) AllReadyL.nil);go_simp;refine hQ.out _ _ trivial (fun _=>?_);clear hQ Q k0 k1 k2 fz;refine wpAnyL_done (by kernel_rfl) ?_ _;generalize World.setCell _ _ _=W4 at*
  go_wp2_with fail
  have HU:Hid (∀Z,Below W4.heap.size W4 Z→Z.cell? ⟨W.heap.size,0,none⟩=some (.int .i64 fr)∧Z.cell? ⟨W.heap.size,1,none⟩=some (.int .i64 (i:Int))∧Z.cell? ⟨W.heap.size,2,none⟩=some (.int .i64 (q:Int))∧Z.cell? ⟨W.heap.size,3,none⟩=some (.int .i64 rd)∧Z.cell? ⟨W.heap.size,4,none⟩=some (.bool true)∧Z.cell? ⟨W.heap.size,5,none⟩=some (.int .i64 t)∧Z.cell? ⟨W.heap.size,6,none⟩=some (.int .i64 c)∧Z.cell? ⟨W.heap.size,7,none⟩=some (.int .i64 v)):=fun Z hZ=>HMb.out Z ((hZ.block _ (lt_of_heap HM4.out)).trans HM4.out)
  have HT:Hid (∀Z,Below W4.heap.size W4 Z→Z.cell? ⟨K.N,i*24+q*3,none⟩=some (.int .i64 y.s.t)∧Z.cell? ⟨K.N,i*24+q*3+1,none⟩=some (.int .i64 y.s.c)∧Z.cell? ⟨K.N,i*24+q*3+2,none⟩=some (.int .i64 y.v)):=fun Z hZ=>by
   have:=(HP4.out.below hZ).nx i q hi hq;simp only[upd2,and_self,if_true] at this;exact this
  have HSe:Hid (∀Z,Below W4.heap.size W4 Z→Calls Tryz.prog 155 #[.pointer (some ⟨K.B,0,none⟩),.int .i64 (i:Int),.int .i64 fr,.agg #[.int .i64 (q:Int),.int .i64 rd,.bool false,.int .i64 y.s.t,.int .i64 y.s.c,.int .i64 y.v]] Z fun en W'=>en=.returned (.tuple #[])∧StTold w0 K P W Pend W'):=fun Z hZ=>by
   refine(sendS_any (HP4.out.below hZ) ⟨(i:Int),fr,(q:Int),rd,false,y.s.t,y.s.c,y.v⟩).mono fun en W' ⟨h1,K1,h2,h3⟩=>⟨h1,K1,?_,HF4.out.trans ((SFr.below hZ).trans h3)⟩
   rw[HE.out];exact h2
  clear HP4 HF4 HE HM4 HMb;refine wp_region_L (B:= [15]) (S:=fun _=>True) (T:=fun Z=>Below W4.heap.size W4 Z) (by kernel_rfl) ⟨trivial,(Below.refl _ _).drew⟩ (fun hHeld=>?_);refine tkS 0 ?_ rfl ?_ ?_;rotate_left 1
  ·intro wz _;go_simp;all_goals with_reducible rfl
  simp only[Act.put,p1,p2,p3,p4,p5];refine tkS 1 ?_ rfl ?_ ?_;rotate_left 1
  ·intro wz _;go_simp;all_goals with_reducible rfl
  simp only[Act.put,p1,p2,p3,p4,p5,p6];refine tkL [15] 2 ?_ rfl ?_ ?_;rotate_left 1
  ·intro wz sb;obtain⟨y0,y1,y2,y3,y4,y5,y6,y7⟩:=HU.out wz sb.2;go_simp;all_goals with_reducible rfl
  simp only[Act.put,p1,p2,p3,p4,p5,p6];refine tkS 3 ?_ rfl ?_ ?_;rotate_left 1
  ·intro wz _;go_simp;all_goals with_reducible rfl
  simp only[Act.put,p1,p2,p3,p4,p5,p6];refine tkL [15] 4 ?_ rfl ?_ ?_;rotate_left 1
  ·intro wz sb;obtain⟨y0,y1,y2,y3,y4,y5,y6,y7⟩:=HU.out wz sb.2;go_simp;all_goals with_reducible rfl
  simp only[Act.put,p1,p2,p3,p4,p5,p6];refine tkS 5 ?_ rfl ?_ ?_;rotate_left 1
  ·intro wz _;go_simp;all_goals with_reducible rfl
  simp only[Act.put,p1,p2,p3,p4,p5,p6];refine tkS 6 ?_ rfl ?_ ?_;rotate_left 1
  ·intro wz _;go_simp;all_goals with_reducible rfl
  simp only[Act.put,p1,p2,p3,p4,p5,p6];refine tkL [14,15] 7 ?_ rfl ?_ ?_;rotate_left 1
  ·intro wz sb;obtain⟨y0,y1,y2,y3,y4,y5,y6,y7⟩:=HU.out wz sb.2;go_simp;all_goals with_reducible rfl
  simp only[Act.put,p1,p2,p3,p4,p5,p6];refine tkS 8 ?_ rfl ?_ ?_;rotate_left 1
  ·intro wz _;go_simp;all_goals with_reducible rfl
  simp only[Act.put,p1,p2,p3,p4,p5,p6];refine tkS 9 ?_ rfl ?_ ?_;rotate_left 1
  ·intro wz _;go_simp;all_goals with_reducible rfl
  simp only[Act.put,p1,p2,p3,p4,p5,p6];refine tkL [14,15] 10 ?_ rfl ?_ ?_;rotate_left 1
  ·intro wz sb;obtain⟨y0,y1,y2,y3,y4,y5,y6,y7⟩:=HU.out wz sb.2;go_simp;all_goals with_reducible rfl
  simp only[Act.put,p1,p2,p3,p4,p5,p6];refine tkS 11 ?_ rfl ?_ ?_;rotate_left 1
  ·intro wz _;go_simp;all_goals with_reducible rfl
  simp only[Act.put,p1,p2,p3,p4,p5,p6];refine tkS 12 ?_ rfl ?_ ?_;rotate_left 1
  ·intro wz _;go_simp;all_goals with_reducible rfl
  simp only[Act.put,p1,p2,p3,p4,p5,p6];refine tkL [14,15] 13 ?_ rfl ?_ ?_;rotate_left 1
  ·intro wz sb;obtain⟨y0,y1,y2⟩:=HT.out wz sb.2;go_simp;all_goals with_reducible rfl
  simp only[Act.put,p1,p2,p3,p4,p5,p6];refine tkS 14 ?_ rfl ?_ ?_;rotate_left 1
  ·intro wz _;go_simp;all_goals with_reducible rfl
  simp only[Act.put,p1,p2,p3,p4,p5,p6];refine wpAnyL_ready (rs:= [15]) (by kernel_rfl) (by simp) (AllReadyL.last rfl (by kernel_rfl) (fun Q hQ=>?_) AllReadyL.nil);go_simp;refine(HSe.out _ hHeld.2).mono ?_;rintro e W5 ⟨rfl,hT⟩;have HTd:=hideIt hT;refine hQ.out _ _ trivial (fun _=>?_);clear hQ Q hHeld hT HU HT HSe;refine wpAnyL_done (by kernel_rfl) ?_ _;go_wp2
  go_end0
  exact⟨rfl,HTd.out⟩
end
end Go.Proofs.YtjpklmighoondaaGreatDoor.St
namespace Go.Proofs.YtjpklmighoondaaGreatDoor.St
open Go.RowKit
def dropC (P:Pst) (i:Int):Int:=if 0≤i∧i < P.mails.length then 0 else 8
def dropP (P:Pst) (i:Int):Pst:=if 0≤i∧i < P.mails.length then {P with mails:=P.mails.eraseIdx i.toNat} else P
def doubC (P:Pst) (i:Int):Int:=if 0≤i∧i < P.mails.length then if P.mails.length < 500 then 0 else 4 else 8
def doubP (P:Pst) (i:Int):Pst:=match P.mails[i.toNat]? with
 | some m=>if 0≤i then sendP P m else P
 | none=>P
def giveC (P:Pst) (c:Int):Int:=if 0≤c∧c < P.k then if (P.cl c.toNat).busy=true then 0 else 6 else 2
def givePP (P:Pst) (c:Int):Pst:=if 0≤c∧c < P.k then if (P.cl c.toNat).busy=true then giveP P c.toNat else P else P
section
variable {w0 W W' : World} {K : StK} {P : Pst}
set_option maxHeartbeats 4000000 in
theorem dropS_any (h:StoP w0 W K P) (hml:P.mails.length≤500) (i:Int):
  Calls Tryz.prog 51 #[.pointer (some ⟨K.B,0,none⟩),.int .i64 i] W fun en W'=>en=.returned (toldE (dropC P i))∧StTold w0 K P W (dropP P i) W':=by
 have HP:=hideIt h;have HD:=hideIt (pdrop_any i _ _ _ _ _ _ hml _ h.net);clear h;go_enter Tryz.func51,Tryz.ntmps51
 go_wp2_with fail
 refine HD.out.mono ?_;clear HD;rintro e W2 (⟨ho,rfl,hb⟩ | ⟨k,m,rfl,hk,rfl,v',ht⟩)
 ·have HR:Hid (toldE (dropC P i)=.iface 55 (.int .i64 8)∧StTold w0 K P W (dropP P i) W2):=by
   unfold dropC dropP;rw[if_neg (by omega),if_neg (by omega)];exact⟨rfl,K,HP.out.below hb,SFr.below hb⟩
  clear HP hb;go_wp2;go_ret;exact⟨by rw[HR.out.1];rfl,HR.out.2⟩
 ·have HR:Hid (toldE (dropC P (k:Int))=.nilIface∧StTold w0 K P W (dropP P (k:Int)) W2):=by
   have hl:k < P.mails.length:=(List.getElem?_eq_some_iff.1 hk).1;unfold dropC dropP;rw[if_pos (by omega),if_pos (by omega)];obtain⟨h1,h2⟩:=HP.out.mail ht;exact⟨rfl,_,h1,h2⟩
  clear HP ht;go_wp2;go_ret;exact⟨by rw[HR.out.1];rfl,HR.out.2⟩
set_option maxHeartbeats 4000000 in
theorem doubleS_any (h:StoP w0 W K P) (i:Int):
  Calls Tryz.prog 52 #[.pointer (some ⟨K.B,0,none⟩),.int .i64 i] W fun en W'=>en=.returned (toldE (doubC P i))∧StTold w0 K P W (doubP P i) W':=by
 have HP:=hideIt h;have HD:=hideIt (pdouble_any i _ _ _ _ _ _ _ h.net);clear h;go_enter Tryz.func52,Tryz.ntmps52
 go_wp2_with fail
 refine HD.out.mono ?_;clear HD;rintro e W2 (⟨ho,rfl,hb⟩ | ⟨k,m,rfl,hk,⟨hfull,rfl,hb⟩ | ⟨hroom,rfl,v',ht⟩⟩)
 ·have HR:Hid (toldE (doubC P i)=.iface 55 (.int .i64 8)∧StTold w0 K P W (doubP P i) W2):=by
   have:doubP P i=P:=by
    unfold doubP
    split
    ·next m hm=>
     have:=(List.getElem?_eq_some_iff.1 hm).1;rw[if_neg (by omega)]
    ·rfl
   rw[this];unfold doubC;rw[if_neg (by omega)];exact⟨rfl,K,HP.out.below hb,SFr.below hb⟩
  clear HP hb;go_wp2;go_ret;exact⟨by rw[HR.out.1];rfl,HR.out.2⟩
 ·have HR:Hid (toldE (doubC P (k:Int))=.iface 55 (.int .i64 4)∧StTold w0 K P W (doubP P (k:Int)) W2):=by
   have hl:k < P.mails.length:=(List.getElem?_eq_some_iff.1 hk).1;have:doubP P (k:Int)=P:=by
    unfold doubP;rw[Int.toNat_natCast,hk];show (if (0:Int)≤k then sendP P m else P)=P;rw[if_pos (by omega)];unfold sendP;rw[if_neg (by omega)]
   rw[this];unfold doubC;rw[if_pos (by omega),if_neg (by omega)];exact⟨rfl,K,HP.out.below hb,SFr.below hb⟩
  clear HP hb;go_wp2;go_ret;exact⟨by rw[HR.out.1];rfl,HR.out.2⟩
 ·have HR:Hid (toldE (doubC P (k:Int))=.nilIface∧StTold w0 K P W (doubP P (k:Int)) W2):=by
   have hl:k < P.mails.length:=(List.getElem?_eq_some_iff.1 hk).1;have:doubP P (k:Int)= {P with mails:=P.mails++ [m]} :=by
    unfold doubP;rw[Int.toNat_natCast,hk];show (if (0:Int)≤k then sendP P m else P)=_;rw[if_pos (by omega)];unfold sendP;rw[if_pos (by omega)]
   rw[this];unfold doubC;rw[if_pos (by omega),if_pos (by omega)];obtain⟨h1,h2⟩:=HP.out.mail ht;exact⟨rfl,_,h1,h2⟩
  clear HP ht;go_wp2;go_ret;exact⟨by rw[HR.out.1];rfl,HR.out.2⟩
end
end Go.Proofs.YtjpklmighoondaaGreatDoor.St
namespace Go.Proofs.YtjpklmighoondaaGreatDoor.St
open Go.RowKit
section
variable {w0 W W' : World} {K : StK} {P : Pst}
set_option maxHeartbeats 4000000 in
theorem giveUp_any (h:StoP w0 W K P) (hev:P.evs.length≤9000) (hst:P.sts.length≤9000) (c:Int):
  Calls Tryz.prog 113 #[.pointer (some ⟨K.B,0,none⟩),.int .i64 c] W fun en W'=>en=.returned (toldE (giveC P c))∧StTold w0 K P W (givePP P c) W':=by
 have HP:=hideIt h;have HH:=hideIt (hasC_any h c);by_cases h0:0≤c∧c < P.k
 rotate_left 1
 ·have HR:Hid (toldE (giveC P c)=.iface 55 (.int .i64 2)∧StTold w0 K P W (givePP P c) W):=by
   unfold giveC givePP;rw[if_neg h0,if_neg h0];exact⟨rfl,K,h,SFr.below (Below.refl _ _)⟩
  rw[decide_eq_false h0] at HH;clear h h0 HP;go_enter Tryz.func113,Tryz.ntmps113
  go_wp2_with fail
  refine HH.out.mono ?_;rintro e w1 ⟨rfl,rfl⟩;go_wp2;go_ret;exact⟨by rw[HR.out.1];rfl,HR.out.2⟩
 rw[decide_eq_true h0] at HH;obtain⟨i,rfl⟩:∃i:Nat,c=i:=⟨c.toNat,by omega⟩;have hi:i < P.k:=by omega
 have hii:(i:Int) < (P.k:Int):=by omega
 have c8:=h.cells.2.2.2.2.1;have HBy:=hideIt (busyC_any h hi);cases hbz:(P.cl i).busy with
 | false=>
  have HR:Hid (toldE (giveC P (i:Int))=.iface 55 (.int .i64 6)∧StTold w0 K P W (givePP P (i:Int)) W):=by
   unfold giveC givePP;rw[if_pos h0,if_pos h0,Int.toNat_natCast,hbz];exact⟨rfl,K,h,SFr.below (Below.refl _ _)⟩
  rw[hbz] at HBy;clear h h0 HP hbz;go_enter Tryz.func113,Tryz.ntmps113
  go_wp2_with fail
  refine HH.out.mono ?_;rintro e w1 ⟨rfl,rfl⟩;go_wp2_with fail
  refine HBy.out.mono ?_;rintro e w1 ⟨rfl,rfl⟩;go_wp2;go_ret;exact⟨by rw[HR.out.1];rfl,HR.out.2⟩
 | true=>
  have HCd:Hid (toldE (giveC P (i:Int))=.nilIface):=by
   show _=_;unfold giveC;rw[if_pos h0,Int.toNat_natCast,if_pos hbz];rfl
  have HGv:Hid (givePP P (i:Int)= {P with evs:=P.evs++ [{(P.cl i).call with t:=4}],sts:=P.sts++ [zeroS],cl:=updP P.cl i {P.cl i with at_:=3}}):=by
   show _=_;unfold givePP;rw[if_pos h0,Int.toNat_natCast,if_pos hbz];rfl
  rw[hbz] at HBy;have hCl:=h.ltC;obtain⟨q0,q1,q2,q3,q4,q5,q6⟩:=(h.cx i hi).call;have HSee:Hid (∀Z,Below W.heap.size W Z→Calls Tryz.prog 150 #[.pointer (some ⟨K.B,0,none⟩),.agg #[.int .i64 (P.cl i).call.p,.int .i64 4,.int .i64 (P.cl i).call.k,.int .i64 (P.cl i).call.d,.int .i64 (P.cl i).call.a,.int .i64 (P.cl i).call.b,.int .i64 (P.cl i).call.r],.agg #[.int .i64 0,.int .i64 0]] Z fun en W'=>en=.returned (.tuple #[])∧W'.cell? ⟨K.B,8,none⟩=some (.slice (some ⟨K.C,0,none⟩) P.k P.k)∧(∃a0:Value,W'.cell? ⟨K.C,i*13,none⟩=some a0∧W'.frozen? ⟨K.C,i*13,none⟩=false)∧StTold w0 K P W (givePP P (i:Int)) (W'.setCell ⟨K.C,i*13,none⟩ (.int .i64 3))):=fun Z hZ=>by
   refine(see_any (HP.out.below hZ) hev hst {(P.cl i).call with t:=4} zeroS).mono fun en W' ⟨h1,K1,h2,h3⟩=>⟨h1,?_,?_,?_⟩
   ·have:=h2.cells.2.2.2.2.1;rw[h3.B.1,h3.B.2.2] at this;exact this
   ·have hx1:=h2.cx i hi;rw[h3.B.2.2] at hx1;exact⟨_,hx1.at_,by rw[←h3.B.2.2];exact h2.fzC _⟩
   ·obtain⟨h4,h5⟩:=h2.setAt hi 3;rw[h3.B.2.2] at h4 h5;refine⟨_,?_,(SFr.below hZ).trans (h3.trans h5)⟩;rw[HGv.out];exact h4
  clear h h0 HP hbz HGv;generalize givePP P (i:Int)=Pend at*
  generalize giveC P (i:Int)=cd at*
  generalize P.cl i=x at*
  go_enter Tryz.func113,Tryz.ntmps113
  go_wp2_with fail
  refine HH.out.mono ?_;rintro e w1 ⟨rfl,rfl⟩;go_wp2_with fail
  refine HBy.out.mono ?_;rintro e w1 ⟨rfl,rfl⟩;go_wp2_with fail
  refine(HSee.out _ (belA (Below.refl _ _) _)).mono ?_;rintro e W2 ⟨rfl,c8b,⟨a0,ha0,hf0⟩,hT⟩;have HT:=hideIt hT;clear hT HSee HBy HH q0 q1 q2 q3 q4 q5 q6 c8;go_wp2;go_ret;exact⟨by rw[HCd.out];rfl,HT.out⟩
end
end Go.Proofs.YtjpklmighoondaaGreatDoor.St
