/-
  The program's store, walked: slices.Contains at numbers; count.
  The program's store, walked: count.
-/
import Derived.Test.YtjpklmighoondaaGreatDoorSwCY
import Derived.Test.YtjpklmighoondaaGreatDoorFieldsQY
set_option maxRecDepth 100000
namespace Go.Proofs.YtjpklmighoondaaGreatDoor.St
open Go.RowKit
def IntsQ (w:World) (a:Option Addr) (l:List Int):Prop:=l= []∨∃g off,a=some ⟨g,off,none⟩∧g < w.heap.size∧∀j (h:j < l.length),w.cell? ⟨g,off+j,none⟩=some (.int .i64 l[j])
theorem IntsQ.at {w:World} {a:Option Addr} {l:List Int} (h:IntsQ w a l) {k:Nat} (hk:k < l.length):∃g off,a=some ⟨g,off,none⟩∧g < w.heap.size∧w.cell? ⟨g,off+k,none⟩=some (.int .i64 l[k]):=by
 rcases h with rfl | ⟨g,off,e,hg,h⟩
 ·simp at hk
 ·exact⟨g,off,e,hg,h k hk⟩
theorem ints_of_own {w:World} {base:Nat} {v:Value} {l:List Int} (h:w.ownsRow base 3 1 v l.length (intC l)):∃a cap,v=.slice a l.length cap∧IntsQ w a l:=by
 rcases own_cells h with ⟨rfl,h0⟩ | ⟨g,cap,rfl,hc,hg,hk⟩
 ·have:l= []:=List.eq_nil_of_length_eq_zero h0;subst this;exact⟨none,0,rfl,.inl rfl⟩
 ·refine⟨_,cap,rfl,.inr ⟨g,0,rfl,hg,fun j hj=>?_⟩⟩;rw[Nat.zero_add,hk j (by omega)];simp[intC,hj]
set_option maxHeartbeats 1000000 in
theorem index_any (x:Int) (xs:List Int) (hn:xs.length≤9000) (a:Option Addr) (cap:Nat) (w:World) (h:IntsQ w a xs):
  Calls Tryz.prog 225 #[.slice a xs.length cap,.int .i64 x] w fun e w'=>(∃r:Int,e=.returned (.int .i64 r)∧(0≤r↔x∈xs)∧ -1≤r∧r≤9000)∧w'=w:=by
 have HR:=hideIt h;clear h;go_enter Tryz.func225,Tryz.ntmps225
 go_wp2
 go_loopw [8] (fun v wr=>∃k:Nat,k≤xs.length∧v=.int .i64 k∧(∀j (h:j < xs.length),j < k→xs[j]≠x)∧wr=w) (fun v _=>xs.length - (intOf v).toNat)
 case atStart=>exact⟨0,Nat.zero_le _,rfl,fun j _ hj=>absurd hj (by omega),rfl⟩
 case round=>
  obtain⟨k,hk,rfl,ha,rfl⟩:=hrel;have HA:=hideIt ha;clear ha;by_cases hkn:k < xs.length
  ·obtain⟨g,off,rfl,hg,c0⟩:=HR.out.at hkn;have hkn':(k:Int) < xs.length:=by omega
   by_cases he:x=xs[k]
   ·have HM:Hid (x∈xs):=by show x∈xs;rw[he];exact List.getElem_mem hkn
    have g1:(x==xs[k])=true:=by simp[he]
    clear he;generalize xs[k]=y at*
    go_wp2;go_ret;exact⟨⟨_,rfl,⟨fun _=>HM.out,fun _=>by omega⟩,by omega,by omega⟩,rfl⟩
   ·have HN:Hid (∀j (h:j < xs.length),j < k+1→xs[j]≠x):=fun j h hj=>by
     by_cases e:j=k
     ·subst e;exact fun e'=>he e'.symm
     ·exact HA.out j h (by omega)
    have g1:(x==xs[k])=false:=by simp[he]
    clear he;generalize xs[k]=y at*
    go_wp2
    go_roundw
    case rel=>exact⟨k+1,by omega,by go_num,HN.out,trivial⟩
    case measure=>simp[intOf];omega
  ·have HM:Hid (x∉xs):=fun hm=>by
    obtain⟨j,hj,e⟩:=List.getElem_of_mem hm;exact HA.out j hj (by omega) e
   obtain rfl:k=xs.length:=by omega
   go_wp2;go_ret;exact⟨⟨_,rfl,⟨fun h=>by omega,fun h=>absurd h HM.out⟩,by omega,by omega⟩,rfl⟩
theorem contains_any (x:Int) (xs:List Int) (hn:xs.length≤9000) (a:Option Addr) (cap:Nat) (w:World) (h:IntsQ w a xs):
  Calls Tryz.prog 157 #[.slice a xs.length cap,.int .i64 x] w fun e w'=>e=.returned (.bool (decide (x∈xs)))∧w'=w:=by
 have HI:=hideIt (index_any x xs hn a cap w h);clear h;go_enter Tryz.func157,Tryz.ntmps157
 go_wp2_with fail
 refine HI.out.mono ?_;rintro e w1 ⟨⟨r,rfl,hr,_,_⟩,rfl⟩;have HR:=hideIt hr;clear hr;go_wp2;go_ret;exact⟨ret_bool (decide_eq_decide.2 HR.out),rfl⟩
open Go.RowKit
theorem updP_updP {α:Type} (f:Nat→α) (i:Nat) (x y:α):updP (updP f i x) i y=updP f i y:=by
 funext j
 unfold updP
 split<;>rfl
theorem run_appI {w:World} {base B:Nat} {v:Value} {l:List Int} {x:Int} (hown:w.ownsRow base 3 1 v l.length (intC l)) (hB:w.heap[B]?=some (.cells #[.int .i64 x] 3)) (hb:base≤w.heap.size) (hl:l.length≤9000) (ty:TypeId):
  ∃v' w',(Builtin.append_ #[26,26] ty #[v,.slice (some ⟨B,0,none⟩) 1 1]).run Tryz.prog w=.ok v' w'∧w'.ownsRow base 3 1 v' (l++ [x]).length (intC (l++ [x]))∧w.grownBy w' v.ownBlock∧(v'.ownBlock=v.ownBlock∨v'.ownBlock=some w.heap.size):=by
 obtain⟨i,hi,hz,hsz,hby⟩:=info_parts' info3;obtain⟨v',w',hr,ho,hg,_,hob⟩:=run_append_own_at (P:=Tryz.prog) (w:=w) base 26 ty 3 i _ 1 8 Tryz.underlying26 hi hz hsz hby rfl (by decide) v _ _ hown ⟨B,0,none⟩ 1 1 [.int .i64 x] rfl (by
  intro j u hj;rw[Addr.add_lit,Nat.zero_add,cell_of_row _ _ _ _ 3 _ hB];rw[←hj];simp) (by simp[Value.oneCell']) (by unfold maxLen;omega) (by omega) hb
 refine⟨v',w',hr,?_,hg,hob⟩;rw[intC_app,List.length_append];exact ho
section
variable {w0 W W' : World} {K : StK} {P : Pst}
set_option maxHeartbeats 8000000 in
theorem count_any (h:StoP w0 W K P) (hn7:P.n≤7) (hk8:P.k≤8) (hev:P.evs.length≤9000) (hst:P.sts.length≤9000) (m:Mq) {i:Nat} (hi:i < P.k) (hmt:m.tt=(P.n:Int)+i) (hcl:(P.cl i).cnt.length≤9000) (hrd:0≤(P.cl i).rd∧(P.cl i).rd≤100000) (hkt:0≤(P.cl i).kept.s.t∧(P.cl i).kept.s.t≤100000) (hmk:0≤m.t∧m.t≤100000):
  Calls Tryz.prog 105 #[.pointer (some ⟨K.B,0,none⟩),.agg #[.int .i64 m.fr,.int .i64 m.tt,.int .i64 m.key,.int .i64 m.rd,.bool m.tells,.int .i64 m.t,.int .i64 m.c,.int .i64 m.v]] W fun en W'=>en=.returned (.tuple #[])∧StTold w0 K P W (countP_ P m) W':=by
 have hb0:Below W.heap.size W (W.alloc (.cells #[.int .i64 m.fr,.int .i64 m.tt,.int .i64 m.key,.int .i64 m.rd,.bool m.tells,.int .i64 m.t,.int .i64 m.c,.int .i64 m.v] 202)):=belA (Below.refl _ _) _;have hm0:=heap_alloc_new W (.cells #[.int .i64 m.fr,.int .i64 m.tt,.int .i64 m.key,.int .i64 m.rd,.bool m.tells,.int .i64 m.t,.int .i64 m.c,.int .i64 m.v] 202);have hwho:(m.tt - (P.n:Int)).toNat=i:=by omega
 have hcount:countP_ P m=if (P.cl i).busy=true∧m.rd=(P.cl i).rd∧m.fr∉(P.cl i).cnt then
   if (P.cl i).at_=1 then
    if (P.cl i).cnt.length+1=P.ask then askedP {P with cl:=updP P.cl i (countX (P.cl i) m)} i
    else {P with cl:=updP P.cl i (countX (P.cl i) m)}
   else if (P.cl i).cnt.length+1=P.tell then doneP {P with cl:=updP P.cl i (countX (P.cl i) m)} i
    else {P with cl:=updP P.cl i (countX (P.cl i) m)}
  else P:=by unfold countP_;rw[hwho]
 have HCo:=hideIt hcount;have HOw:Hid (∀b,K.own P.k b→b < W.heap.size):=fun b hb=>(h.own_lt hb).2
 have HP1:=hideIt (h.below hb0);have HF1:Hid (SFr K P.k W _ K):=SFr.below hb0;have HM:=hideIt hm0;have hwi:IntKind.i64.wrap (m.tt - (P.n:Int))=(i:Int):=(IntWalk.i64_in _ (by omega)).trans (by omega);have HMt:=hideIt hmt;have hii:(i:Int) < (P.k:Int):=by omega
 have hCB:K.C < W.heap.size:=h.ltC;clear hcount h hb0 hm0 hwho hmt;generalize countP_ P m=Pend at*
 go_enter Tryz.func105,Tryz.ntmps105
 go_upto_region 1 with fail
 generalize W.alloc _=W1 at*
 have HMb:Hid (∀Z:World,Z.heap[W.heap.size]?=W1.heap[W.heap.size]?→Z.cell? ⟨W.heap.size,0,none⟩=some (.int .i64 m.fr)∧Z.cell? ⟨W.heap.size,1,none⟩=some (.int .i64 m.tt)∧Z.cell? ⟨W.heap.size,2,none⟩=some (.int .i64 m.key)∧Z.cell? ⟨W.heap.size,3,none⟩=some (.int .i64 m.rd)∧Z.cell? ⟨W.heap.size,4,none⟩=some (.bool m.tells)∧Z.cell? ⟨W.heap.size,5,none⟩=some (.int .i64 m.t)∧Z.cell? ⟨W.heap.size,6,none⟩=some (.int .i64 m.c)∧Z.cell? ⟨W.heap.size,7,none⟩=some (.int .i64 m.v)):=fun Z hZ=>blkMq (hZ.trans HM.out)
 obtain⟨m0,m1,m2,m3,m4,m5,m6,m7⟩:=HMb.out W1 rfl;have c0:=HP1.out.cells.1.1
 go_quiet (fail)
 generalize hV2:W1.drewN _=V2;have HP2:Hid (StoP w0 V2 K P):=by rw[←hV2];exact HP1.out.below (below_drewN (Below.refl _ _) _)
 have HF2:Hid (SFr K P.k W V2 K):=by rw[←hV2];exact HF1.out.trans (SFr.below (below_drewN (Below.refl _ _) _))
 have HM2:Hid (V2.heap[W.heap.size]?=W1.heap[W.heap.size]?):=by rw[←hV2];rfl
 clear hV2 m0 m1 m2 m3 m4 m5 m6 m7 c0 HP1 HF1;have c8:=HP2.out.cells.2.2.2.2.1;obtain⟨m0,m1,m2,m3,m4,m5,m6,m7⟩:=HMb.out V2 HM2.out;have hx:=HP2.out.cx i hi;have x8:=hx.rd;have x9:=hx.cv;obtain⟨va,vc,ecv⟩:=ownsRow_slice (HP2.out.ct i hi);rw[ecv] at x9;have HBy:Hid (∀q:Nat,Calls Tryz.prog 156 #[.pointer (some ⟨K.C,i*13,none⟩)] (V2.drewN q) fun e w'=>e=.returned (.bool (P.cl i).busy)∧w'=V2.drewN q):=fun q=>busyC_any (HP2.out.below (below_drewN (Below.refl _ _) q)) hi
 have HCn:Hid (∀q:Nat,Calls Tryz.prog 157 #[.slice va (P.cl i).cnt.length vc,.int .i64 m.fr] (V2.drewN q) fun e w'=>e=.returned (.bool (decide (m.fr∈(P.cl i).cnt)))∧w'=V2.drewN q):=fun q=>by
  obtain⟨a1,cap1,e1,hq⟩:=ints_of_own ((HP2.out.below (below_drewN (Below.refl _ _) q)).ct i hi);rw[ecv] at e1;cases e1;exact contains_any m.fr (P.cl i).cnt (by omega) _ _ _ hq
 have HV:Hid (∀q,StoP w0 (V2.drewN q) K P∧SFr K P.k W (V2.drewN q) K∧(V2.drewN q).heap[W.heap.size]?=W1.heap[W.heap.size]?):=fun q=>⟨HP2.out.below (below_drewN (Below.refl _ _) q),HF2.out.trans (SFr.below (below_drewN (Below.refl _ _) q)),HM2.out⟩
 clear hx;cases hbz:(P.cl i).busy with
 | false=>
  have HE:Hid (Pend=P):=HCo.out.trans (if_neg (by rw[hbz];simp));rw[hbz] at HBy;clear hbz HCo;generalize P.cl i=x at*
  go_wp2_with fail
  go_quiet ((go_at_call 156;exact Calls.quiet_of_same (HBy.out _)))
  go_wp2;exact bodyPost_ret (results_none rfl _ _ _) rfl ⟨rfl,K,by rw[HE.out];exact(HV.out _).1,(HV.out _).2.1⟩
 | true=>
 rw[hbz] at HBy;by_cases hr1:m.rd=(P.cl i).rd
 rotate_left 1
 ·have HE:Hid (Pend=P):=HCo.out.trans (if_neg (fun h=>hr1 h.2.1));have g1:(m.rd != (P.cl i).rd)=true:=by simp[hr1]
  clear hbz HCo hr1;generalize P.cl i=x at*
  go_wp2_with fail
  go_quiet ((go_at_call 156;exact Calls.quiet_of_same (HBy.out _)))
  go_wp2;exact bodyPost_ret (results_none rfl _ _ _) rfl ⟨rfl,K,by rw[HE.out];exact(HV.out _).1,(HV.out _).2.1⟩
 have g1:(m.rd != (P.cl i).rd)=false:=by simp[hr1]
 by_cases hm1:m.fr∈(P.cl i).cnt
 ·have HE:Hid (Pend=P):=HCo.out.trans (if_neg (fun h=>h.2.2 hm1));rw[decide_eq_true hm1] at HCn;clear hbz HCo hr1 hm1;generalize P.cl i=x at*
  go_wp2_with fail
  go_quiet (first | (go_at_call 156;exact Calls.quiet_of_same (HBy.out _)) | (go_at_call 157;exact Calls.quiet_of_same (HCn.out _)))
  go_wp2;exact bodyPost_ret (results_none rfl _ _ _) rfl ⟨rfl,K,by rw[HE.out];exact(HV.out _).1,(HV.out _).2.1⟩
 rw[decide_eq_false hm1] at HCn;have HCo2:Hid (Pend=if (P.cl i).at_=1 then
   if (P.cl i).cnt.length+1=P.ask then askedP {P with cl:=updP P.cl i (countX (P.cl i) m)} i
   else {P with cl:=updP P.cl i (countX (P.cl i) m)}
  else if (P.cl i).cnt.length+1=P.tell then doneP {P with cl:=updP P.cl i (countX (P.cl i) m)} i
   else {P with cl:=updP P.cl i (countX (P.cl i) m)}):=HCo.out.trans (if_pos ⟨hbz,hr1,hm1⟩)
 clear HCo hr1 hm1 hbz;go_wp2_with fail
 go_quiet (first | (go_at_call 156;exact Calls.quiet_of_same (HBy.out _)) | (go_at_call 157;exact Calls.quiet_of_same (HCn.out _)))
 go_wp2_with fail
 generalize hV3:V2.drewN _=V3;obtain⟨HP3,HF3,HM3⟩:Hid (StoP w0 V3 K P)∧Hid (SFr K P.k W V3 K)∧Hid (V3.heap[W.heap.size]?=W1.heap[W.heap.size]?):=by rw[←hV3];exact HV.out _
 clear hV3 m0 m1 m2 m3 m4 m5 m6 m7 x8 x9 c8 HBy HCn HV HP2 HF2 HM2 g1;have HO3:Hid (W.heap.size < V3.heap.size):=lt_of_heap (HM3.out.trans HM.out);have HMb2:Hid (∀Z:World,Z.heap[W.heap.size]?=V3.heap[W.heap.size]?→Z.cell? ⟨W.heap.size,0,none⟩=some (.int .i64 m.fr)∧Z.cell? ⟨W.heap.size,1,none⟩=some (.int .i64 m.tt)∧Z.cell? ⟨W.heap.size,2,none⟩=some (.int .i64 m.key)∧Z.cell? ⟨W.heap.size,3,none⟩=some (.int .i64 m.rd)∧Z.cell? ⟨W.heap.size,4,none⟩=some (.bool m.tells)∧Z.cell? ⟨W.heap.size,5,none⟩=some (.int .i64 m.t)∧Z.cell? ⟨W.heap.size,6,none⟩=some (.int .i64 m.c)∧Z.cell? ⟨W.heap.size,7,none⟩=some (.int .i64 m.v)):=fun Z hZ=>HMb.out Z (hZ.trans HM3.out)
 have HU:Hid (∀Z,Below V3.heap.size V3 Z→Z.cell? ⟨W.heap.size,0,none⟩=some (.int .i64 m.fr)∧Z.cell? ⟨W.heap.size,1,none⟩=some (.int .i64 m.tt)∧Z.cell? ⟨W.heap.size,2,none⟩=some (.int .i64 m.key)∧Z.cell? ⟨W.heap.size,3,none⟩=some (.int .i64 m.rd)∧Z.cell? ⟨W.heap.size,4,none⟩=some (.bool m.tells)∧Z.cell? ⟨W.heap.size,5,none⟩=some (.int .i64 m.t)∧Z.cell? ⟨W.heap.size,6,none⟩=some (.int .i64 m.c)∧Z.cell? ⟨W.heap.size,7,none⟩=some (.int .i64 m.v)):=fun Z hZ=>HMb2.out Z (hZ.block _ HO3.out)
 have HT:Hid (∀Z,Below V3.heap.size V3 Z→Z.cell? ⟨K.C,i*13+9,none⟩=some (.slice va (P.cl i).cnt.length vc)):=fun Z hZ=>by
  rw[←ecv];exact((HP3.out.below hZ).cx i hi).cv
 refine wp_region_L (B:= [8,11]) (S:=fun _=>True) (T:=fun Z=>Below V3.heap.size V3 Z) (by kernel_rfl) ⟨trivial,(Below.refl _ _).drew⟩ (fun hHeld=>?_);refine tkS 0 ?_ rfl ?_ ?_;rotate_left 1
 ·intro wz _;go_simp;all_goals with_reducible rfl
 simp only[Act.put,p1,p2,p3,p4,p5];refine tkS 1 ?_ rfl ?_ ?_;rotate_left 1
 ·intro wz _;go_simp;all_goals with_reducible rfl
 simp only[Act.put,p1,p2,p3,p4,p5,p6];refine tkS 2 ?_ rfl ?_ ?_;rotate_left 1
 ·intro wz _;go_simp;all_goals with_reducible rfl
 simp only[Act.put,p1,p2,p3,p4,p5,p6];refine tkS 3 ?_ rfl ?_ ?_;rotate_left 1
 ·intro wz _;go_simp;all_goals with_reducible rfl
 simp only[Act.put,p1,p2,p3,p4,p5,p6];refine tkL [8,9,10,11] 4 ?_ rfl ?_ ?_;rotate_left 1
 ·intro wz sb;have y0:=HT.out wz sb.2;go_simp;all_goals with_reducible rfl
 simp only[Act.put,p1,p2,p3,p4,p5,p6];refine tkS 5 ?_ rfl ?_ ?_;rotate_left 1
 ·intro wz _;go_simp;all_goals with_reducible rfl
 simp only[Act.put,p1,p2,p3,p4,p5,p6];refine tkL [7,8,9,10,11] 6 ?_ rfl ?_ ?_;rotate_left 1
 ·intro wz sb;obtain⟨y0,y1,y2,y3,y4,y5,y6,y7⟩:=HU.out wz sb.2;go_simp;all_goals with_reducible rfl
 simp only[Act.put,p1,p2,p3,p4,p5,p6];generalize V3.drew=Y0 at hHeld ⊢;refine wpAnyL_ready (rs:= [7]) (by kernel_rfl) (by simp) (AllReadyL.cons rfl (fun Q hQ=>?_) AllReadyL.nil);go_simp;have hb1:Below V3.heap.size V3 (Y0.alloc (.cells #[.int .i64 m.fr] 3)):=hHeld.2.alloc hHeld.2.size _;have hnew:=heap_alloc_new Y0 (.cells #[.int .i64 m.fr] 3);refine hQ.out _ _ ⟨trivial,hb1⟩ (fun hHeld2=>?_);clear hQ Q hb1;generalize Y0.alloc (.cells #[.int .i64 m.fr] 3)=Y1 at*
 have hP:=HP3.out.below hHeld2.2;have hF:=HF3.out.trans (SFr.below hHeld2.2);obtain⟨v',w6,hr,ho,hg,hob⟩:=run_appI (x:=m.fr) (hP.ct i hi) hnew hP.bel.size (by omega) 26;obtain⟨hP6,hF6⟩:=hP.pushC hi ho hg hob;have hs6:w6.heap[W.heap.size]?=V3.heap[W.heap.size]?:=by
  refine(hg.block _ (Nat.lt_of_lt_of_le HO3.out hHeld2.2.size) fun e'=>?_).trans (hHeld2.2.block _ HO3.out);have:=HOw.out W.heap.size (.inr (.inr (.inr (.inr (.inr (.inr ⟨i,hi,e'.symm⟩))))));omega
 have eB:w6.heap[K.C]?=Y1.heap[K.C]?:=hg.block K.C hP.ltC fun e'=>ne_tagD hP.tC (hP.tI hi e'.symm) (by decide) rfl
 have c6:w6.cell? ⟨K.C,i*13+9,none⟩=some (.slice va (P.cl i).cnt.length vc):=by
  rw[World.cell?_of_block (a:=⟨K.C,i*13+9,none⟩) eB,←ecv];exact(hP.cx i hi).cv
 have f6:w6.frozen? ⟨K.C,i*13+9,none⟩=false:=(World.frozen?_of_block (a:=⟨K.C,i*13+9,none⟩) eB).trans (hP.fzC _);rw[ecv] at hr;refine wpAnyL_ready (rs:= [8]) (by kernel_rfl) (by simp) (AllReadyL.last rfl (by kernel_rfl) (fun Q hQ=>?_) AllReadyL.nil);refine step_append_run (by rfl) _ _ 26 rfl _ _ v' w6 rfl rfl hr ?_;obtain⟨a6,cap6,ev6⟩:=ownsRow_slice ho;have HL6:Hid (((P.cl i).cnt++ [m.fr]).length=(P.cl i).cnt.length+1):=by show _=_;simp
 generalize hL:((P.cl i).cnt++ [m.fr]).length=L at ev6 HL6;subst ev6;have HP6:=hideIt hP6;have HF6:=hideIt (hF.trans hF6);have HS6:Hid ((w6.setCell ⟨K.C,i*13+9,none⟩ (.slice a6 L cap6)).heap[W.heap.size]?=V3.heap[W.heap.size]?):=(Below.heap_setCell _ ⟨K.C,i*13+9,none⟩ _ _ (show W.heap.size≠K.C by omega)).trans hs6;simp only[Act.put,List.setIfInBounds_toArray];refine hQ.out _ _ trivial (fun _=>?_);clear hQ Q hr ho hg hob hP hF hHeld hHeld2 hnew eB HT HU hs6 hP6 hF6 HP3 HF3 ecv hL;refine tkE 9 ?_ rfl ?_ ?_;rotate_left 1
 ·intro wz _;go_simp;all_goals with_reducible rfl
 simp only[Act.put,p1,p2,p3,p4,p5,p6];refine tkE 10 ?_ rfl ?_ ?_;rotate_left 1
 ·intro wz _;go_simp;all_goals with_reducible rfl
 simp only[Act.put,p1,p2,p3,p4,p5,p6];refine wpAnyL_ready (rs:= [11]) (by kernel_rfl) (by simp) (AllReadyL.last rfl (by kernel_rfl) (fun Q hQ=>?_) AllReadyL.nil);go_simp;refine hQ.out _ _ trivial (fun _=>?_);clear hQ Q c6 f6;refine wpAnyL_done (by kernel_rfl) ?_ _;generalize w6.setCell ⟨K.C,i*13+9,none⟩ (.slice a6 L cap6)=W2 at*
 have HX2:Hid (ClAt W2 K.C (i*13) {P.cl i with cnt:=(P.cl i).cnt++ [m.fr]} (.slice a6 L cap6)):=by
  have:=HP6.out.cx i hi;simp only[updP_same] at this;exact this
 have xa:W2.cell? ⟨K.C,i*13,none⟩=some (.int .i64 (P.cl i).at_):=HX2.out.at_;by_cases ha:(P.cl i).at_=1
 ·have g1:((P.cl i).at_==1)=true:=by simp[ha]
  have HE:Hid (Pend=if (P.cl i).cnt.length+1=P.ask then askedP {P with cl:=updP P.cl i (countX (P.cl i) m)} i else {P with cl:=updP P.cl i (countX (P.cl i) m)}):=HCo2.out.trans (if_pos ha);have HCX:Hid (countX (P.cl i) m= {P.cl i with cnt:=(P.cl i).cnt++ [m.fr],kept:=newerH (P.cl i).kept (mqH m)}):=by
   show _=_;unfold countX;rw[if_pos ha]
  clear ha HCo2;have HU:Hid (∀Z,Below W2.heap.size W2 Z→Z.cell? ⟨W.heap.size,5,none⟩=some (.int .i64 m.t)∧Z.cell? ⟨W.heap.size,6,none⟩=some (.int .i64 m.c)∧Z.cell? ⟨W.heap.size,7,none⟩=some (.int .i64 m.v)):=fun Z hZ=>by
   obtain⟨_,_,_,_,_,h5,h6,h7⟩:=HMb2.out Z ((hZ.block _ (lt_of_heap (HS6.out.trans (HM3.out.trans HM.out)))).trans HS6.out);exact⟨h5,h6,h7⟩
  have HT:Hid (∀Z,Below W2.heap.size W2 Z→Z.cell? ⟨K.C,i*13+10,none⟩=some (.int .i64 (P.cl i).kept.s.t)∧Z.cell? ⟨K.C,i*13+10+1,none⟩=some (.int .i64 (P.cl i).kept.s.c)∧Z.cell? ⟨K.C,i*13+10+2,none⟩=some (.int .i64 (P.cl i).kept.v)):=fun Z hZ=>by
   have:=(HP6.out.below hZ).cx i hi;simp only[updP_same] at this;exact this.kept
  have HFz:Hid (∀Z,Below W2.heap.size W2 Z→∀j,Z.frozen? ⟨K.C,j,none⟩=false):=fun Z hZ=>(HP6.out.below hZ).fzC
  have HEnd:Hid (∀Z,Below W2.heap.size W2 Z→∃K4,K4.B=K.B∧K4.N=K.N∧K4.C=K.C∧StoP w0 (((Z.setCell ⟨K.C,i*13+10,none⟩ (.int .i64 (newerH (P.cl i).kept (mqH m)).s.t)).setCell ⟨K.C,i*13+10+1,none⟩ (.int .i64 (newerH (P.cl i).kept (mqH m)).s.c)).setCell ⟨K.C,i*13+10+2,none⟩ (.int .i64 (newerH (P.cl i).kept (mqH m)).v)) K4 {P with cl:=updP P.cl i (countX (P.cl i) m)} ∧SFr K P.k W (((Z.setCell ⟨K.C,i*13+10,none⟩ (.int .i64 (newerH (P.cl i).kept (mqH m)).s.t)).setCell ⟨K.C,i*13+10+1,none⟩ (.int .i64 (newerH (P.cl i).kept (mqH m)).s.c)).setCell ⟨K.C,i*13+10+2,none⟩ (.int .i64 (newerH (P.cl i).kept (mqH m)).v)) K4):=fun Z hZ=>by
   obtain⟨h1,h2⟩:=(HP6.out.below hZ).setKept hi (newerH (P.cl i).kept (mqH m));refine⟨{K with cv:=updP (updP K.cv i (.slice a6 L cap6)) i (updP K.cv i (.slice a6 L cap6) i)},rfl,rfl,rfl,?_,HF6.out.trans ((SFr.below hZ).trans h2)⟩;have e:updP (updP P.cl i {P.cl i with cnt:=(P.cl i).cnt++ [m.fr]}) i {updP P.cl i {P.cl i with cnt:=(P.cl i).cnt++ [m.fr]} i with kept:=newerH (P.cl i).kept (mqH m)} =updP P.cl i (countX (P.cl i) m):=by
    rw[updP_updP,updP_same,HCX.out]
   rw[←e];exact h1
  have HAs:Hid (∀Z K4,StoP w0 Z K4 {P with cl:=updP P.cl i (countX (P.cl i) m)} →K4.B=K.B→Calls Tryz.prog 158 #[.pointer (some ⟨K.B,0,none⟩),.int .i64 (i:Int)] Z fun en W'=>en=.returned (.tuple #[])∧StTold w0 K4 {P with cl:=updP P.cl i (countX (P.cl i) m)} Z (askedP {P with cl:=updP P.cl i (countX (P.cl i) m)} i) W'):=fun Z K4 hz e=>by
   rw[←e];have hkk:0≤(newerH (P.cl i).kept (mqH m)).s.t∧(newerH (P.cl i).kept (mqH m)).s.t≤100000:=by
    unfold newerH
    split
    ·exact hmk
    ·exact hkt
   exact asked_any hz hn7 hk8 hev hst hi (by show 0≤(updP P.cl i _ i).rd∧(updP P.cl i _ i).rd≤100000;rw[updP_same,HCX.out];exact hrd) (by show 0≤(updP P.cl i _ i).kept.s.t∧(updP P.cl i _ i).kept.s.t≤100000;rw[updP_same,HCX.out];exact hkk)
  have HNw:Hid (∀Z,Calls Tryz.prog 154 #[.agg #[.int .i64 (P.cl i).kept.s.t,.int .i64 (P.cl i).kept.s.c,.int .i64 (P.cl i).kept.v],.agg #[.int .i64 m.t,.int .i64 m.c,.int .i64 m.v]] Z fun e w'=>e=.returned (.agg #[.int .i64 (newerH (P.cl i).kept (mqH m)).s.t,.int .i64 (newerH (P.cl i).kept (mqH m)).s.c,.int .i64 (newerH (P.cl i).kept (mqH m)).v])∧Below Z.heap.size Z w'):=fun Z=>newer_any (P.cl i).kept (mqH m) Z
  have HCl:Hid ((countX (P.cl i) m).cnt.length=L):=by show _=_;rw[HCX.out,HL6.out];simp
  clear HX2 HMb HMb2 HM HM3 HO3 HS6 HP6 HF6 HCX;generalize hcx:countX (P.cl i) m=cx at*
  generalize newerH (P.cl i).kept (mqH m)=y at*
  go_wp2_with fail
  refine wp_region_L (B:= [8,11]) (S:=fun _=>True) (T:=fun Z=>Below W2.heap.size W2 Z) (by kernel_rfl) ⟨trivial,(Below.refl _ _).drew⟩ (fun hHeld=>?_);refine tkS 0 ?_ rfl ?_ ?_;rotate_left 1
  ·intro wz _;go_simp;all_goals with_reducible rfl
  simp only[Act.put,p1,p2,p3,p4,p5];refine tkS 1 ?_ rfl ?_ ?_;rotate_left 1
  ·intro wz _;go_simp;all_goals with_reducible rfl
  simp only[Act.put,p1,p2,p3,p4,p5,p6];refine tkS 2 ?_ rfl ?_ ?_;rotate_left 1
  ·intro wz _;go_simp;all_goals with_reducible rfl
  simp only[Act.put,p1,p2,p3,p4,p5,p6];refine tkS 3 ?_ rfl ?_ ?_;rotate_left 1
  ·intro wz _;go_simp;all_goals with_reducible rfl
  simp only[Act.put,p1,p2,p3,p4,p5,p6];refine tkL [8,9,10,11] 4 ?_ rfl ?_ ?_;rotate_left 1
  ·intro wz sb;obtain⟨y0,y1,y2⟩:=HT.out wz sb.2;go_simp;all_goals with_reducible rfl
  simp only[Act.put,p1,p2,p3,p4,p5,p6];refine tkS 5 ?_ rfl ?_ ?_;rotate_left 1
  ·intro wz _;go_simp;all_goals with_reducible rfl
  simp only[Act.put,p1,p2,p3,p4,p5,p6];refine tkS 6 ?_ rfl ?_ ?_;rotate_left 1
  ·intro wz _;go_simp;all_goals with_reducible rfl
  simp only[Act.put,p1,p2,p3,p4,p5,p6];refine tkL [8,9,10,11] 7 ?_ rfl ?_ ?_;rotate_left 1
  ·intro wz sb;obtain⟨y0,y1,y2⟩:=HU.out wz sb.2;go_simp;all_goals with_reducible rfl
  simp only[Act.put,p1,p2,p3,p4,p5,p6];generalize W2.drew=Y0 at hHeld ⊢;refine wpAnyL_ready (rs:= [8]) (by kernel_rfl) (by simp) (AllReadyL.last rfl (by kernel_rfl) (fun Q hQ=>?_) AllReadyL.nil);go_simp;refine(HNw.out _).mono ?_;rintro e Y1 ⟨rfl,hb1⟩;have hb2:=belJ hHeld.2 hb1;obtain⟨k0,k1,k2⟩:=HT.out _ hb2;have fz:=HFz.out _ hb2;obtain⟨K4,e1,e2,e3,hP4,hF4⟩:=HEnd.out _ hb2;have HP4:=hideIt hP4;have HF4:=hideIt hF4;refine hQ.out _ _ trivial (fun _=>?_);clear hQ Q hHeld hb1 hb2 hP4 hF4 HEnd HFz HU HT HNw xa g1;refine tkE 9 ?_ rfl ?_ ?_;rotate_left 1
  ·intro wz _;go_simp;all_goals with_reducible rfl
  simp only[Act.put,p1,p2,p3,p4,p5,p6];refine tkE 10 ?_ rfl ?_ ?_;rotate_left 1
  ·intro wz _;go_simp;all_goals with_reducible rfl
  simp only[Act.put,p1,p2,p3,p4,p5,p6];refine wpAnyL_ready (rs:= [11]) (by kernel_rfl) (by simp) (AllReadyL.last rfl (by kernel_rfl) (fun Q hQ=>?_) AllReadyL.nil);go_simp;refine hQ.out _ _ trivial (fun _=>?_);clear hQ Q k0 k1 k2 fz;refine wpAnyL_done (by kernel_rfl) ?_ _;generalize World.setCell _ _ _=W4 at*
  have HX4:Hid (∃a4 cap4,W4.cell? ⟨K.C,i*13+9,none⟩=some (.slice a4 L cap4)):=by
   obtain⟨a4,cap4,e4⟩:=ownsRow_slice (HP4.out.ct i hi);have hq:=(HP4.out.cx i hi).cv;rw[e3,e4] at hq;refine⟨a4,cap4,hq.trans ?_⟩;show some (Value.slice a4 (updP P.cl i cx i).cnt.length cap4)=_;rw[updP_same,HCl.out]
  obtain⟨a4,cap4,x9⟩:=HX4.out;have c2:W4.cell? ⟨K.B,2,none⟩=some (.int .i64 (P.ask:Int)):=by rw[←e1];exact HP4.out.cells.1.2.2.1
  have HBy:Hid (∀q:Nat,StoP w0 (W4.drewN q) K4 {P with cl:=updP P.cl i cx} ∧SFr K P.k W (W4.drewN q) K4):=fun q=>⟨HP4.out.below (below_drewN (Below.refl _ _) q),HF4.out.trans (SFr.below (below_drewN (Below.refl _ _) q))⟩
  clear HX4 HP4 HF4;by_cases hl:(P.cl i).cnt.length+1=P.ask
  ·have g2:((L:Int)==(P.ask:Int))=true:=by have:=HL6.out;simp;omega
   rw[if_pos hl] at HE;clear hl HL6 HCl;generalize P.cl i=x at*
   go_wp2_with fail
   go_quiet (fail)
   go_wp2_with fail
   refine(HAs.out _ K4 (HBy.out _).1 e1).mono ?_;rintro e W5 ⟨rfl,K5,h5,h6⟩;have HTd:Hid (StTold w0 K P W Pend W5):=⟨K5,by rw[HE.out];exact h5,(HBy.out _).2.trans h6⟩;clear h5 h6 HBy HAs;go_wp2;first | exact bodyPost_ret (results_none rfl _ _ _) rfl ⟨rfl,HTd.out⟩ | (go_end0;exact⟨rfl,HTd.out⟩)
  ·have g2:((L:Int)==(P.ask:Int))=false:=by have:=HL6.out;simp;omega
   rw[if_neg hl] at HE;clear hl HL6 HCl HAs;generalize P.cl i=x at*
   go_wp2_with fail
   go_quiet (fail)
   go_wp2;have HTd:Hid (∀q,StTold w0 K P W Pend (W4.drewN q)):=fun q=>⟨K4,by rw[HE.out];exact(HBy.out q).1,(HBy.out q).2⟩
   first | exact bodyPost_ret (results_none rfl _ _ _) rfl ⟨rfl,HTd.out _⟩ | (go_end0;exact⟨rfl,HTd.out _⟩)
 ·have g1:((P.cl i).at_==1)=false:=by simp[ha]
  have HE:Hid (Pend=if (P.cl i).cnt.length+1=P.tell then doneP {P with cl:=updP P.cl i (countX (P.cl i) m)} i else {P with cl:=updP P.cl i (countX (P.cl i) m)}):=HCo2.out.trans (if_neg ha);have HCX:Hid (countX (P.cl i) m= {P.cl i with cnt:=(P.cl i).cnt++ [m.fr]}):=by
   show _=_;unfold countX;rw[if_neg ha]
  clear ha HCo2;have HAs:Hid (∀Z K4,StoP w0 Z K4 {P with cl:=updP P.cl i (countX (P.cl i) m)} →K4.B=K.B→Calls Tryz.prog 159 #[.pointer (some ⟨K.B,0,none⟩),.int .i64 (i:Int)] Z fun en W'=>en=.returned (.tuple #[])∧StTold w0 K4 {P with cl:=updP P.cl i (countX (P.cl i) m)} Z (doneP {P with cl:=updP P.cl i (countX (P.cl i) m)} i) W'):=fun Z K4 hz e=>by
   rw[←e];exact done_any hz hev hst hi
  have HP4:Hid (StoP w0 W2 {K with cv:=updP K.cv i (.slice a6 L cap6)} {P with cl:=updP P.cl i (countX (P.cl i) m)}):=by rw[HCX.out];exact HP6.out
  have HF4:=HF6;have e1:({K with cv:=updP K.cv i (.slice a6 L cap6)} :StK).B=K.B:=rfl;have e3:({K with cv:=updP K.cv i (.slice a6 L cap6)} :StK).C=K.C:=rfl;have HCl:Hid ((countX (P.cl i) m).cnt.length=L):=by show _=_;rw[HCX.out,HL6.out];simp
  clear HX2 HMb HMb2 HM HM3 HO3 HS6 HP6 HF6 HCX;generalize hcx:countX (P.cl i) m=cx at*
  generalize ({K with cv:=updP K.cv i (.slice a6 L cap6)} :StK)=K4 at*
  go_wp2_with fail
  generalize W2=W4 at*
  have HX4:Hid (∃a4 cap4,W4.cell? ⟨K.C,i*13+9,none⟩=some (.slice a4 L cap4)):=by
   obtain⟨a4,cap4,e4⟩:=ownsRow_slice (HP4.out.ct i hi);have hq:=(HP4.out.cx i hi).cv;rw[e3,e4] at hq;refine⟨a4,cap4,hq.trans ?_⟩;show some (Value.slice a4 (updP P.cl i cx i).cnt.length cap4)=_;rw[updP_same,HCl.out]
  obtain⟨a4,cap4,x9⟩:=HX4.out;have c2:W4.cell? ⟨K.B,3,none⟩=some (.int .i64 (P.tell:Int)):=by rw[←e1];exact HP4.out.cells.1.2.2.2.1
  have HBy:Hid (∀q:Nat,StoP w0 (W4.drewN q) K4 {P with cl:=updP P.cl i cx} ∧SFr K P.k W (W4.drewN q) K4):=fun q=>⟨HP4.out.below (below_drewN (Below.refl _ _) q),HF4.out.trans (SFr.below (below_drewN (Below.refl _ _) q))⟩
  clear HX4 HP4 HF4;by_cases hl:(P.cl i).cnt.length+1=P.tell
  ·have g2:((L:Int)==(P.tell:Int))=true:=by have:=HL6.out;simp;omega
   rw[if_pos hl] at HE;clear hl HL6 HCl;generalize P.cl i=x at*
   go_wp2_with fail
   go_quiet (fail)
   go_wp2_with fail
   refine(HAs.out _ K4 (HBy.out _).1 e1).mono ?_;rintro e W5 ⟨rfl,K5,h5,h6⟩;have HTd:Hid (StTold w0 K P W Pend W5):=⟨K5,by rw[HE.out];exact h5,(HBy.out _).2.trans h6⟩;clear h5 h6 HBy HAs;go_wp2;first | exact bodyPost_ret (results_none rfl _ _ _) rfl ⟨rfl,HTd.out⟩ | (go_end0;exact⟨rfl,HTd.out⟩)
  ·have g2:((L:Int)==(P.tell:Int))=false:=by have:=HL6.out;simp;omega
   rw[if_neg hl] at HE;clear hl HL6 HCl HAs;generalize P.cl i=x at*
   go_wp2_with fail
   go_quiet (fail)
   go_wp2;have HTd:Hid (∀q,StTold w0 K P W Pend (W4.drewN q)):=fun q=>⟨K4,by rw[HE.out];exact(HBy.out q).1,(HBy.out q).2⟩
   first | exact bodyPost_ret (results_none rfl _ _ _) rfl ⟨rfl,HTd.out _⟩ | (go_end0;exact⟨rfl,HTd.out _⟩)
end
end Go.Proofs.YtjpklmighoondaaGreatDoor.St
