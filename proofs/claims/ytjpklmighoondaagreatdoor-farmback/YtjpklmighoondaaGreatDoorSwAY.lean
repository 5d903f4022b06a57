/-
  The program's store, walked: stamps, entries, who is busy, which node one is.
  The program's store, walked: see, send, goRound.
-/
import Derived.Test.YtjpklmighoondaaGreatDoorStMY
import Derived.Test.YtjpklmighoondaaGreatDoorFieldsQY
set_option maxRecDepth 100000
namespace Go.Proofs.YtjpklmighoondaaGreatDoor.St
open Go.RowKit
theorem results_one {fn:Func} {p:Tmp} {ty:TypeId} (h:fn.results=#[.cell p ty]) (tmps:Array Value) (w:World) (g:Nat) (v:Value)
  (hp:tmps.getD p undef=.pointer (some ⟨g,0,none⟩)) (hl:(loadVar ty ⟨g,0,none⟩).run Tryz.prog w=.ok v w):(results fn tmps).run Tryz.prog w=.ok v w:=by
 have hp':tmps[p]?.getD undef=.pointer (some ⟨g,0,none⟩):=by simpa using hp
 simp[results,h,hp',asAddr,hl]
theorem sizeEn:(Tryz.prog.info? 114).map (·.size)=some 3:=by kernel_rfl
theorem loadEn {w:World} {g o:Nat} {h:Hd} (hh:HdAt w g o h):(loadVar 114 ⟨g,o,none⟩).run Tryz.prog w=.ok (.agg #[.int .i64 h.s.t,.int .i64 h.s.c,.int .i64 h.v]) w:=
 run_loadVar_mid w g o 114 [.int .i64 h.s.t,.int .i64 h.s.c,.int .i64 h.v] _ (fun j y hy=>by
  obtain⟨h0,h1,h2⟩:=hh
  match j with
  | 0=>simp at hy;subst hy;exact h0
  | 1=>simp at hy;subst hy;exact h1
  | 2=>simp at hy;subst hy;exact h2
  | j+3=>simp at hy) Tryz.underlying114 rfl sizeEn
theorem blkHd {w:World} {g:Nat} {t:TypeId} {h:Hd} (hb:w.heap[g]?=some (.cells #[.int .i64 h.s.t,.int .i64 h.s.c,.int .i64 h.v] t)):HdAt w g 0 h:=
 ⟨by rw[cell_of_row _ _ _ _ t _ hb];rfl,by rw[cell_of_row _ _ _ _ t _ hb];rfl,by rw[cell_of_row _ _ _ _ t _ hb];rfl⟩
theorem less_any (a b:Smp) (w:World):Calls Tryz.prog 224 #[.agg #[.int .i64 a.t,.int .i64 a.c],.agg #[.int .i64 b.t,.int .i64 b.c]] w fun e w'=>e=.returned (.bool (decide (a.lt b)))∧Below w.heap.size w w':=by
 have HB:=hideIt (belA (belA (Below.refl _ w) (.cells #[.int .i64 a.t,.int .i64 a.c] 112)) (.cells #[.int .i64 b.t,.int .i64 b.c] 112));by_cases h:a.t=b.t
 ·have h1:(a.t != b.t)=false:=by simp[h]
  have HE:Hid (decide (a.lt b)=decide (a.c < b.c)):=decide_eq_decide.2 (by unfold Smp.lt;omega);generalize decide (a.lt b)=r at HE ⊢;clear h;go_enter Tryz.func224,Tryz.ntmps224
  go_wp2;go_ret;exact⟨ret_bool HE.out.symm,HB.out⟩
 ·have h1:(a.t != b.t)=true:=by simp[h]
  have HE:Hid (decide (a.lt b)=decide (a.t < b.t)):=decide_eq_decide.2 (by unfold Smp.lt;omega);generalize decide (a.lt b)=r at HE ⊢;clear h;go_enter Tryz.func224,Tryz.ntmps224
  go_wp2;go_ret;exact⟨ret_bool HE.out.symm,HB.out⟩
theorem unwr_any (w:World):Calls Tryz.prog 42 #[] w fun e w'=>e=.returned (.agg #[.int .i64 hd0.s.t,.int .i64 hd0.s.c,.int .i64 hd0.v])∧Below w.heap.size w w':=by
 have hb:=heap_alloc_new w (.cells #[.int .i64 0,.int .i64 0,.int .i64 0] 114);have HB:Hid (Below w.heap.size w (w.alloc (.cells #[.int .i64 0,.int .i64 (-1),.int .i64 0] 114))):=belA (Below.refl _ _) _;have HN:Hid (HdAt (w.alloc (.cells #[.int .i64 0,.int .i64 (-1),.int .i64 0] 114)) w.heap.size 0 hd0):=blkHd (h:=hd0) (heap_alloc_new w _);clear hb;go_enter Tryz.func42,Tryz.ntmps42
 go_wp2;exact bodyPost_ret (results_one rfl _ _ _ _ rfl (loadEn HN.out)) rfl ⟨rfl,HB.out⟩
set_option maxHeartbeats 1000000 in
theorem newer_any (a b:Hd) (w:World):Calls Tryz.prog 154 #[.agg #[.int .i64 a.s.t,.int .i64 a.s.c,.int .i64 a.v],.agg #[.int .i64 b.s.t,.int .i64 b.s.c,.int .i64 b.v]] w fun e w'=>e=.returned (.agg #[.int .i64 (newerH a b).s.t,.int .i64 (newerH a b).s.c,.int .i64 (newerH a b).v])∧Below w.heap.size w w':=by
 have HL:=hideIt (fun Z=>less_any a.s b.s Z);have HE:Hid (newerH a b=if decide (a.s.lt b.s)=true then b else a):=by show _=_;unfold newerH;simp
 generalize newerH a b=r at HE ⊢;generalize decide (a.s.lt b.s)=le at HE HL;have b0:=heap_alloc_new w (.cells #[.int .i64 a.s.t,.int .i64 a.s.c,.int .i64 a.v] 114);have HB0:=hideIt (belA (belA (belA (Below.refl _ w) (.cells #[.int .i64 a.s.t,.int .i64 a.s.c,.int .i64 a.v] 114)) (.cells #[.int .i64 b.s.t,.int .i64 b.s.c,.int .i64 b.v] 114)) (.cells #[.int .i64 0,.int .i64 0,.int .i64 0] 114));have HX:Hid (∀W,W=((w.alloc (.cells #[.int .i64 a.s.t,.int .i64 a.s.c,.int .i64 a.v] 114)).alloc (.cells #[.int .i64 b.s.t,.int .i64 b.s.c,.int .i64 b.v] 114)).alloc (.cells #[.int .i64 0,.int .i64 0,.int .i64 0] 114)→W.heap[w.heap.size]?=some (.cells #[.int .i64 a.s.t,.int .i64 a.s.c,.int .i64 a.v] 114)∧W.heap[w.heap.size+1]?=some (.cells #[.int .i64 b.s.t,.int .i64 b.s.c,.int .i64 b.v] 114)∧W.heap[w.heap.size+1+1]?=some (.cells #[.int .i64 0,.int .i64 0,.int .i64 0] 114)):=fun W hW=>by
  subst hW;refine⟨?_,?_,?_⟩
  ·rw[Below.heap_alloc _ _ _ (by simp;omega),Below.heap_alloc _ _ _ (by simp)];exact heap_alloc_new w _
  ·rw[Below.heap_alloc _ _ _ (by simp)];have:=heap_alloc_new (w.alloc (.cells #[.int .i64 a.s.t,.int .i64 a.s.c,.int .i64 a.v] 114)) (.cells #[.int .i64 b.s.t,.int .i64 b.s.c,.int .i64 b.v] 114)
   simpa using this
  ·have:=heap_alloc_new ((w.alloc (.cells #[.int .i64 a.s.t,.int .i64 a.s.c,.int .i64 a.v] 114)).alloc (.cells #[.int .i64 b.s.t,.int .i64 b.s.c,.int .i64 b.v] 114)) (.cells #[.int .i64 0,.int .i64 0,.int .i64 0] 114)
   simpa using this
 clear b0;go_enter Tryz.func154,Tryz.ntmps154
 go_upto_region 1 with fail
 obtain⟨x0,x1,x2⟩:=HX.out _ rfl;generalize ((w.alloc _).alloc _).alloc _=W0 at*
 have HX0:=hideIt x0;have HX1:=hideIt x1;have HX2:=hideIt x2;obtain⟨y0,y1,y2⟩:=blkHd (h:=a) x0;obtain⟨z0,z1,z2⟩:=blkHd (h:=b) x1;clear x0 x1 x2 HX;go_wp2_with fail
 refine(HL.out _).mono ?_;rintro e W1 ⟨rfl,hb1⟩;have e0:=(hb1.block _ (lt_of_heap HX0.out)).trans HX0.out;have e1:=(hb1.block _ (lt_of_heap HX1.out)).trans HX1.out;have e2:=(hb1.block _ (lt_of_heap HX2.out)).trans HX2.out;have HB1:=hideIt (belJ HB0.out hb1);have HE2:=hideIt e2;clear y0 y1 y2 z0 z1 z2;obtain⟨y0,y1,y2⟩:=blkHd (h:=a) e0;obtain⟨z0,z1,z2⟩:=blkHd (h:=b) e1;obtain⟨q0,q1,q2⟩:=blkHd (h:=⟨⟨0,0⟩,0⟩) e2;have fz:=fun j=>frozen_of_row W1 (w.heap.size+1+1) j _ 114 e2
 have hS:∀v0 v1 v2,(((W1.setCell ⟨w.heap.size+1+1,0,none⟩ v0).setCell ⟨w.heap.size+1+1,1,none⟩ v1).setCell ⟨w.heap.size+1+1,2,none⟩ v2).heap[w.heap.size+1+1]?=some (.cells #[v0,v1,v2] 114):=fun v0 v1 v2=>
  heap_setCell_same _ _ 2 _ 114 _ (heap_setCell_same _ _ 1 _ 114 _ (heap_setCell_same _ _ 0 _ 114 _ HE2.out))
 have HS:=hideIt hS;have HBs:Hid (∀v0 v1 v2,Below w.heap.size w (((W1.setCell ⟨w.heap.size+1+1,0,none⟩ v0).setCell ⟨w.heap.size+1+1,1,none⟩ v1).setCell ⟨w.heap.size+1+1,2,none⟩ v2)):=fun v0 v1 v2=>
  ((HB1.out.setCell (p:=⟨w.heap.size+1+1,0,none⟩) (show w.heap.size≤w.heap.size+1+1 by omega) v0).setCell (p:=⟨w.heap.size+1+1,1,none⟩) (show w.heap.size≤w.heap.size+1+1 by omega) v1).setCell (p:=⟨w.heap.size+1+1,2,none⟩) (show w.heap.size≤w.heap.size+1+1 by omega) v2
 clear hS e0 e1 e2 hb1 HL HX0 HX1 HX2 HB0;cases le
 ·have hr:r=a:=HE.out.trans (if_neg (by decide));have HR:=hideIt hr;go_wp2;exact bodyPost_ret (results_one rfl _ _ _ _ rfl (loadEn (blkHd (h:=a) (HS.out _ _ _)))) rfl ⟨by rw[HR.out],HBs.out _ _ _⟩
 ·have hr:r=b:=HE.out.trans (if_pos rfl);have HR:=hideIt hr;go_wp2;exact bodyPost_ret (results_one rfl _ _ _ _ rfl (loadEn (blkHd (h:=b) (HS.out _ _ _)))) rfl ⟨by rw[HR.out],HBs.out _ _ _⟩
section
variable {w0 W : World} {K : StK} {P : Pst}
theorem busyC_any (h:StoP w0 W K P) {i:Nat} (hi:i < P.k):Calls Tryz.prog 156 #[.pointer (some ⟨K.C,i*13,none⟩)] W fun e w'=>e=.returned (.bool (P.cl i).busy)∧w'=W:=by
 have c0:=(h.cx i hi).at_;unfold Pcl.busy;generalize (P.cl i).at_=x at*
 clear h hi;by_cases h1:x=1
 ·have g1:(x==1)=true:=by simp[h1]
  have HE:Hid ((decide (x=1)||decide (x=2))=true):=by show _=_;simp[h1]
  clear h1;go_enter Tryz.func156,Tryz.ntmps156
  go_wp2;go_ret;exact⟨ret_bool HE.out.symm,rfl⟩
 ·have g1:(x==1)=false:=by simp[h1]
  have HE:Hid ((decide (x=1)||decide (x=2))=(x==2)):=by show _=_;simp[h1];rfl
  clear h1;go_enter Tryz.func156,Tryz.ntmps156
  go_wp2;go_ret;exact⟨ret_bool HE.out.symm,rfl⟩
theorem hasC_any (h:StoP w0 W K P) (c:Int):Calls Tryz.prog 148 #[.pointer (some ⟨K.B,0,none⟩),.int .i64 c] W fun e w'=>e=.returned (.bool (decide (0≤c∧c < P.k)))∧w'=W:=by
 have c8:=h.cells.2.2.2.2.1;generalize hr:decide (0≤c∧c < P.k)=r;have HR:=hideIt hr;clear h hr;by_cases h0:0≤c
 ·have g0:decide (c≥0)=true:=decide_eq_true h0;by_cases h1:c < P.k
  ·have g1:decide (c < (P.k:Int))=true:=decide_eq_true h1;have HE:Hid (r=true):=HR.out.symm.trans (decide_eq_true ⟨h0,h1⟩);go_enter Tryz.func148,Tryz.ntmps148
   go_wp2;go_ret;exact⟨ret_bool HE.out.symm,rfl⟩
  ·have g1:decide (c < (P.k:Int))=false:=decide_eq_false h1;have HE:Hid (r=false):=HR.out.symm.trans (decide_eq_false fun h=>h1 h.2);go_enter Tryz.func148,Tryz.ntmps148
   go_wp2;go_ret;exact⟨ret_bool HE.out.symm,rfl⟩
 ·have g0:decide (c≥0)=false:=decide_eq_false h0;have HE:Hid (r=false):=HR.out.symm.trans (decide_eq_false fun h=>h0 h.1);go_enter Tryz.func148,Tryz.ntmps148
  go_wp2;go_ret;exact⟨ret_bool HE.out.symm,rfl⟩
set_option maxHeartbeats 1000000 in
theorem busyS_any (h:StoP w0 W K P) (hk8:P.k≤8):Calls Tryz.prog 149 #[.pointer (some ⟨K.B,0,none⟩)] W fun e w'=>e=.returned (.int .i64 ((busyP P:Nat):Int))∧w'=W:=by
 have c8:=h.cells.2.2.2.2.1;have HC:Hid (∀i,i < P.k→Calls Tryz.prog 156 #[.pointer (some ⟨K.C,i*13,none⟩)] W fun e w'=>e=.returned (.bool (P.cl i).busy)∧w'=W):=fun i hi=>busyC_any h hi
 have HE:Hid (busyP P=(List.range P.k).countP fun j=>(P.cl j).busy):=rfl;generalize busyP P=r at HE ⊢;clear h;go_enter Tryz.func149,Tryz.ntmps149
 go_wp2
 go_loopw [10,3] (fun v cv wr=>∃i:Nat,i≤P.k∧v=.int .i64 i∧cv=.int .i64 (((List.range i).countP fun j=>(P.cl j).busy:Nat):Int)∧wr=W) (fun v _ _=>P.k - (intOf v).toNat)
 case atStart=>exact⟨0,Nat.zero_le _,rfl,rfl,rfl⟩
 case round=>
  obtain⟨i,hi,rfl,rfl,rfl⟩:=hrel;by_cases hik:i < P.k
  ·have hik':(i:Int) < P.k:=by omega
   have hcl:((List.range i).countP fun j=>(P.cl j).busy)≤8:=Nat.le_trans List.countP_le_length (by simp;omega);have HN:Hid (((List.range (i+1)).countP fun j=>(P.cl j).busy)=((List.range i).countP fun j=>(P.cl j).busy)+if (P.cl i).busy=true then 1 else 0):=by
    show _=_;rw[List.range_succ,List.countP_append,List.countP_singleton]
   have HCi:=hideIt (HC.out i hik);generalize ((List.range i).countP fun j=>(P.cl j).busy)=c0 at*
   generalize (P.cl i).busy=b at*
   go_wp2_with fail
   refine HCi.out.mono ?_;rintro e w1 ⟨rfl,rfl⟩;cases b
   ·go_wp2
    go_roundw
    case rel=>exact⟨i+1,by omega,by go_num,by rw[HN.out];simp,trivial⟩
    case measure=>simp[intOf];omega
   ·go_wp2
    go_roundw
    case rel=>exact⟨i+1,by omega,by go_num,by rw[HN.out];simp,trivial⟩
    case measure=>simp[intOf];omega
  ·obtain rfl:i=P.k:=by omega
   go_wp2;go_ret;exact⟨ret_int (by rw[HE.out]),rfl⟩
set_option maxHeartbeats 1000000 in
theorem free_any (h:StoP w0 W K P) (hk8:P.k≤8) (hev:P.evs.length≤9000) (c:Int):Calls Tryz.prog 101 #[.pointer (some ⟨K.B,0,none⟩),.int .i64 c] W fun e w'=>e=.returned (toldE (freeP P c))∧Below W.heap.size W w':=by
 have HH:=hideIt (hasC_any h c);have c8:=h.cells.2.2.2.2.1;have c9:=h.cells.2.2.2.2.2.1;obtain⟨ea,ec,ee⟩:=ownsRow_slice h.ev;rw[ee] at c9;have HBy:Hid (∀q:Nat,Calls Tryz.prog 149 #[.pointer (some ⟨K.B,0,none⟩)] (W.drewN q) fun e w'=>e=.returned (.int .i64 ((busyP P:Nat):Int))∧w'=W.drewN q):=fun q=>busyS_any (h.below (below_drewN (Below.refl _ _) q)) hk8
 by_cases h0:0≤c∧c < P.k
 ·rw[decide_eq_true h0] at HH;obtain⟨i,rfl⟩:∃i:Nat,c=i:=⟨c.toNat,by omega⟩;have hik:i < P.k:=by omega
  have hik':(i:Int) < P.k:=by omega
  have a0:=(h.cx i hik).at_;have HF:Hid (freeP P i=if (P.cl i).at_≠0 then 6 else if 120 < P.evs.length+2+busyP P then 4 else 0):=by
   show _=_;unfold freeP;rw[if_neg (by omega),Int.toNat_natCast]
  have hbl:busyP P≤8:=Nat.le_trans List.countP_le_length (by simp;omega);generalize freeP P i=f at HF ⊢;generalize (P.cl i).at_=x at*
  generalize busyP P=by_ at*
  generalize P.evs.length=el at*
  clear h;by_cases hx:x=0
  ·have g1:(x != 0)=false:=by simp[hx]
   have HF2:Hid (f=if 120 < el+2+by_ then 4 else 0):=HF.out.trans (if_neg (by simp[hx]));clear hx HF;go_enter Tryz.func101,Tryz.ntmps101
   go_wp2_with fail
   refine HH.out.mono ?_;rintro e w1 ⟨rfl,rfl⟩;by_cases h120:120 < el+2+by_
   ·have g2:decide ((el:Int)+2+(by_:Int) > 120)=true:=decide_eq_true (by omega);have HF3:Hid (f=4):=HF2.out.trans (if_pos h120);go_wp2_with fail
    go_quiet ((go_at_call 149;exact Calls.quiet_of_same (HBy.out _)))
    go_wp2;go_ret;exact⟨by rw[HF3.out];rfl,below_drewN (Below.refl _ _) _⟩
   ·have g2:decide ((el:Int)+2+(by_:Int) > 120)=false:=decide_eq_false (by omega);have HF3:Hid (f=0):=HF2.out.trans (if_neg h120);go_wp2_with fail
    go_quiet ((go_at_call 149;exact Calls.quiet_of_same (HBy.out _)))
    go_wp2;go_ret;exact⟨by rw[HF3.out];rfl,below_drewN (Below.refl _ _) _⟩
  ·have g1:(x != 0)=true:=by simp[hx]
   have HF2:Hid (f=6):=HF.out.trans (if_pos hx);clear hx;go_enter Tryz.func101,Tryz.ntmps101
   go_wp2_with fail
   refine HH.out.mono ?_;rintro e w1 ⟨rfl,rfl⟩;go_wp2;go_ret;exact⟨by rw[HF2.out];rfl,Below.refl _ _⟩
 ·rw[decide_eq_false h0] at HH;have HF:Hid (freeP P c=2):=by
   show _=_;unfold freeP;rw[if_pos (by omega)]
  generalize freeP P c=f at HF ⊢;clear h;go_enter Tryz.func101,Tryz.ntmps101
  go_wp2_with fail
  refine HH.out.mono ?_;rintro e w1 ⟨rfl,rfl⟩;go_wp2;go_ret;exact⟨by rw[HF.out];rfl,Below.refl _ _⟩
end
end Go.Proofs.YtjpklmighoondaaGreatDoor.St
namespace Go.Proofs.YtjpklmighoondaaGreatDoor.St
open Go.RowKit
def StTold (w0:World) (K:StK) (P:Pst) (W:World) (P':Pst) (W':World):Prop:=∃K',StoP w0 W' K' P'∧SFr K P.k W W' K'
theorem infoEv:(Tryz.prog.info? 54).map (fun i=>(i.zero,i.size,i.bytes))=some (some (Value.agg #[.int .i64 0,.int .i64 0,.int .i64 0,.int .i64 0,.int .i64 0,.int .i64 0,.int .i64 0]),7,56):=by kernel_rfl
theorem infoSp:(Tryz.prog.info? 112).map (fun i=>(i.zero,i.size,i.bytes))=some (some (Value.agg #[.int .i64 0,.int .i64 0]),2,16):=by kernel_rfl
theorem run_appE {w:World} {base B:Nat} {v:Value} {L:List Evp} {e:Evp} (hown:w.ownsRow base 54 7 v L.length (evCs L)) (hB:w.heap[B]?=some (.cells #[.int .i64 e.p,.int .i64 e.t,.int .i64 e.k,.int .i64 e.d,.int .i64 e.a,.int .i64 e.b,.int .i64 e.r] 54)) (hb:base≤w.heap.size) (hL:L.length≤9000) (ty:TypeId):
  ∃v' w',(Builtin.append_ #[32,32] ty #[v,.slice (some ⟨B,0,none⟩) 1 1]).run Tryz.prog w=.ok v' w'∧w'.ownsRow base 54 7 v' (L++ [e]).length (evCs (L++ [e]))∧w.grownBy w' v.ownBlock∧(v'.ownBlock=v.ownBlock∨v'.ownBlock=some w.heap.size):=by
 obtain⟨i,hi,hz,hsz,hby⟩:=info_parts' infoEv;have hnews:∀j u,(evC e)[j]?=some u→w.cell? ((⟨B,0,none⟩:Addr).add j)=some u:=by
  intro j u hj;rw[Addr.add_lit,Nat.zero_add,cell_of_row _ _ _ _ 54 _ hB];rw[←hj];simp[evC]
 obtain⟨v',w',hr,ho,hg,_,hob⟩:=run_append_own_at (P:=Tryz.prog) (w:=w) base 32 ty 54 i _ 7 56 Tryz.underlying32 hi hz hsz hby rfl (by decide) v _ _ hown ⟨B,0,none⟩ 1 1 (evC e) rfl hnews (by simp[evC,Value.oneCell']) (by unfold maxLen;omega) (by omega) hb;refine⟨v',w',hr,?_,hg,hob⟩;rw[evCs_app,List.length_append];exact ho
theorem run_appS {w:World} {base B:Nat} {v:Value} {L:List Smp} {s:Smp} (hown:w.ownsRow base 112 2 v L.length (spCs L)) (hB:w.heap[B]?=some (.cells #[.int .i64 s.t,.int .i64 s.c] 112)) (hb:base≤w.heap.size) (hL:L.length≤9000) (ty:TypeId):
  ∃v' w',(Builtin.append_ #[108,108] ty #[v,.slice (some ⟨B,0,none⟩) 1 1]).run Tryz.prog w=.ok v' w'∧w'.ownsRow base 112 2 v' (L++ [s]).length (spCs (L++ [s]))∧w.grownBy w' v.ownBlock∧(v'.ownBlock=v.ownBlock∨v'.ownBlock=some w.heap.size):=by
 obtain⟨i,hi,hz,hsz,hby⟩:=info_parts' infoSp;have hnews:∀j u,(spC s)[j]?=some u→w.cell? ((⟨B,0,none⟩:Addr).add j)=some u:=by
  intro j u hj;rw[Addr.add_lit,Nat.zero_add,cell_of_row _ _ _ _ 112 _ hB];rw[←hj];simp[spC]
 obtain⟨v',w',hr,ho,hg,_,hob⟩:=run_append_own_at (P:=Tryz.prog) (w:=w) base 108 ty 112 i _ 2 16 Tryz.underlying108 hi hz hsz hby rfl (by decide) v _ _ hown ⟨B,0,none⟩ 1 1 (spC s) rfl hnews (by simp[spC,Value.oneCell']) (by unfold maxLen;omega) (by omega) hb;refine⟨v',w',hr,?_,hg,hob⟩;rw[spCs_app,List.length_append];exact ho
theorem blkEv {w:World} {g:Nat} {t:TypeId} {e:Evp} (hb:w.heap[g]?=some (.cells #[.int .i64 e.p,.int .i64 e.t,.int .i64 e.k,.int .i64 e.d,.int .i64 e.a,.int .i64 e.b,.int .i64 e.r] t)):w.cell? ⟨g,0,none⟩=some (.int .i64 e.p)∧w.cell? ⟨g,1,none⟩=some (.int .i64 e.t)∧w.cell? ⟨g,2,none⟩=some (.int .i64 e.k)∧w.cell? ⟨g,3,none⟩=some (.int .i64 e.d)∧w.cell? ⟨g,4,none⟩=some (.int .i64 e.a)∧w.cell? ⟨g,5,none⟩=some (.int .i64 e.b)∧w.cell? ⟨g,6,none⟩=some (.int .i64 e.r):=by
 have hc:=fun i=>cell_of_row w g i _ t _ hb
 exact⟨by rw[hc];rfl,by rw[hc];rfl,by rw[hc];rfl,by rw[hc];rfl,by rw[hc];rfl,by rw[hc];rfl,by rw[hc];rfl⟩
theorem blkSp {w:World} {g:Nat} {t:TypeId} {s:Smp} (hb:w.heap[g]?=some (.cells #[.int .i64 s.t,.int .i64 s.c] t)):w.cell? ⟨g,0,none⟩=some (.int .i64 s.t)∧w.cell? ⟨g,1,none⟩=some (.int .i64 s.c):=
 ⟨by rw[cell_of_row _ _ _ _ t _ hb];rfl,by rw[cell_of_row _ _ _ _ t _ hb];rfl⟩
section
variable {w0 W : World} {K : StK} {P : Pst}
set_option maxHeartbeats 4000000 in
theorem see_any (h:StoP w0 W K P) (hev:P.evs.length≤9000) (hst:P.sts.length≤9000) (e:Evp) (s:Smp):
  Calls Tryz.prog 150 #[.pointer (some ⟨K.B,0,none⟩),.agg #[.int .i64 e.p,.int .i64 e.t,.int .i64 e.k,.int .i64 e.d,.int .i64 e.a,.int .i64 e.b,.int .i64 e.r],.agg #[.int .i64 s.t,.int .i64 s.c]] W fun en W'=>en=.returned (.tuple #[])∧StTold w0 K P W (seeP P e s) W':=by
 have hb0:Below W.heap.size W ((W.alloc (.cells #[.int .i64 e.p,.int .i64 e.t,.int .i64 e.k,.int .i64 e.d,.int .i64 e.a,.int .i64 e.b,.int .i64 e.r] 54)).alloc (.cells #[.int .i64 s.t,.int .i64 s.c] 112)):=belA (belA (Below.refl _ _) _) _;have hE:((W.alloc (.cells #[.int .i64 e.p,.int .i64 e.t,.int .i64 e.k,.int .i64 e.d,.int .i64 e.a,.int .i64 e.b,.int .i64 e.r] 54)).alloc (.cells #[.int .i64 s.t,.int .i64 s.c] 112)).heap[W.heap.size]?=some (.cells #[.int .i64 e.p,.int .i64 e.t,.int .i64 e.k,.int .i64 e.d,.int .i64 e.a,.int .i64 e.b,.int .i64 e.r] 54):=by
  rw[Below.heap_alloc _ _ _ (by simp)];exact heap_alloc_new W _
 have hS:((W.alloc (.cells #[.int .i64 e.p,.int .i64 e.t,.int .i64 e.k,.int .i64 e.d,.int .i64 e.a,.int .i64 e.b,.int .i64 e.r] 54)).alloc (.cells #[.int .i64 s.t,.int .i64 s.c] 112)).heap[W.heap.size+1]?=some (.cells #[.int .i64 s.t,.int .i64 s.c] 112):=by
  have:=heap_alloc_new (W.alloc (.cells #[.int .i64 e.p,.int .i64 e.t,.int .i64 e.k,.int .i64 e.d,.int .i64 e.a,.int .i64 e.b,.int .i64 e.r] 54)) (.cells #[.int .i64 s.t,.int .i64 s.c] 112)
  simpa using this
 have HP1:=hideIt (h.below hb0);have HF1:Hid (SFr K P.k W _ K):=SFr.below hb0;have HE:=hideIt hE;have HS:=hideIt hS;have hBl:=h.ltB;have hOw:∀b,K.own P.k b→b < W.heap.size:=fun b hb=>(h.own_lt hb).2
 have HOw:=hideIt hOw;clear h hb0 hE hS hOw;go_enter Tryz.func150,Tryz.ntmps150
 go_upto_region 1 with fail
 generalize (W.alloc _).alloc _=W1 at*
 obtain⟨va,vc,eve⟩:=ownsRow_slice HP1.out.ev;have HT:Hid (∀Z,Below W1.heap.size W1 Z→Z.cell? ⟨K.B,9,none⟩=some (.slice va P.evs.length vc)):=fun Z hZ=>by
  rw[←eve];exact(HP1.out.below hZ).cells.2.2.2.2.2.1
 have HU:Hid (∀Z,Below W1.heap.size W1 Z→Z.cell? ⟨W.heap.size,0,none⟩=some (.int .i64 e.p)∧Z.cell? ⟨W.heap.size,1,none⟩=some (.int .i64 e.t)∧Z.cell? ⟨W.heap.size,2,none⟩=some (.int .i64 e.k)∧Z.cell? ⟨W.heap.size,3,none⟩=some (.int .i64 e.d)∧Z.cell? ⟨W.heap.size,4,none⟩=some (.int .i64 e.a)∧Z.cell? ⟨W.heap.size,5,none⟩=some (.int .i64 e.b)∧Z.cell? ⟨W.heap.size,6,none⟩=some (.int .i64 e.r)):=fun Z hZ=>blkEv ((hZ.block _ (lt_of_heap HE.out)).trans HE.out)
 refine wp_region_L (B:= [7,10]) (S:=fun _=>True) (T:=fun Z=>Below W1.heap.size W1 Z) (by kernel_rfl) ⟨trivial,(Below.refl _ _).drew⟩ (fun hHeld=>?_);refine tkS 0 ?_ rfl ?_ ?_;rotate_left 1
 ·intro wz _;go_simp;all_goals with_reducible rfl
 simp only[Act.put,p1,p2,p3,p4,p5];refine tkS 1 ?_ rfl ?_ ?_;rotate_left 1
 ·intro wz _;go_simp;all_goals with_reducible rfl
 simp only[Act.put,p1,p2,p3,p4,p5,p6];refine tkS 2 ?_ rfl ?_ ?_;rotate_left 1
 ·intro wz _;go_simp;all_goals with_reducible rfl
 simp only[Act.put,p1,p2,p3,p4,p5,p6];refine tkS 3 ?_ rfl ?_ ?_;rotate_left 1
 ·intro wz _;go_simp;all_goals with_reducible rfl
 simp only[Act.put,p1,p2,p3,p4,p5,p6];refine tkL [7,8,9,10] 4 ?_ rfl ?_ ?_;rotate_left 1
 ·intro wz sb;have y0:=HT.out wz sb.2;go_simp;all_goals with_reducible rfl
 simp only[Act.put,p1,p2,p3,p4,p5,p6];refine tkL [6,7,8,9,10] 5 ?_ rfl ?_ ?_;rotate_left 1
 ·intro wz sb;obtain⟨y0,y1,y2,y3,y4,y5,y6⟩:=HU.out wz sb.2;go_simp;all_goals with_reducible rfl
 simp only[Act.put,p1,p2,p3,p4,p5,p6];generalize W1.drew=Y0 at hHeld ⊢;refine wpAnyL_ready (rs:= [6]) (by kernel_rfl) (by simp) (AllReadyL.cons rfl (fun Q hQ=>?_) AllReadyL.nil);go_simp;have hb1:Below W1.heap.size W1 (Y0.alloc (.cells #[.int .i64 e.p,.int .i64 e.t,.int .i64 e.k,.int .i64 e.d,.int .i64 e.a,.int .i64 e.b,.int .i64 e.r] 54)):=hHeld.2.alloc hHeld.2.size _;have hnew:=heap_alloc_new Y0 (.cells #[.int .i64 e.p,.int .i64 e.t,.int .i64 e.k,.int .i64 e.d,.int .i64 e.a,.int .i64 e.b,.int .i64 e.r] 54);refine hQ.out _ _ ⟨trivial,hb1⟩ (fun hHeld2=>?_);clear hQ Q hb1;generalize Y0.alloc (.cells #[.int .i64 e.p,.int .i64 e.t,.int .i64 e.k,.int .i64 e.d,.int .i64 e.a,.int .i64 e.b,.int .i64 e.r] 54)=Y1 at*
 have hP:=HP1.out.below hHeld2.2;have hF:=HF1.out.trans (SFr.below hHeld2.2);obtain⟨v',w6,hr,ho,hg,hob⟩:=run_appE (e:=e) hP.ev hnew hP.bel.size hev 32;obtain⟨hP6,hF6⟩:=hP.pushE ho hg hob;have hs6:w6.heap[W.heap.size+1]?=some (.cells #[.int .i64 s.t,.int .i64 s.c] 112):=by
  refine(hg.block _ (Nat.lt_of_lt_of_le (lt_of_heap HS.out) hHeld2.2.size) fun e'=>?_).trans ((hHeld2.2.block _ (lt_of_heap HS.out)).trans HS.out);have:=HOw.out (W.heap.size+1) (.inr (.inr (.inr (.inr (.inl e'.symm)))));omega
 have eB:w6.heap[K.B]?=Y1.heap[K.B]?:=hg.block K.B hP.ltB fun e'=>ne_tagD hP.tB (hP.tE e'.symm) (by decide) rfl
 have c6:w6.cell? ⟨K.B,9,none⟩=some (.slice va P.evs.length vc):=by
  rw[World.cell?_of_block (a:=⟨K.B,9,none⟩) eB,←eve];exact hP.cells.2.2.2.2.2.1
 have f6:w6.frozen? ⟨K.B,9,none⟩=false:=(World.frozen?_of_block (a:=⟨K.B,9,none⟩) eB).trans (hP.fzB 9);rw[eve] at hr;refine wpAnyL_ready (rs:= [7]) (by kernel_rfl) (by simp) (AllReadyL.last rfl (by kernel_rfl) (fun Q hQ=>?_) AllReadyL.nil);refine step_append_run (by rfl) _ _ 32 rfl _ _ v' w6 rfl rfl hr ?_;obtain⟨a6,cap6,ev6⟩:=ownsRow_slice ho;rw[ev6] at hP6 hF6;have hlen:(P.evs++ [e]).length=P.evs.length+1:=by simp
 rw[ev6,hlen];rw[hlen] at hP6 hF6;have HP6:=hideIt hP6;have HF6:=hideIt (hF.trans hF6);have hS6:(w6.setCell ⟨K.B,9,none⟩ (.slice a6 (P.evs.length+1) cap6)).heap[W.heap.size+1]?=some (.cells #[.int .i64 s.t,.int .i64 s.c] 112):=(Below.heap_setCell _ ⟨K.B,9,none⟩ _ _ (show W.heap.size+1≠K.B by omega)).trans hs6;have HS6:=hideIt hS6;simp only[Act.put,List.setIfInBounds_toArray];refine hQ.out _ _ trivial (fun _=>?_);clear hQ Q hr ho hg hob hP hF hHeld hHeld2 hnew eB HT HU hs6 hS6 hP6 hF6 HE HS HP1 HF1 ev6 hlen eve;refine tkE 8 ?_ rfl ?_ ?_;rotate_left 1
 ·intro wz _;go_simp;all_goals with_reducible rfl
 simp only[Act.put,p1,p2,p3,p4,p5,p6];refine tkE 9 ?_ rfl ?_ ?_;rotate_left 1
 ·intro wz _;go_simp;all_goals with_reducible rfl
 simp only[Act.put,p1,p2,p3,p4,p5,p6];refine wpAnyL_ready (rs:= [10]) (by kernel_rfl) (by simp) (AllReadyL.last rfl (by kernel_rfl) (fun Q hQ=>?_) AllReadyL.nil);go_simp;refine hQ.out _ _ trivial (fun _=>?_);clear hQ Q c6 f6;refine wpAnyL_done (by kernel_rfl) ?_ _;go_wp2_with fail
 generalize w6.setCell ⟨K.B,9,none⟩ (.slice a6 (P.evs.length+1) cap6)=W2 at*
 obtain⟨sa,sc,esv⟩:=ownsRow_slice HP6.out.st;replace esv:K.vs=.slice sa P.sts.length sc:=esv;have HT:Hid (∀Z,Below W2.heap.size W2 Z→Z.cell? ⟨K.B,10,none⟩=some (.slice sa P.sts.length sc)):=fun Z hZ=>by
  rw[←esv];exact(HP6.out.below hZ).cells.2.2.2.2.2.2
 have HU:Hid (∀Z,Below W2.heap.size W2 Z→Z.cell? ⟨W.heap.size+1,0,none⟩=some (.int .i64 s.t)∧Z.cell? ⟨W.heap.size+1,1,none⟩=some (.int .i64 s.c)):=fun Z hZ=>blkSp ((hZ.block _ (lt_of_heap HS6.out)).trans HS6.out)
 refine wp_region_L (B:= [7,10]) (S:=fun _=>True) (T:=fun Z=>Below W2.heap.size W2 Z) (by kernel_rfl) ⟨trivial,(Below.refl _ _).drew⟩ (fun hHeld=>?_);refine tkS 0 ?_ rfl ?_ ?_;rotate_left 1
 ·intro wz _;go_simp;all_goals with_reducible rfl
 simp only[Act.put,p1,p2,p3,p4,p5];refine tkS 1 ?_ rfl ?_ ?_;rotate_left 1
 ·intro wz _;go_simp;all_goals with_reducible rfl
 simp only[Act.put,p1,p2,p3,p4,p5,p6];refine tkS 2 ?_ rfl ?_ ?_;rotate_left 1
 ·intro wz _;go_simp;all_goals with_reducible rfl
 simp only[Act.put,p1,p2,p3,p4,p5,p6];refine tkS 3 ?_ rfl ?_ ?_;rotate_left 1
 ·intro wz _;go_simp;all_goals with_reducible rfl
 simp only[Act.put,p1,p2,p3,p4,p5,p6];refine tkL [7,8,9,10] 4 ?_ rfl ?_ ?_;rotate_left 1
 ·intro wz sb;have y0:=HT.out wz sb.2;go_simp;all_goals with_reducible rfl
 simp only[Act.put,p1,p2,p3,p4,p5,p6];refine tkL [6,7,8,9,10] 5 ?_ rfl ?_ ?_;rotate_left 1
 ·intro wz sb;obtain⟨y0,y1⟩:=HU.out wz sb.2;go_simp;all_goals with_reducible rfl
 simp only[Act.put,p1,p2,p3,p4,p5,p6];generalize W2.drew=Y0 at hHeld ⊢;refine wpAnyL_ready (rs:= [6]) (by kernel_rfl) (by simp) (AllReadyL.cons rfl (fun Q hQ=>?_) AllReadyL.nil);go_simp;have hb1:Below W2.heap.size W2 (Y0.alloc (.cells #[.int .i64 s.t,.int .i64 s.c] 112)):=hHeld.2.alloc hHeld.2.size _;have hnew:=heap_alloc_new Y0 (.cells #[.int .i64 s.t,.int .i64 s.c] 112);refine hQ.out _ _ ⟨trivial,hb1⟩ (fun hHeld2=>?_);clear hQ Q hb1;generalize Y0.alloc (.cells #[.int .i64 s.t,.int .i64 s.c] 112)=Y1 at*
 have hP:=HP6.out.below hHeld2.2;have hF:=HF6.out.trans (SFr.below hHeld2.2);obtain⟨v2,w7,hr,ho,hg,hob⟩:=run_appS (s:=s) hP.st hnew hP.bel.size hst 108;obtain⟨hP7,hF7⟩:=hP.pushS ho hg hob;have eB:w7.heap[K.B]?=Y1.heap[K.B]?:=hg.block K.B hP.ltB fun e'=>ne_tagD hP.tB (hP.tS e'.symm) (by decide) rfl
 have c6:w7.cell? ⟨K.B,10,none⟩=some (.slice sa P.sts.length sc):=by
  rw[World.cell?_of_block (a:=⟨K.B,10,none⟩) eB,←esv];exact hP.cells.2.2.2.2.2.2
 have f6:w7.frozen? ⟨K.B,10,none⟩=false:=(World.frozen?_of_block (a:=⟨K.B,10,none⟩) eB).trans (hP.fzB 10);replace hr:(Builtin.append_ #[108,108] 108 #[K.vs,.slice (some ⟨Y0.heap.size,0,none⟩) 1 1]).run Tryz.prog Y1=.ok v2 w7:=hr;rw[esv] at hr;refine wpAnyL_ready (rs:= [7]) (by kernel_rfl) (by simp) (AllReadyL.last rfl (by kernel_rfl) (fun Q hQ=>?_) AllReadyL.nil);refine step_append_run (by rfl) _ _ 108 rfl _ _ v2 w7 rfl rfl hr ?_;have HR:Hid (StTold w0 K P W (seeP P e s) (w7.setCell ⟨K.B,10,none⟩ v2)):=⟨_,hP7,hF.trans hF7⟩;obtain⟨a7,n7,cap7,rfl⟩:∃a n c,v2=.slice a n c:=by
  obtain⟨a,c,e'⟩:=ownsRow_slice ho;exact⟨a,_,c,e'⟩
 simp only[Act.put,List.setIfInBounds_toArray];refine hQ.out _ _ trivial (fun _=>?_);clear hQ Q hr ho hg hob hP hF hHeld hHeld2 hnew eB HT HU hP7 hF7 HP6 HF6 HS6 esv;refine tkE 8 ?_ rfl ?_ ?_;rotate_left 1
 ·intro wz _;go_simp;all_goals with_reducible rfl
 simp only[Act.put,p1,p2,p3,p4,p5,p6];refine tkE 9 ?_ rfl ?_ ?_;rotate_left 1
 ·intro wz _;go_simp;all_goals with_reducible rfl
 simp only[Act.put,p1,p2,p3,p4,p5,p6];refine wpAnyL_ready (rs:= [10]) (by kernel_rfl) (by simp) (AllReadyL.last rfl (by kernel_rfl) (fun Q hQ=>?_) AllReadyL.nil);go_simp;refine hQ.out _ _ trivial (fun _=>?_);clear hQ Q c6 f6;refine wpAnyL_done (by kernel_rfl) ?_ _;go_wp2
 go_end0
 exact⟨rfl,HR.out⟩
set_option maxHeartbeats 4000000 in
theorem sendS_any (h:StoP w0 W K P) (m:Mq):
  Calls Tryz.prog 155 #[.pointer (some ⟨K.B,0,none⟩),.int .i64 m.fr,.int .i64 m.tt,.agg #[.int .i64 m.key,.int .i64 m.rd,.bool m.tells,.int .i64 m.t,.int .i64 m.c,.int .i64 m.v]] W fun en W'=>en=.returned (.tuple #[])∧StTold w0 K P W (sendP P m) W':=by
 have hb0:Below W.heap.size W (W.alloc (.cells #[.int .i64 m.key,.int .i64 m.rd,.bool m.tells,.int .i64 m.t,.int .i64 m.c,.int .i64 m.v] 200)):=belA (Below.refl _ _) _;have HP1:=hideIt (h.below hb0);have HF1:Hid (SFr K P.k W _ K):=SFr.below hb0;have HM:Hid ((W.alloc (.cells #[.int .i64 m.key,.int .i64 m.rd,.bool m.tells,.int .i64 m.t,.int .i64 m.c,.int .i64 m.v] 200)).heap[W.heap.size]?=some (.cells #[.int .i64 m.key,.int .i64 m.rd,.bool m.tells,.int .i64 m.t,.int .i64 m.c,.int .i64 m.v] 200)):=heap_alloc_new W _;clear h hb0;go_enter Tryz.func155,Tryz.ntmps155
 go_upto_region 1 with fail
 generalize W.alloc _=W1 at*
 have HU:Hid (∀Z,Below W1.heap.size W1 Z→Z.cell? ⟨W.heap.size,0,none⟩=some (.int .i64 m.key)∧Z.cell? ⟨W.heap.size,1,none⟩=some (.int .i64 m.rd)∧Z.cell? ⟨W.heap.size,2,none⟩=some (.bool m.tells)∧Z.cell? ⟨W.heap.size,3,none⟩=some (.int .i64 m.t)∧Z.cell? ⟨W.heap.size,4,none⟩=some (.int .i64 m.c)∧Z.cell? ⟨W.heap.size,5,none⟩=some (.int .i64 m.v)):=fun Z hZ=>by
  have hb:=(hZ.block _ (lt_of_heap HM.out)).trans HM.out;have hc:=fun i=>cell_of_row Z W.heap.size i _ 200 _ hb
  exact⟨by rw[hc];rfl,by rw[hc];rfl,by rw[hc];rfl,by rw[hc];rfl,by rw[hc];rfl,by rw[hc];rfl⟩
 refine wp_region_L (B:= [7]) (S:=fun _=>True) (T:=fun Z=>Below W1.heap.size W1 Z) (by kernel_rfl) ⟨trivial,(Below.refl _ _).drew⟩ (fun hHeld=>?_);refine tkS 0 ?_ rfl ?_ ?_;rotate_left 1
 ·intro wz _;go_simp;all_goals with_reducible rfl
 simp only[Act.put,p1,p2,p3,p4,p5];refine tkS 1 ?_ rfl ?_ ?_;rotate_left 1
 ·intro wz _;go_simp;all_goals with_reducible rfl
 simp only[Act.put,p1,p2,p3,p4,p5,p6];refine tkS 2 ?_ rfl ?_ ?_;rotate_left 1
 ·intro wz _;go_simp;all_goals with_reducible rfl
 simp only[Act.put,p1,p2,p3,p4,p5,p6];refine tkS 3 ?_ rfl ?_ ?_;rotate_left 1
 ·intro wz _;go_simp;all_goals with_reducible rfl
 simp only[Act.put,p1,p2,p3,p4,p5,p6];refine tkS 4 ?_ rfl ?_ ?_;rotate_left 1
 ·intro wz _;go_simp;all_goals with_reducible rfl
 simp only[Act.put,p1,p2,p3,p4,p5,p6];refine tkL [6,7] 5 ?_ rfl ?_ ?_;rotate_left 1
 ·intro wz sb;obtain⟨y0,y1,y2,y3,y4,y5⟩:=HU.out wz sb.2;go_simp;all_goals with_reducible rfl
 simp only[Act.put,p1,p2,p3,p4,p5,p6];refine tkS 6 ?_ rfl ?_ ?_;rotate_left 1
 ·intro wz _;go_simp;all_goals with_reducible rfl
 simp only[Act.put,p1,p2,p3,p4,p5,p6];have hP:=HP1.out.below hHeld.2;have hF:=HF1.out.trans (SFr.below hHeld.2);have HS:=hideIt (psend_any m _ _ _ _ _ _ _ hP.net);generalize W1.drew=Y0 at*
 refine wpAnyL_ready (rs:= [7]) (by kernel_rfl) (by simp) (AllReadyL.last rfl (by kernel_rfl) (fun Q hQ=>?_) AllReadyL.nil);go_simp;refine HS.out.mono ?_;clear HS;rintro e W2 (⟨hfull,rfl,hb2⟩ | ⟨hroom,rfl,v2,ht⟩)
 ·have HR:Hid (StTold w0 K P W (sendP P m) W2):=⟨K,by unfold sendP;rw[if_neg (by omega)];exact hP.below hb2,hF.trans (SFr.below hb2)⟩;refine hQ.out _ _ trivial (fun _=>?_);clear hQ Q hP hF hb2 HP1 HF1 HU HM;refine wpAnyL_done (by kernel_rfl) ?_ _;go_wp2
  go_end0
  exact⟨rfl,HR.out⟩
 ·obtain⟨hP2,hF2⟩:=hP.mail ht;have HR:Hid (StTold w0 K P W (sendP P m) W2):=⟨_,by unfold sendP;rw[if_pos hroom];exact hP2,hF.trans hF2⟩;refine hQ.out _ _ trivial (fun _=>?_);clear hQ Q hP hF ht HP1 HF1 HU HM hP2 hF2;refine wpAnyL_done (by kernel_rfl) ?_ _;go_wp2
  go_end0
  exact⟨rfl,HR.out⟩
end
end Go.Proofs.YtjpklmighoondaaGreatDoor.St
