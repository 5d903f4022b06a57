/-
  The program's store, walked: Deliver.
-/
import Derived.Test.YtjpklmighoondaaGreatDoorSwHY
namespace Go.Proofs.YtjpklmighoondaaGreatDoor.St
open Go.RowKit
def goes (P:Pst) (m:Mq):Bool:=letL P.nil (tabL (P.n+P.k) P.lr) m.fr m.tt
def deliC (P:Pst) (i:Int):Int:=match P.mails[i.toNat]? with
 | some m=>if 0≤i then if goes P m=true then 0 else 6 else 8
 | none=>8
def gotP (P:Pst) (m:Mq):Pst:=if m.tt < P.n then answerP P m else countP_ P m
def deliP (P:Pst) (i:Int):Pst:=match P.mails[i.toNat]? with
 | some m=>if 0≤i then if goes P m=true then gotP {P with mails:=P.mails.eraseIdx i.toNat} m else P else P
 | none=>P
structure PBnd (P : Pst) (b : Nat) : Prop where
 n7:P.n≤7
 k8:P.k≤8
 ev:P.evs.length≤9000
 st:P.sts.length≤9000
 ml:P.mails.length≤500
 b0:b≤9000
 mq:∀m,m∈P.mails→(0≤m.tt∧m.tt < (P.n:Int)+P.k)∧(0≤m.key∧m.key < 8)∧0≤m.t∧m.t≤b
 cl:∀i,i < P.k→(P.cl i).cnt.length≤b∧(0≤(P.cl i).rd∧(P.cl i).rd≤b)∧0≤(P.cl i).kept.s.t∧(P.cl i).kept.s.t≤b
section
variable {w0 W W' : World} {K : StK} {P : Pst}
theorem LkP.net {lv:Value} {nil:Bool} {M:List (List Bool)} (h:LkP W lv nil M):LnkN W (LTg W) lv nil M:=h
set_option maxRecDepth 100000 in
set_option maxHeartbeats 8000000 in
theorem deliver_any {b:Nat} (h:StoP w0 W K P) (hb:PBnd P b) (i:Int):
  Calls Tryz.prog 49 #[.pointer (some ⟨K.B,0,none⟩),.int .i64 i] W fun en W'=>en=.returned (toldE (deliC P i))∧StTold w0 K P W (deliP P i) W':=by
 have HP:=hideIt h;have HB:=hideIt hb;have HD:=hideIt (ptake_any i _ _ _ _ _ _ hb.ml _ _ _ _ h.net h.lk.net);clear h hb;go_enter Tryz.func49,Tryz.ntmps49
 go_wp2_with fail
 refine HD.out.mono ?_;clear HD;rintro e W2 (⟨ho,rfl,hb⟩ | ⟨k,m,rfl,hk,hn,rfl,hb⟩ | ⟨k,m,rfl,hk,hn,rfl,v',ht⟩)
 ·have HR:Hid (toldE (deliC P i)=.iface 55 (.int .i64 8)∧∀W3,Below W2.heap.size W2 W3→StTold w0 K P W (deliP P i) W3):=by
   have h1:deliC P i=8:=by
    unfold deliC
    split
    ·next m hm=>
     have:=(List.getElem?_eq_some_iff.1 hm).1;rw[if_neg (by omega)]
    ·rfl
   have h2:deliP P i=P:=by
    unfold deliP
    split
    ·next m hm=>
     have:=(List.getElem?_eq_some_iff.1 hm).1;rw[if_neg (by omega)]
    ·rfl
   rw[h1,h2];exact⟨rfl,fun W3 h3=>⟨K,HP.out.below (belJ hb h3),SFr.below (belJ hb h3)⟩⟩
  clear HP hb HB;unfold mqV mq0;go_wp2;go_ret;exact⟨by rw[HR.out.1];rfl,HR.out.2 _ (belA (Below.refl _ _) _)⟩
 ·have HR:Hid (toldE (deliC P (k:Int))=.iface 55 (.int .i64 6)∧∀W3,Below W2.heap.size W2 W3→StTold w0 K P W (deliP P (k:Int)) W3):=by
   have h1:deliC P (k:Int)=6:=by
    unfold deliC;rw[Int.toNat_natCast,hk];show (if (0:Int)≤k then if goes P m=true then (0:Int) else 6 else 8)=6;rw[if_pos (by omega),if_neg (by unfold goes;rw[hn];simp)]
   have h2:deliP P (k:Int)=P:=by
    unfold deliP;rw[Int.toNat_natCast,hk];show (if (0:Int)≤k then if goes P m=true then _ else P else P)=P;rw[if_pos (by omega),if_neg (by unfold goes;rw[hn];simp)]
   rw[h1,h2];exact⟨rfl,fun W3 h3=>⟨K,HP.out.below (belJ hb h3),SFr.below (belJ hb h3)⟩⟩
  clear HP hb HB hn;unfold mqV mq0;go_wp2;go_ret;exact⟨by rw[HR.out.1];rfl,HR.out.2 _ (belA (Below.refl _ _) _)⟩
 ·replace hn:goes P m=true:=hn;have hkl:k < P.mails.length:=(List.getElem?_eq_some_iff.1 hk).1;have hmm:m∈P.mails:=List.mem_of_getElem? hk;obtain⟨⟨ht0,ht1⟩,⟨hk0,hk1⟩,hs0,hs1⟩:=HB.out.mq m hmm;obtain⟨hP2,hF2⟩:=HP.out.mail ht;have HCd:Hid (toldE (deliC P (k:Int))=.nilIface):=by
   show _=_;unfold deliC;rw[Int.toNat_natCast,hk];show toldE (if (0:Int)≤k then if goes P m=true then (0:Int) else 6 else 8)=_;rw[if_pos (by omega),if_pos hn];rfl
  have HDe:Hid (deliP P (k:Int)=gotP {P with mails:=P.mails.eraseIdx k} m):=by
   show _=_;unfold deliP;rw[Int.toNat_natCast,hk];show (if (0:Int)≤k then if goes P m=true then gotP {P with mails:=P.mails.eraseIdx k} m else P else P)=_;rw[if_pos (by omega),if_pos hn]
  have HB2:Hid (W.heap.size≤W2.heap.size):=ht.size;have HP2:=hideIt hP2;have HF2:=hideIt hF2;generalize ({K with vm:=v'} :StK)=K2 at*
  have eB:K2.B=K.B:=HF2.out.B.1;have hBl:K.B < W2.heap.size:=by rw[←eB];exact HP2.out.ltB
  clear ht hP2 hF2 HP;have HN3:Hid (∀Z:World,Z.heap[W2.heap.size]?=some (.cells #[.int .i64 m.fr,.int .i64 m.tt,.int .i64 m.key,.int .i64 m.rd,.bool m.tells,.int .i64 m.t,.int .i64 m.c,.int .i64 m.v] 202)→Z.cell? ⟨W2.heap.size,0,none⟩=some (.int .i64 m.fr)∧Z.cell? ⟨W2.heap.size,1,none⟩=some (.int .i64 m.tt)∧Z.cell? ⟨W2.heap.size,2,none⟩=some (.int .i64 m.key)∧Z.cell? ⟨W2.heap.size,3,none⟩=some (.int .i64 m.rd)∧Z.cell? ⟨W2.heap.size,4,none⟩=some (.bool m.tells)∧Z.cell? ⟨W2.heap.size,5,none⟩=some (.int .i64 m.t)∧Z.cell? ⟨W2.heap.size,6,none⟩=some (.int .i64 m.c)∧Z.cell? ⟨W2.heap.size,7,none⟩=some (.int .i64 m.v)):=fun Z hZ=>blkMq hZ
  have hbW:Below W2.heap.size W2 (W2.alloc (.cells #[.int .i64 m.fr,.int .i64 m.tt,.int .i64 m.key,.int .i64 m.rd,.bool m.tells,.int .i64 m.t,.int .i64 m.c,.int .i64 m.v] 202)):=belA (Below.refl _ _) _;have hnw:=heap_alloc_new W2 (.cells #[.int .i64 m.fr,.int .i64 m.tt,.int .i64 m.key,.int .i64 m.rd,.bool m.tells,.int .i64 m.t,.int .i64 m.c,.int .i64 m.v] 202);have HP3:=hideIt (HP2.out.below hbW);have HF3:=hideIt (HF2.out.trans (SFr.below hbW));have HM3:=hideIt hnw;clear hbW hnw HP2 HF2;unfold mqV;go_upto_region 6 with fail
  generalize W2.alloc (.cells #[.int .i64 m.fr,.int .i64 m.tt,.int .i64 m.key,.int .i64 m.rd,.bool m.tells,.int .i64 m.t,.int .i64 m.c,.int .i64 m.v] 202)=W3 at*
  obtain⟨m0,m1,m2,m3,m4,m5,m6,m7⟩:=HN3.out W3 HM3.out;have c0:W3.cell? ⟨K.B,0,none⟩=some (.int .i64 (P.n:Int)):=by rw[←eB];exact HP3.out.cells.1.1
  by_cases hcase:m.tt < (P.n:Int)
  ·have g1:decide (m.tt < (P.n:Int))=true:=decide_eq_true hcase;have HAn:Hid (∀Z,Below W3.heap.size W3 Z→Calls Tryz.prog 104 #[.pointer (some ⟨K.B,0,none⟩),.agg #[.int .i64 m.fr,.int .i64 m.tt,.int .i64 m.key,.int .i64 m.rd,.bool m.tells,.int .i64 m.t,.int .i64 m.c,.int .i64 m.v]] Z fun en W'=>en=.returned (.tuple #[])∧StTold w0 K P W (deliP P (k:Int)) W'):=fun Z hZ=>by
    have ei:((m.tt.toNat:Nat):Int)=m.tt:=by omega
    have eq:((m.key.toNat:Nat):Int)=m.key:=by omega
    have:=answer_any (HP3.out.below hZ) (i:=m.tt.toNat) (q:=m.key.toNat) (by show m.tt.toNat < P.n;omega) (by omega) m.fr m.rd m.t m.c m.v m.tells;rw[ei,eq,eB] at this;refine this.mono fun en W' ⟨h1,K1,h2,h3⟩=>⟨h1,K1,?_,HF3.out.trans ((SFr.below hZ).trans h3)⟩
    rw[HDe.out];unfold gotP;rw[if_pos (show m.tt < _ from hcase)];exact h2
   clear HP3 HF3 HM3 HDe HN3 HB hmm hk hkl;clear hcase
   go_quiet (fail)
   go_wp2_with fail
   refine(HAn.out _ (below_drewN (Below.refl _ _) _)).mono ?_;rintro e W5 ⟨rfl,hT⟩;have HTd:=hideIt hT;clear hT HAn m0 m1 m2 m3 m4 m5 m6 m7 c0;go_wp2;go_ret;exact⟨by rw[HCd.out];rfl,HTd.out⟩
  ·have g1:decide (m.tt < (P.n:Int))=false:=decide_eq_false hcase;have HAn:Hid (∀Z,Below W3.heap.size W3 Z→Calls Tryz.prog 105 #[.pointer (some ⟨K.B,0,none⟩),.agg #[.int .i64 m.fr,.int .i64 m.tt,.int .i64 m.key,.int .i64 m.rd,.bool m.tells,.int .i64 m.t,.int .i64 m.c,.int .i64 m.v]] Z fun en W'=>en=.returned (.tuple #[])∧StTold w0 K P W (deliP P (k:Int)) W'):=fun Z hZ=>by
    obtain⟨n7,k8,ev,st,_,b0,_,cl⟩:=HB.out;obtain⟨j,hj⟩:∃j:Nat,m.tt=(P.n:Int)+j:=⟨(m.tt - P.n).toNat,by omega⟩;have hjk:j < P.k:=by omega
    obtain⟨l1,l2,l3⟩:=cl j hjk;have:=count_any (HP3.out.below hZ) n7 k8 ev st m (i:=j) hjk hj (by show (P.cl j).cnt.length≤9000;omega) (by show 0≤(P.cl j).rd∧(P.cl j).rd≤100000;omega) (by show 0≤(P.cl j).kept.s.t∧(P.cl j).kept.s.t≤100000;omega) (by omega);rw[eB] at this;refine this.mono fun en W' ⟨h1,K1,h2,h3⟩=>⟨h1,K1,?_,HF3.out.trans ((SFr.below hZ).trans h3)⟩
    rw[HDe.out];unfold gotP;rw[if_neg (show ¬m.tt < _ from hcase)];exact h2
   clear HP3 HF3 HM3 HDe HN3 HB hmm hk hkl;clear hcase
   go_quiet (fail)
   go_wp2_with fail
   refine(HAn.out _ (below_drewN (Below.refl _ _) _)).mono ?_;rintro e W5 ⟨rfl,hT⟩;have HTd:=hideIt hT;clear hT HAn m0 m1 m2 m3 m4 m5 m6 m7 c0;go_wp2;go_ret;exact⟨by rw[HCd.out];rfl,HTd.out⟩
end
end Go.Proofs.YtjpklmighoondaaGreatDoor.St
