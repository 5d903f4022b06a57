/-
  Chapter 17: the program's own way against the document's (plain).
  Chapter 17: the program's own way against the document's: what is delivered; all moves (plain).
  Chapter 17: what is seen of the program's store (plain).
-/
import Derived.Test.YtjpklmighoondaaGreatDoorSwMZ
import Derived.Test.YtjpklmighoondaaGreatDoorAbVZ
namespace Go.Proofs.YtjpklmighoondaaGreatDoor.St
def HdG (h:Hd):Prop:=h=hd0∨1≤h.s.t
def evp (x:Sn):Evp:=⟨x.proc,x.typ,x.key,if x.write then 2 else 1,x.a,0,x.res⟩
structure MlSim (n : Nat) (m : Mq) (x : Ml) : Prop where
 fr:x.fr=m.fr
 tt:x.to=m.tt
 key:x.l.key=m.key
 rd:x.l.rd=m.rd
 ask:m.tt < n→x.l.tells=m.tells∧(m.tells=true→x.l.h=mqH m)
 ans:(n:Int)≤m.tt→x.l.h=mqH m
 g:HdG (mqH m)
def MlsSim (n:Nat) (L:List Mq) (M:List Ml):Prop:=L.length=M.length∧∀(i:Nat) (m:Mq) (x:Ml),L[i]?=some m→M[i]?=some x→MlSim n m x
structure ClOn (c : Nat) (p : Pcl) (x : Cl) : Prop where
 call:p.call=callP c x.key x.write x.value
 val:x.write=false→x.value=0
 tells:x.tells=decide (p.at_=2)
 cnt:x.cnt=p.cnt
 g:HdG p.kept
 kept:p.at_=2∨p.cnt≠ []→x.kept=p.kept
 first:p.at_=1→p.cnt= []→p.kept=hd0∧x.kept=hdN
 key:0≤x.key∧x.key < 8
structure ClSim (c ask tell : Nat) (p : Pcl) (x : Cl) : Prop where
 busy:x.busy=p.busy
 gone:x.gone=true↔p.at_=3
 at3:p.at_=0∨p.at_=1∨p.at_=2∨p.at_=3
 rd:x.rd=p.rd
 on:p.busy=true→ClOn c p x∧p.cnt.length < (if p.at_=2 then tell else ask)
structure MqIn (n k : Nat) (m : Mq) : Prop where
 fr:0≤m.fr∧m.fr < (n:Int)+k
 tt:0≤m.tt∧m.tt < (n:Int)+k
 key:0≤m.key∧m.key < 8
 asks:m.tt < n→(n:Int)≤m.fr
structure Sim (P : Pst) (S : Sto) : Prop where
 n:S.n=P.n
 k:S.k=P.k
 ask:S.ask=P.ask
 tell:S.tell=P.tell
 back:S.back=P.back
 n1:1≤P.n
 a1:1≤P.ask
 t1:1≤P.tell
 lk:∀a b:Int,0≤a→a < (P.n:Int)+P.k→0≤b→b < (P.n:Int)+P.k→S.links a b=letL P.nil (tabL (P.n+P.k) P.lr) a b
 ml:MlsSim P.n P.mails S.mails
 mq:∀m,m∈P.mails→MqIn P.n P.k m
 hs:∀i q:Nat,i < P.n→q < 8→S.has i q=P.has i q∧HdG (P.has i q)
 cl:∀i:Nat,i < P.k→ClSim i P.ask P.tell (P.cl i) (S.cl i)
 ev:P.evs=S.seen.map evp∧P.sts=S.seen.map Sn.at_
section
variable {P : Pst} {S : Sto}
theorem Pcl.busy_iff (p:Pcl):p.busy=true↔p.at_=1∨p.at_=2:=by unfold Pcl.busy;simp
theorem HdG.t0 {h:Hd} (g:HdG h):0≤h.s.t:=by
 rcases g with rfl | g
 ·exact Int.le_refl _
 ·omega
theorem Sim.turn (h:Sim P S) {c:Nat} {p:Pcl} {x:Cl} (hx:ClSim c P.ask P.tell p x):Sim {P with cl:=updP P.cl c p} {S with cl:=updC S.cl c x} :=by
 refine⟨h.n,h.k,h.ask,h.tell,h.back,h.n1,h.a1,h.t1,h.lk,h.ml,h.mq,h.hs,fun i hi=>?_,h.ev⟩;show ClSim i P.ask P.tell (updP P.cl c p i) (updC S.cl c x i);by_cases e:i=c
 ·subst e;rw[updP_same,updC_same];exact hx
 ·rw[updP_ne _ _ e,updC_ne _ _ (by omega)];exact h.cl i hi
theorem Sim.see (h:Sim P S) (e:Sn):Sim {P with evs:=P.evs++ [evp e],sts:=P.sts++ [e.at_]} {S with seen:=S.seen++ [e]} :=
 ⟨h.n,h.k,h.ask,h.tell,h.back,h.n1,h.a1,h.t1,h.lk,h.ml,h.mq,h.hs,h.cl,by
  constructor
  ·show P.evs++ [evp e]=(S.seen++ [e]).map evp;rw[h.ev.1];simp
  ·show P.sts++ [e.at_]=(S.seen++ [e]).map Sn.at_;rw[h.ev.2];simp⟩
theorem Sim.mails (h:Sim P S) {L:List Mq} {M:List Ml} (h':MlsSim P.n L M) (hb:∀m,m∈L→MqIn P.n P.k m):Sim {P with mails:=L} {S with mails:=M} :=
 ⟨h.n,h.k,h.ask,h.tell,h.back,h.n1,h.a1,h.t1,h.lk,h',hb,h.hs,h.cl,h.ev⟩
def sendQ (l:List Mq) (m:Mq):List Mq:=if l.length < 500 then l++ [m] else l
theorem sendP_eq (P:Pst) (m:Mq):sendP P m= {P with mails:=sendQ P.mails m} :=by
 unfold sendP sendQ
 split<;>rfl
theorem MlsSim.send {n:Nat} {L:List Mq} {M:List Ml} (h:MlsSim n L M) {m:Mq} {x:Ml} (hm:MlSim n m x):MlsSim n (sendQ L m) (sendL M x):=by
 unfold sendQ sendL;rw[h.1]
 split
 ·refine⟨by simp[h.1],fun i a b ha hb=>?_⟩;rcases Nat.lt_or_ge i L.length with hi | hi
  ·rw[List.getElem?_append_left hi] at ha;rw[List.getElem?_append_left (by rw[←h.1];exact hi)] at hb;exact h.2 i a b ha hb
  ·rw[List.getElem?_append_right hi] at ha;rw[List.getElem?_append_right (by rw[←h.1];exact hi),←h.1] at hb;have h0:i - L.length=0:=by
    have:=(List.getElem?_eq_some_iff.1 ha).1
    simpa using this
   rw[h0] at ha hb;simp at ha hb;rw[←ha,←hb];exact hm
 ·exact h
theorem mem_sendQ {l:List Mq} {m a:Mq} (h:a∈sendQ l m):a∈l∨a=m:=by
 unfold sendQ at h
 split at h
 ·rcases List.mem_append.1 h with h | h
  ·exact .inl h
  ·exact .inr (List.mem_singleton.1 h)
 ·exact .inl h
theorem Sim.send (h:Sim P S) {m:Mq} {x:Ml} (hm:MlSim P.n m x) (hi:MqIn P.n P.k m):Sim (sendP P m) {S with mails:=sendL S.mails x} :=by
 rw[sendP_eq];exact h.mails (h.ml.send hm) fun a ha=>(mem_sendQ ha).elim (h.mq a) fun e=>by rw[e];exact hi
theorem Sim.sends {c:Nat} {p:Pcl} {x:Cl} (hck:c < P.k) (hk:p.call.k=x.key∧p.rd=x.rd∧x.tells=decide (p.at_=2)) (hg:HdG p.kept) (ht:x.tells=true→x.kept=p.kept) (hkey:0≤x.key∧x.key < 8) (h:Sim P S):
  ∀m,m≤P.n→Sim (sendsP P c p m) {S with mails:=(List.range m).foldl (fun l (j:Nat)=>sendL l ⟨S.n+c,j,⟨c,x.key,x.rd,x.tells,x.kept⟩⟩) S.mails} ∧(sendsP P c p m).n=P.n∧(sendsP P c p m).k=P.k:=by
 intro m
 induction m with
 | zero=>exact fun _=>⟨h,rfl,rfl⟩
 | succ m ih=>
  intro hm;obtain⟨h1,h2,h3⟩:=ih (by omega);have e:sendsP P c p (m+1)=sendP (sendsP P c p m) (msgP (sendsP P c p m).n c p m):=by
   unfold sendsP;rw[List.range_succ,List.foldl_append];rfl
  have e2:(sendP (sendsP P c p m) (msgP (sendsP P c p m).n c p m)).n=(sendsP P c p m).n∧(sendP (sendsP P c p m) (msgP (sendsP P c p m).n c p m)).k=(sendsP P c p m).k:=by
   rw[sendP_eq];exact⟨rfl,rfl⟩
  rw[e,List.range_succ,List.foldl_append];refine⟨h1.send ⟨?_,rfl,hk.1.symm,hk.2.1.symm,fun _=>⟨hk.2.2,fun ht'=>ht (hk.2.2.trans ht')⟩,fun hn=>?_,hg⟩ ⟨⟨?_,?_⟩,⟨?_,?_⟩,?_,fun _=>?_⟩,e2.1.trans h2,e2.2.trans h3⟩
  ·show (S.n:Int)+c=((sendsP P c p m).n:Int)+c;rw[h2,h.n]
  ·have hn':(((sendsP P c p m).n:Nat):Int)≤(m:Int):=hn;rw[h2] at hn';omega
  ·show (0:Int)≤((sendsP P c p m).n:Int)+c;omega
  ·show ((sendsP P c p m).n:Int)+c < ((sendsP P c p m).n:Int)+((sendsP P c p m).k:Int);rw[h3];omega
  ·show (0:Int)≤m;omega
  ·show (m:Int) < ((sendsP P c p m).n:Int)+((sendsP P c p m).k:Int);rw[h2];omega
  ·show 0≤p.call.k∧p.call.k < 8;rw[hk.1];exact hkey
  ·show ((sendsP P c p m).n:Int)≤((sendsP P c p m).n:Int)+c;omega
theorem Sim.round (h:Sim P S) {c:Nat} (hck:c < P.k) {p:Pcl} {x:Cl} (hx:ClSim c P.ask P.tell p x) (hb:p.busy=true):Sim (sendsP {P with cl:=updP P.cl c p} c p P.n) {S with cl:=updC S.cl c x,mails:=sendAll S.mails S.n c x} :=by
 obtain⟨ho,hl⟩:=hx.on hb;have hr:=(Sim.sends (P:= {P with cl:=updP P.cl c p}) (S:= {S with cl:=updC S.cl c x}) (c:=c) (p:=p) (x:=x) hck ⟨by rw[ho.call];rfl,hx.rd.symm,ho.tells⟩ ho.g (fun ht=>ho.kept (.inl (of_decide_eq_true (ho.tells.symm.trans ht)))) ho.key (h.turn hx) P.n (Nat.le_refl _)).1;have e:(⟨S.n,S.k,S.ask,S.tell,S.back,S.links,(List.range P.n).foldl (fun l (j:Nat)=>sendL l ⟨S.n+c,j,⟨c,x.key,x.rd,x.tells,x.kept⟩⟩) S.mails,S.has,updC S.cl c x,S.seen⟩:Sto)= {S with cl:=updC S.cl c x,mails:=sendAll S.mails S.n c x} :=by
  unfold sendAll;rw[h.n]
 rw[←e];exact hr
theorem Sim.busyN (h:Sim P S):busyP P=busyN S:=by
 unfold busyP _root_.Go.Proofs.YtjpklmighoondaaGreatDoor.busyN;rw[h.k];refine List.countP_congr fun j hj=>?_
 rw[(h.cl j (List.mem_range.1 hj)).busy]
theorem Sim.free (h:Sim P S) (c:Int):freeP P c=freeE S c:=by
 unfold freeP freeE;rw[h.k]
 split
 ·rfl
 ·have hc:(c.toNat:Int)=c:=by omega
  have hx:=h.cl c.toNat (by omega);rw[hc] at hx;have e1:((P.cl c.toNat).at_≠0)↔((S.cl c).busy=true∨(S.cl c).gone=true):=by
   rw[hx.busy,hx.gone,Pcl.busy_iff];have:=hx.at3;omega
  have e2:P.evs.length=S.seen.length:=by rw[h.ev.1];simp
  rw[h.busyN,e2];simp only[e1]
theorem Sim.begE (h:Sim P S) (c key:Int) (wr:Bool) (v:Int):begC P c key wr v=beginE S c key wr v:=by
 unfold begC beginE;rw[h.free];have:begB key wr v=true↔(key < 0∨7 < key∨numB v=false∨(v≠0∧wr=false)):=by
  unfold begB numB;cases wr<;>simp<;>omega
 simp only[this]
theorem Sim.beg (h:Sim P S) {c key v:Int} {wr:Bool} (he:beginE S c key wr v=0):Sim (begP P c key wr v) (beginS S c key wr v):=by
 have hb:=h.begE c key wr v;rw[he] at hb;unfold begC at hb;unfold begP
 split at hb
 ·cases hb
 ·next hg=>
  rw[if_neg hg,if_pos hb];obtain⟨hc0,hck⟩:=freeP_zero hb;obtain⟨c,rfl⟩:∃n:Nat,c=n:=⟨c.toNat,by omega⟩;rw[Int.toNat_natCast];have hck:c < P.k:=by omega
  have hx:=h.cl c hck;have h0:(P.cl c).at_=0:=by
   unfold freeP at hb
   split at hb
   ·cases hb
   ·split at hb
    ·cases hb
    ·next hn=>rw[Int.toNat_natCast] at hn;exact Classical.byContradiction hn
  have hg':(0≤key∧key < 8)∧(wr=false→v=0):=by
   unfold begB at hg;refine⟨?_,fun hw=>?_⟩
   ·cases wr<;>simp at hg<;>omega
   ·subst hw;simp at hg;omega
  have hnb:(P.cl c).busy=false:=by
   cases e:(P.cl c).busy with
   | false=>rfl
   | true=>have:=(Pcl.busy_iff _).1 e;omega
  have hgone:(S.cl c).gone=false:=by
   cases e:(S.cl c).gone with
   | false=>rfl
   | true=>have:=hx.gone.1 e;omega
  have hs:=h.see (snOf c (beginC (S.cl c) key wr v) 1 0 zeroS);have ee:evp (snOf c (beginC (S.cl c) key wr v) 1 0 zeroS)=callP c key wr v:=by
   have:=hg'.2;unfold evp snOf beginC callP;cases wr
   ·simp[this]
   ·rfl
  rw[ee] at hs;have e:beginP P c key wr v=sendsP {({P with evs:=P.evs++ [callP c key wr v],sts:=P.sts++ [zeroS]} :Pst) with cl:=updP P.cl c (roundX {P.cl c with call:=callP c key wr v,kept:=hd0} 1)} c (roundX {P.cl c with call:=callP c key wr v,kept:=hd0} 1) P.n:=by
   unfold beginP roundP;simp only[updP_same,updP_updP]
  rw[e];refine hs.round hck (x:=roundC (beginC (S.cl c) key wr v)) ⟨rfl,?_,.inr (.inl rfl),?_,fun _=>⟨⟨rfl,hg'.2,rfl,rfl,.inl rfl,fun hx=>?_,fun _ _=>⟨rfl,rfl⟩,hg'.1⟩,h.a1⟩⟩ rfl
  ·show (S.cl c).gone=true↔(1:Int)=3;rw[hgone];simp
  ·show (S.cl c).rd+1=(P.cl c).rd+1;rw[hx.rd]
  ·rcases hx with hx | hx
   ·exact absurd (show (1:Int)=2 from hx) (by decide)
   ·exact absurd rfl hx
theorem Sim.giveE (h:Sim P S) (c:Int):giveC P c=giveE S c:=by
 unfold giveC _root_.Go.Proofs.YtjpklmighoondaaGreatDoor.giveE;rw[h.k];by_cases hc:c < 0∨(P.k:Int)≤c
 ·rw[if_pos hc,if_neg (by omega)]
 ·rw[if_neg hc,if_pos (by omega)];have hx:=h.cl c.toNat (by omega);have hc:(c.toNat:Int)=c:=by omega
  rw[hc] at hx;rw[hx.busy];cases (P.cl c.toNat).busy<;>rfl
theorem Sim.give (h:Sim P S) {c:Int} (he:Go.Proofs.YtjpklmighoondaaGreatDoor.giveE S c=0):Sim (givePP P c) (giveS S c):=by
 have hb:=h.giveE c;rw[he] at hb;unfold giveC at hb;unfold givePP
 split at hb
 ·next hc=>
  split at hb
  ·next hbz=>
   rw[if_pos hc,if_pos hbz];obtain⟨c,rfl⟩:∃n:Nat,c=n:=⟨c.toNat,by omega⟩;rw[Int.toNat_natCast] at*
   have hx:=h.cl c (by omega);obtain⟨ho,_⟩:=hx.on hbz;have hs:=(h.see (snOf c (S.cl c) 4 0 zeroS)).turn (c:=c) (p:= {P.cl c with at_:=3}) (x:= {S.cl c with busy:=false,gone:=true}) ⟨rfl,⟨fun _=>rfl,fun _=>rfl⟩,.inr (.inr (.inr rfl)),hx.rd,fun hb=>absurd (show false=true from hb) (by decide)⟩;have ee:evp (snOf c (S.cl c) 4 0 zeroS)= {(P.cl c).call with t:=4} :=by
    rw[ho.call];have:=ho.val;unfold evp snOf callP;cases e:(S.cl c).write
    ·simp[this e]
    ·simp
   rw[ee] at hs;exact hs
  ·cases hb
 ·cases hb
end
end Go.Proofs.YtjpklmighoondaaGreatDoor.St
namespace Go.Proofs.YtjpklmighoondaaGreatDoor.St
section
variable {P : Pst} {S : Sto}
theorem newerH_g {a b:Hd} (ha:HdG a) (hb:HdG b):HdG (newerH a b):=by
 unfold newerH
 split
 ·exact hb
 ·exact ha
theorem newerH_first {h:Hd} (g:HdG h):newerH hd0 h=h:=by
 unfold newerH;rcases g with rfl | g
 ·split<;>rfl
 ·rw[if_pos (.inl (show (0:Int) < h.s.t by omega))]
theorem Sim.node (h:Sim P S) {m:Mq} {x:Ml} (hm:MlSim P.n m x) (hi:MqIn P.n P.k m) (ht:m.tt < P.n):Sim (answerP P m) (nodeS S x):=by
 obtain⟨i,hi1⟩:∃i:Nat,m.tt=i:=⟨m.tt.toNat,by have:=hi.tt;omega⟩;obtain⟨q,hq1⟩:∃q:Nat,m.key=q:=⟨m.key.toNat,by have:=hi.key;omega⟩;have hin:i < P.n:=by omega
 have hq8:q < 8:=by have:=hi.key;omega
 obtain⟨hh,hg⟩:=h.hs i q hin hq8;have e1:x.to=(i:Int):=hm.tt.trans hi1;have e2:x.l.key=(q:Int):=hm.key.trans hq1;have hy:nodeH (S.has x.to x.l.key) x.l=answerH (P.has m.tt.toNat m.key.toNat) m:=by
  rw[e1,e2,hi1,hq1,Int.toNat_natCast,Int.toNat_natCast,hh];obtain⟨a1,a2⟩:=hm.ask ht;unfold nodeH answerH newerH;rw[a1];cases hc:m.tells
  ·simp
  ·simp[a2 hc]
 have hyg:HdG (answerH (P.has m.tt.toNat m.key.toNat) m):=by
  rw[hi1,hq1,Int.toNat_natCast,Int.toNat_natCast];unfold answerH
  split
  ·exact newerH_g hg hm.g
  ·exact hg
 unfold answerP nodeS;rw[hy];generalize answerH (P.has m.tt.toNat m.key.toNat) m=y at*
 refine Sim.send (P:= {P with has:=upd2 P.has m.tt.toNat m.key.toNat y}) (S:= {S with has:=updH S.has x.to x.l.key y}) ⟨h.n,h.k,h.ask,h.tell,h.back,h.n1,h.a1,h.t1,h.lk,h.ml,h.mq,fun j s hj hs=>?_,h.cl,h.ev⟩ ⟨hm.tt,hm.fr,hm.key,hm.rd,fun hn=>?_,fun _=>rfl,hyg⟩ ⟨hi.tt,hi.fr,hi.key,fun hn=>?_⟩
 ·show updH S.has x.to x.l.key y j s=upd2 P.has m.tt.toNat m.key.toNat y j s∧HdG (upd2 P.has m.tt.toNat m.key.toNat y j s);unfold updH upd2;rw[e1,e2,hi1,hq1,Int.toNat_natCast,Int.toNat_natCast];by_cases e:j=i∧s=q
  ·rw[if_pos e,if_pos (by omega)];exact⟨rfl,hyg⟩
  ·rw[if_neg e,if_neg (by omega)];exact h.hs j s hj hs
 ·have:=hi.asks ht;have hn':m.fr < (P.n:Int):=hn;omega
 ·have:=hi.asks ht;have hn':m.fr < (P.n:Int):=hn;omega
theorem ClOn.count {c:Nat} {p:Pcl} {x:Cl} (h:ClOn c p x) {m:Mq} {l:Hd} (hl:l=mqH m) (hg:HdG (mqH m)) (hb:p.at_=1∨p.at_=2):ClOn c (countX p m) (countC x m.fr l):=by
 subst hl;have hk:(countC x m.fr (mqH m)).kept=(countX p m).kept:=by
  show (if x.tells=false∧x.kept.s.lt (mqH m).s then mqH m else x.kept)=if p.at_=1 then newerH p.kept (mqH m) else p.kept
  rw[h.tells];rcases hb with hb | hb
  ·rw[if_pos hb,hb];by_cases hc:p.cnt= []
   ·obtain⟨f1,f2⟩:=h.first hb hc;rw[f1,f2,newerH_first hg,if_pos];refine⟨rfl,.inl ?_⟩;have:=hg.t0;show (-1:Int) < (mqH m).s.t;omega
   ·rw[h.kept (.inr hc)];unfold newerH;simp
  ·rw[if_neg (show ¬p.at_=1 by omega),hb,if_neg (by simp)];exact h.kept (.inl hb)
 refine⟨h.call,h.val,h.tells,?_,?_,fun _=>hk,fun _ hc=>absurd hc (by simp[countX]),h.key⟩
 ·show x.cnt++ [m.fr]=p.cnt++ [m.fr];rw[h.cnt]
 ·show HdG (if p.at_=1 then newerH p.kept (mqH m) else p.kept)
  split
  ·exact newerH_g h.g hg
  ·exact h.g
theorem Sim.done (h:Sim P S) {c:Nat} {p:Pcl} {x:Cl} (ho:ClOn c p x) (hk:x.kept=p.kept) (hr:x.rd=p.rd) (hgn:x.gone=false):Sim (doneP {P with cl:=updP P.cl c p} c) (doneS S c x):=by
 have hs:=(h.see (snOf c x 2 (if x.write then 0 else x.kept.v) x.kept.s)).turn (c:=c) (p:= {p with at_:=0}) (x:= {x with busy:=false}) ⟨rfl,⟨fun e=>absurd (hgn.symm.trans e) (by decide),fun e=>absurd (show (0:Int)=3 from e) (by decide)⟩,.inl rfl,hr,fun hb=>absurd (show false=true from hb) (by decide)⟩;have ee:evp (snOf c x 2 (if x.write then 0 else x.kept.v) x.kept.s)=endP p:=by
  unfold endP;rw[ho.call,hk];have:=ho.val;unfold evp snOf callP;cases e:x.write
  ·simp[this e]
  ·simp
 rw[ee] at hs;unfold doneP doneS;simp only[updP_same,updP_updP];have e3:(snOf c x 2 (if x.write then 0 else x.kept.v) x.kept.s).at_=p.kept.s:=by show x.kept.s=_;rw[hk]
 rw[e3] at hs;exact hs
theorem Sim.hear (h:Sim P S) {m:Mq} {x:Ml} (hm:MlSim P.n m x) (hi:MqIn P.n P.k m) (ht:(P.n:Int)≤m.tt):Sim (countP_ P m) (hearS S (x.to - S.n) x.fr x.l):=by
 obtain⟨c,hc⟩:∃c:Nat,m.tt - P.n=c:=⟨(m.tt - P.n).toNat,by omega⟩;have hck:c < P.k:=by have:=hi.tt;omega
 have e1:x.to - (S.n:Int)=c:=by rw[hm.tt,h.n];exact hc
 have hx:=h.cl c hck;have hl:=hm.ans ht;unfold countP_ hearS;rw[e1,hc,Int.toNat_natCast,hm.fr,hm.rd];dsimp only;rw[hx.busy,hx.rd];by_cases hb:(P.cl c).busy=true
 ·obtain⟨ho,hlen⟩:=hx.on hb;rw[ho.cnt];by_cases hcond:(P.cl c).busy=true∧m.rd=(P.cl c).rd∧m.fr∉(P.cl c).cnt
  ·rw[if_pos hcond,if_pos hcond,ho.tells];have hb':=(Pcl.busy_iff _).1 hb;have hC:=ho.count (m:=m) hl hm.g hb';have hyl:(countC (S.cl c) m.fr x.l.h).cnt.length=(P.cl c).cnt.length+1:=by
    show ((S.cl c).cnt++ [m.fr]).length=_;rw[ho.cnt];simp
   have hyk:(countC (S.cl c) m.fr x.l.h).kept=(countX (P.cl c) m).kept:=hC.kept (.inr (by simp[countX]));have hyb:(countC (S.cl c) m.fr x.l.h).busy=(countX (P.cl c) m).busy:=hx.busy;have hgn:(countC (S.cl c) m.fr x.l.h).gone=false:=by
    show (S.cl c).gone=false;cases e:(S.cl c).gone with
    | false=>rfl
    | true=>have:=hx.gone.1 e;omega
   have stay:(P.cl c).cnt.length+1 < (if (P.cl c).at_=2 then P.tell else P.ask)→Sim {P with cl:=updP P.cl c (countX (P.cl c) m)} {S with cl:=updC S.cl c (countC (S.cl c) m.fr x.l.h)} :=fun hlt=>
    h.turn ⟨hyb,hx.gone,hx.at3,hx.rd,fun _=>⟨hC,by show ((P.cl c).cnt++ [m.fr]).length < (if (P.cl c).at_=2 then P.tell else P.ask);simpa using hlt⟩⟩
   have dn:Sim (doneP {P with cl:=updP P.cl c (countX (P.cl c) m)} c) (doneS S c (countC (S.cl c) m.fr x.l.h)):=h.done hC hyk hx.rd hgn;rw[hyl];rcases hb' with hb1 | hb2
   ·rw[if_pos hb1,hb1];rw[if_neg (by omega)] at hlen;by_cases hq:(P.cl c).cnt.length+1=P.ask
    ·rw[if_pos hq,if_neg (by rw[if_neg (by decide),h.ask];omega)];unfold askedP;simp only[updP_same];have hd:((countX (P.cl c) m).call.d=2∨P.back=true)↔(decide ((1:Int)=2)=false∧((S.cl c).write=true∨S.back=true)):=by
      rw[h.back];show ((P.cl c).call.d=2∨P.back=true)↔_;rw[ho.call];unfold callP;cases (S.cl c).write<;>simp
     by_cases hw:(countX (P.cl c) m).call.d=2∨P.back=true
     ·rw[if_pos hw,if_pos (hd.1 hw)];unfold roundP roundS;simp only[updP_same,updP_updP];have hk2:(tellC c (countC (S.cl c) m.fr x.l.h)).kept=(askedX c (countX (P.cl c) m)).kept∧HdG (askedX c (countX (P.cl c) m)).kept∧(askedX c (countX (P.cl c) m)).call=(countX (P.cl c) m).call∧(askedX c (countX (P.cl c) m)).rd=(countX (P.cl c) m).rd:=by
       unfold tellC askedX;have hcall:(countX (P.cl c) m).call=callP c (S.cl c).key (S.cl c).write (S.cl c).value:=ho.call;rw[hcall];show (if (S.cl c).write=true then (⟨⟨(countC (S.cl c) m.fr x.l.h).kept.s.t+1,(c:Int)⟩,(S.cl c).value⟩:Hd) else (countC (S.cl c) m.fr x.l.h).kept)=_∧_;rw[hyk];have:=hC.g.t0;cases hw':(S.cl c).write
       ·exact⟨rfl,hC.g,hcall.trans (by rw[hw']),rfl⟩
       ·exact⟨rfl,.inr (show 1≤(countX (P.cl c) m).kept.s.t+1 by omega),rfl,rfl⟩
      exact h.round hck (p:=roundX (askedX c (countX (P.cl c) m)) 2) (x:=roundC (tellC c (countC (S.cl c) m.fr x.l.h))) ⟨hx.busy.trans hb,⟨fun e=>absurd (hgn.symm.trans e) (by decide),fun e=>absurd (show (2:Int)=3 from e) (by decide)⟩,.inr (.inr (.inl rfl)),by show (S.cl c).rd+1=(askedX c (countX (P.cl c) m)).rd+1;rw[hk2.2.2.2,hx.rd];rfl,fun _=>⟨⟨by show (askedX c (countX (P.cl c) m)).call=_;rw[hk2.2.2.1];exact ho.call,ho.val,rfl,rfl,hk2.2.1,fun _=>hk2.1,fun e=>absurd (show (2:Int)=1 from e) (by decide),ho.key⟩,h.t1⟩⟩ rfl
     ·rw[if_neg hw,if_neg (fun e=>hw (hd.2 e))];exact dn
    ·rw[if_neg hq,if_pos (by rw[if_neg (by decide),h.ask];omega)];exact stay (by rw[if_neg (by omega)];omega)
   ·rw[if_neg (by omega),hb2];rw[if_pos hb2] at hlen;by_cases hq:(P.cl c).cnt.length+1=P.tell
    ·rw[if_pos hq,if_neg (by rw[if_pos (by decide),h.tell];omega),if_neg (by simp)];exact dn
    ·rw[if_neg hq,if_pos (by rw[if_pos (by decide),h.tell];omega)];exact stay (by rw[if_pos hb2];omega)
  ·rw[if_neg hcond,if_neg hcond];exact h
 ·rw[if_neg (fun e=>hb e.1),if_neg (fun e=>hb e.1)];exact h
theorem MlsSim.erase {n:Nat} {L:List Mq} {M:List Ml} (h:MlsSim n L M) (i:Nat):MlsSim n (L.eraseIdx i) (M.eraseIdx i):=by
 refine⟨by rw[List.length_eraseIdx,List.length_eraseIdx,h.1],fun j a b ha hb=>?_⟩;rw[List.getElem?_eraseIdx] at ha hb
 split at ha
 ·next hj=>rw[if_pos hj] at hb;exact h.2 j a b ha hb
 ·next hj=>rw[if_neg hj] at hb;exact h.2 (j+1) a b ha hb
theorem Sim.erase (h:Sim P S) (i:Nat):Sim {P with mails:=P.mails.eraseIdx i} {S with mails:=S.mails.eraseIdx i} :=h.mails (h.ml.erase i) fun m hm=>h.mq m (List.mem_of_mem_eraseIdx hm)
theorem Sim.pair (h:Sim P S) (i:Nat):(P.mails[i]?=none∧S.mails[i]?=none)∨∃m x,P.mails[i]?=some m∧S.mails[i]?=some x∧MlSim P.n m x∧MqIn P.n P.k m∧i < P.mails.length:=by
 rcases Nat.lt_or_ge i P.mails.length with hi | hi
 ·have hi':i < S.mails.length:=by rw[←h.ml.1];exact hi
  have e1:=List.getElem?_eq_getElem hi;have e2:=List.getElem?_eq_getElem hi';exact .inr ⟨_,_,e1,e2,h.ml.2 i _ _ e1 e2,h.mq _ (List.mem_of_getElem? e1),hi⟩
 ·exact .inl ⟨List.getElem?_eq_none hi,List.getElem?_eq_none (by rw[←h.ml.1];exact hi)⟩
theorem Sim.goes (h:Sim P S) {m:Mq} {x:Ml} (hm:MlSim P.n m x) (hi:MqIn P.n P.k m):S.links x.fr x.to=goes P m:=by
 rw[hm.fr,hm.tt];exact h.lk _ _ hi.fr.1 hi.fr.2 hi.tt.1 hi.tt.2
theorem Sim.takeE (h:Sim P S) (i:Int):deliC P i=takeE S i:=by
 unfold deliC _root_.Go.Proofs.YtjpklmighoondaaGreatDoor.takeE;rw[←h.ml.1];rcases h.pair i.toNat with ⟨e1,e2⟩ | ⟨m,x,e1,e2,h1,h2,h3⟩
 ·rw[e1,e2];show (8:Int)=if i < 0∨(P.mails.length:Int)≤i then 8 else 8
  split<;>rfl
 ·rw[e1,e2];show (if 0≤i then if Go.Proofs.YtjpklmighoondaaGreatDoor.St.goes P m=true then (0:Int) else 6 else 8)=if i < 0∨(P.mails.length:Int)≤i then 8 else if S.links x.fr x.to=true then 0 else 6
  rw[h.goes h1 h2];by_cases hi:0≤i
  ·rw[if_pos hi,if_neg (show ¬(i < 0∨(P.mails.length:Int)≤i) by omega)]
  ·rw[if_neg hi,if_pos (show i < 0∨(P.mails.length:Int)≤i by omega)]
theorem Sim.deli (h:Sim P S) {i:Int} (he:Go.Proofs.YtjpklmighoondaaGreatDoor.takeE S i=0):Sim (deliP P i) (delivS S i):=by
 have hb:=h.takeE i;rw[he] at hb;unfold deliC at hb;unfold deliP delivS;rcases h.pair i.toNat with ⟨e1,e2⟩ | ⟨m,x,e1,e2,h1,h2,h3⟩
 ·rw[e1,e2];exact h
 ·rw[e1] at hb;rw[e1,e2];have hb':(if 0≤i then if Go.Proofs.YtjpklmighoondaaGreatDoor.St.goes P m=true then (0:Int) else 6 else 8)=0:=hb;show Sim (if 0≤i then if Go.Proofs.YtjpklmighoondaaGreatDoor.St.goes P m=true then gotP {P with mails:=P.mails.eraseIdx i.toNat} m else P else P) (takeS {S with mails:=S.mails.eraseIdx i.toNat} x)
  split at hb'
  ·next hi=>
   split at hb'
   ·next hg=>
    rw[if_pos hi,if_pos hg];have h4:=h.erase i.toNat;unfold gotP takeS;by_cases ht:m.tt < (P.n:Int)
    ·rw[if_pos (show m.tt < _ from ht),if_pos (show x.to < (S.n:Int) by rw[h1.tt,h.n];exact ht)];exact h4.node h1 h2 ht
    ·rw[if_neg (show ¬m.tt < _ from ht),if_neg (show ¬x.to < (S.n:Int) by rw[h1.tt,h.n];exact ht)];exact h4.hear h1 h2 (by show (P.n:Int)≤m.tt;omega)
   ·cases hb'
  ·cases hb'
theorem Sim.dropE (h:Sim P S) (i:Int):dropC P i=dropE S i:=by
 unfold dropC _root_.Go.Proofs.YtjpklmighoondaaGreatDoor.dropE;rw[←h.ml.1]
 split
 ·rw[if_neg (by omega)]
 ·rw[if_pos (by omega)]
theorem Sim.doubE (h:Sim P S) (i:Int):doubC P i=doubE S i:=by
 unfold doubC _root_.Go.Proofs.YtjpklmighoondaaGreatDoor.doubE;rw[←h.ml.1];by_cases hi:0≤i∧i < P.mails.length
 ·rw[if_pos hi,if_neg (show ¬(i < 0∨(P.mails.length:Int)≤i) by omega)];by_cases hl:P.mails.length < 500
  ·rw[if_pos hl,if_neg (show ¬500≤P.mails.length by omega)]
  ·rw[if_neg hl,if_pos (show 500≤P.mails.length by omega)]
 ·rw[if_neg hi,if_pos (show i < 0∨(P.mails.length:Int)≤i by omega)]
theorem Sim.doub (h:Sim P S) {i:Int} (he:Go.Proofs.YtjpklmighoondaaGreatDoor.doubE S i=0):Sim (doubP P i) (doubS S i):=by
 have hi:0≤i:=by
  unfold _root_.Go.Proofs.YtjpklmighoondaaGreatDoor.doubE at he
  split at he
  ·cases he
  ·omega
 unfold doubP doubS;rcases h.pair i.toNat with ⟨e1,e2⟩ | ⟨m,x,e1,e2,h1,h2,h3⟩
 ·rw[e1,e2];exact h
 ·rw[e1,e2];show Sim (if 0≤i then sendP P m else P) _;rw[if_pos hi];exact h.send h1 h2
def cutC (P:Pst) (rule x who:Int):Int:=if x < 1∨7 < x then 4 else if rule=4∧(who < 0∨x≤who) then 2 else if x≠P.n then 3 else 0
def wideP (P:Pst) (r:Nat→Nat→Bool):Pst:= {P with nil:=false,lr:=fun a b=>r (a%P.n) (b%P.n)}
def cutP (P:Pst) (rule x who:Int):Pst:=if cutC P rule x who=0 then wideP P (linkN rule P.n who) else P
def allP (P:Pst):Pst:= {P with nil:=true}
theorem letL_in {N:Nat} {r:Nat→Nat→Bool} {a b:Int} (h1:0≤a) (h2:a < N) (h3:0≤b) (h4:b < N):letL false (tabL N r) a b=r a.toNat b.toNat:=by
 have ha:a.toNat < N:=by omega
 have hb:b.toNat < N:=by omega
 unfold letL tabL;rw[if_neg (by decide),if_pos ⟨h1,h3⟩];simp[ha,hb]
theorem asNode_mod {n:Nat} {a:Int} (h:0≤a):asNode n a=((a.toNat%n:Nat):Int):=by
 unfold asNode;obtain⟨k,rfl⟩:∃k:Nat,a=k:=⟨a.toNat,by omega⟩;rw[Int.toNat_natCast]
 split
 ·next h'=>
  obtain⟨d,rfl⟩:∃d,k=n+d:=⟨k - n,by omega⟩;rw[Nat.add_mod_left];have:((n+d:Nat):Int) - n=(d:Int):=by omega
  rw[this];rfl
 ·rw[Nat.mod_eq_of_lt (by omega)]
theorem Sim.cut (h:Sim P S) (rule who:Int):Sim (wideP P (linkN rule P.n who)) {S with links:=cutL S.n S.k rule who} :=by
 refine⟨h.n,h.k,h.ask,h.tell,h.back,h.n1,h.a1,h.t1,fun a b ha ha' hb hb'=>?_,h.ml,h.mq,h.hs,h.cl,h.ev⟩;have ha'':a < (P.n:Int)+P.k:=ha';have hb'':b < (P.n:Int)+P.k:=hb';show cutL S.n S.k rule who a b=letL false (tabL (P.n+P.k) fun a b=>linkN rule P.n who (a%P.n) (b%P.n)) a b;rw[letL_in ha (by omega) hb (by omega)];unfold cutL;rw[h.n,h.k,decide_eq_true (p:=0≤a∧a < (P.n:Int)+(P.k:Int)) ⟨ha,by omega⟩,decide_eq_true (p:=0≤b∧b < (P.n:Int)+(P.k:Int)) ⟨hb,by omega⟩,asNode_mod ha,asNode_mod hb];rfl
theorem Sim.all (h:Sim P S):Sim (allP P) {S with links:=fun _ _=>true} :=
 ⟨h.n,h.k,h.ask,h.tell,h.back,h.n1,h.a1,h.t1,fun a b _ _ _ _=>by unfold letL allP;rw[if_pos rfl],h.ml,h.mq,h.hs,h.cl,h.ev⟩
def playC (P:Pst) (m:Mvs):Int:=
 if m.what=0 then begC P m.a m.b false m.c
 else if m.what=1 then begC P m.a m.b true m.c
 else if m.what=2 then deliC P m.a
 else if m.what=3 then dropC P m.a
 else if m.what=4 then doubC P m.a
 else if m.what=5 then giveC P m.a
 else if m.what=6 then 0
 else cutC P (ruleW m.what) m.a m.b
def playP (P:Pst) (m:Mvs):Pst:=
 if m.what=0 then begP P m.a m.b false m.c
 else if m.what=1 then begP P m.a m.b true m.c
 else if m.what=2 then deliP P m.a
 else if m.what=3 then dropP P m.a
 else if m.what=4 then doubP P m.a
 else if m.what=5 then givePP P m.a
 else if m.what=6 then allP P
 else cutP P (ruleW m.what) m.a m.b
theorem begP_no {c key v:Int} {wr:Bool} (h:begC P c key wr v≠0):begP P c key wr v=P:=by
 unfold begC at h;unfold begP
 split at h
 ·next hb=>rw[if_pos hb]
 ·next hb=>rw[if_neg hb,if_neg h]
theorem Sim.play (h:Sim P S) (m:Mvs):playC P m=playE S m∧Sim (playP P m) (playS S m):=by
 unfold playC playP playS playE;by_cases e0:m.what=0
 ·simp only[if_pos e0];refine⟨h.begE _ _ _ _,?_⟩;by_cases he:beginE S m.a m.b false m.c=0
  ·rw[if_neg (fun hn=>hn he)];exact h.beg he
  ·rw[if_pos he,begP_no (by rw[h.begE];exact he)];exact h
 simp only[if_neg e0];by_cases e1:m.what=1
 ·simp only[if_pos e1];refine⟨h.begE _ _ _ _,?_⟩;by_cases he:beginE S m.a m.b true m.c=0
  ·rw[if_neg (fun hn=>hn he)];exact h.beg he
  ·rw[if_pos he,begP_no (by rw[h.begE];exact he)];exact h
 simp only[if_neg e1];by_cases e2:m.what=2
 ·simp only[if_pos e2];refine⟨h.takeE _,?_⟩;by_cases he:Go.Proofs.YtjpklmighoondaaGreatDoor.takeE S m.a=0
  ·rw[if_neg (fun hn=>hn he)];exact h.deli he
  ·rw[if_pos he];have hn:deliP P m.a=P:=by
    have hc:=h.takeE m.a;unfold deliP;unfold deliC at hc;rcases h.pair m.a.toNat with ⟨q1,q2⟩ | ⟨x,y,q1,q2,h1,h2,h3⟩
    ·rw[q1]
    ·rw[q1] at hc ⊢;have hc':(if 0≤m.a then if Go.Proofs.YtjpklmighoondaaGreatDoor.St.goes P x=true then (0:Int) else 6 else 8)=Go.Proofs.YtjpklmighoondaaGreatDoor.takeE S m.a:=hc;show (if 0≤m.a then if Go.Proofs.YtjpklmighoondaaGreatDoor.St.goes P x=true then gotP {P with mails:=P.mails.eraseIdx m.a.toNat} x else P else P)=P
     split at hc'
     ·next g1=>
      split at hc'
      ·exact absurd hc'.symm he
      ·next g2=>rw[if_pos g1,if_neg g2]
     ·next g1=>rw[if_neg g1]
   rw[hn];exact h
 simp only[if_neg e2];by_cases e3:m.what=3
 ·simp only[if_pos e3];refine⟨h.dropE _,?_⟩;have hd:=h.dropE m.a;unfold dropC at hd;unfold dropP
  split at hd
  ·next hi=>rw[if_pos hi,if_neg (fun hn=>hn hd.symm)];exact h.erase _
  ·next hi=>rw[if_neg hi,if_pos (by rw[←hd];decide)];exact h
 simp only[if_neg e3];by_cases e4:m.what=4
 ·simp only[if_pos e4];refine⟨h.doubE _,?_⟩;by_cases he:Go.Proofs.YtjpklmighoondaaGreatDoor.doubE S m.a=0
  ·rw[if_neg (fun hn=>hn he)];exact h.doub he
  ·rw[if_pos he];have hd:=h.doubE m.a;have hn:doubP P m.a=P:=by
    unfold doubC at hd;unfold doubP;rcases h.pair m.a.toNat with ⟨q1,q2⟩ | ⟨x,y,q1,q2,h1,h2,h3⟩
    ·rw[q1]
    ·rw[q1];show (if 0≤m.a then sendP P x else P)=P;by_cases g:0≤m.a
     ·rw[if_pos g];rw[if_pos (by omega)] at hd;unfold sendP
      split at hd
      ·exact absurd hd.symm he
      ·next g2=>rw[if_neg g2]
     ·rw[if_neg g]
   rw[hn];exact h
 simp only[if_neg e4];by_cases e5:m.what=5
 ·simp only[if_pos e5];refine⟨h.giveE _,?_⟩;by_cases he:Go.Proofs.YtjpklmighoondaaGreatDoor.giveE S m.a=0
  ·rw[if_neg (fun hn=>hn he)];exact h.give he
  ·rw[if_pos he];have hd:=h.giveE m.a;have hn:givePP P m.a=P:=by
    unfold giveC at hd;unfold givePP
    split at hd
    ·next g1=>
     split at hd
     ·exact absurd hd.symm he
     ·next g2=>rw[if_pos g1,if_neg g2]
    ·next g1=>rw[if_neg g1]
   rw[hn];exact h
 simp only[if_neg e5];by_cases e6:m.what=6
 ·simp only[if_pos e6];exact⟨trivial,by rw[if_neg (by decide)];exact h.all⟩
 simp only[if_neg e6];have hE:cutC P (ruleW m.what) m.a m.b=cutE S (ruleOf m) m.a m.b:=by
  unfold cutC cutE;rw[h.n];rfl
 refine⟨hE,?_⟩;unfold cutP;rw[hE];by_cases he:cutE S (ruleOf m) m.a m.b=0
 ·rw[if_pos he,if_neg (fun hn=>hn he)];exact h.cut _ _
 ·rw[if_neg he,if_pos he];exact h
theorem Sim.run:∀(l:List Mvs) {P:Pst} {S:Sto},Sim P S→Sim (l.foldl playP P) (runS S l)
 | [],_,_,h=>h
 | m::l,_,_,h=>Sim.run l (h.play m).2
end
end Go.Proofs.YtjpklmighoondaaGreatDoor.St
namespace Go.Proofs.YtjpklmighoondaaGreatDoor.St
def pcl0:Pcl:=⟨0,⟨0,0,0,0,0,0,0⟩,0,[],⟨⟨0,0⟩,0⟩⟩
def pst0 (n k ask tell:Nat) (back:Bool):Pst:=⟨n,k,ask,tell,back,true,fun _ _=>false,[],fun _ _=>hd0,fun _=>pcl0,[],[]⟩
def runP (P:Pst) (l:List Mvs):Pst:=l.foldl playP P
theorem sim0 {n k ask tell:Nat} (back:Bool) (h1:1≤n) (h2:1≤ask) (h3:1≤tell):Sim (pst0 n k ask tell back) (sto0 n k ask tell back):=
 ⟨rfl,rfl,rfl,rfl,rfl,h1,h2,h3,fun a b _ _ _ _=>by unfold letL pst0;rw[if_pos rfl];rfl,⟨rfl,fun i m x hm=>by simp[pst0] at hm⟩,fun m hm=>by simp[pst0] at hm,fun _ _ _ _=>⟨rfl,.inl rfl⟩,fun i _=>⟨rfl,⟨fun e=>absurd (show false=true from e) (by decide),fun e=>absurd (show (0:Int)=3 from e) (by decide)⟩,.inl rfl,rfl,fun e=>absurd (show false=true from e) (by decide)⟩,rfl,rfl⟩
section
variable {P : Pst} {S : Sto}
end
end Go.Proofs.YtjpklmighoondaaGreatDoor.St
