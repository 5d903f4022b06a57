/-
  A plan that is tried: how long it goes on (plain).
  A plan that is tried: all that it goes through (plain).
  A plan that is tried, walked: beginAll, finish.
-/
import Derived.Test.YtjpklmighoondaaGreatDoorFaBY
import Derived.Test.YtjpklmighoondaaGreatDoorFaCY
set_option maxRecDepth 100000
namespace Go.Proofs.YtjpklmighoondaaGreatDoor.Fa
def mwt (n:Nat) (m:St.Mq):Nat:=if m.tt < n then 2 else 1
def mws (n:Nat) (l:List St.Mq):Nat:=(l.map (mwt n)).sum
def cwt (n:Nat) (x:St.Pcl):Nat:=if x.at_=1 then 2*n else 0
def cws (n:Nat) (f:Nat→St.Pcl):Nat→Nat
 | 0=>0
 | k+1=>cws n f k+cwt n (f k)
def phi (P:St.Pst):Nat:=mws P.n P.mails+cws P.n P.cl P.k
def Hon (P:St.Pst):Prop:=∀m∈P.mails,m.tt < P.n→(P.n:Int)≤m.fr
theorem mws_append (n:Nat) (a b:List St.Mq):mws n (a++b)=mws n a+mws n b:=by unfold mws;rw[List.map_append,List.sum_append]
theorem mws_le (n:Nat) (l:List St.Mq):mws n l≤2*l.length:=by
 induction l with
 | nil=>exact Nat.le_refl _
 | cons m l ih=>
  have:mws n (m::l)=mwt n m+mws n l:=by unfold mws;simp
  have h2:mwt n m≤2:=by unfold mwt;split<;>omega
  rw[this,List.length_cons];omega
theorem cws_ne (n:Nat) (f:Nat→St.Pcl) (c:Nat) (x:St.Pcl):∀k,k≤c→cws n (St.updP f c x) k=cws n f k
 | 0,_=>rfl
 | k+1,h=>by
  show cws n (St.updP f c x) k+cwt n (St.updP f c x k)=cws n f k+cwt n (f k);rw[cws_ne n f c x k (by omega),St.updP_ne _ _ (by omega)]
theorem cws_upd (n:Nat) (f:Nat→St.Pcl) (c:Nat) (x:St.Pcl):∀k,c < k→cws n (St.updP f c x) k+cwt n (f c)=cws n f k+cwt n x
 | 0,h=>by omega
 | k+1,h=>by
  show cws n (St.updP f c x) k+cwt n (St.updP f c x k)+cwt n (f c)=cws n f k+cwt n (f k)+cwt n x;by_cases e:k=c
  ·subst e;rw[cws_ne n f k x k (Nat.le_refl _),St.updP_same];omega
  ·have:=cws_upd n f c x k (by omega);rw[St.updP_ne _ _ e];omega
theorem cws_le (n:Nat) (f:Nat→St.Pcl):∀k,cws n f k≤2*n*k
 | 0=>Nat.le_refl _
 | k+1=>by
  have h:=cws_le n f k;have h2:cwt n (f k)≤2*n:=by unfold cwt;split<;>omega
  show cws n f k+cwt n (f k)≤2*n*(k+1);rw[Nat.mul_succ];omega
theorem sendP_phi (P:St.Pst) (m:St.Mq):phi (St.sendP P m)≤phi P+mwt P.n m:=by
 unfold St.sendP
 split
 ·show mws P.n (P.mails++ [m])+cws P.n P.cl P.k≤mws P.n P.mails+cws P.n P.cl P.k+mwt P.n m;rw[mws_append];have:mws P.n [m]=mwt P.n m:=by unfold mws;simp
  omega
 ·omega
theorem sends_phi (P:St.Pst) (c:Nat) (x:St.Pcl):∀m,phi (St.sendsP P c x m)≤phi P+2*m
 | 0=>Nat.le_refl _
 | m+1=>by
  rw[St.sendsP_succ];have h:=sends_phi P c x m;have h1:=sendP_phi (St.sendsP P c x m) (St.msgP (St.sendsP P c x m).n c x m);have h2:mwt (St.sendsP P c x m).n (St.msgP (St.sendsP P c x m).n c x m)≤2:=by unfold mwt;split<;>omega
  omega
theorem round_phi (P:St.Pst) {c:Nat} (hc:c < P.k) (a:Int):phi (St.roundP P c a)+cwt P.n (P.cl c)≤phi P+2*P.n+(if a=1 then 2*P.n else 0):=by
 have h:=sends_phi {P with cl:=St.updP P.cl c (St.roundX (P.cl c) a)} c (St.roundX (P.cl c) a) P.n;have h1:phi {P with cl:=St.updP P.cl c (St.roundX (P.cl c) a)} +cwt P.n (P.cl c)=phi P+(if a=1 then 2*P.n else 0):=by
  show mws P.n P.mails+cws P.n (St.updP P.cl c (St.roundX (P.cl c) a)) P.k+cwt P.n (P.cl c)=mws P.n P.mails+cws P.n P.cl P.k+_;have:=cws_upd P.n P.cl c (St.roundX (P.cl c) a) P.k hc;have e:cwt P.n (St.roundX (P.cl c) a)=if a=1 then 2*P.n else 0:=rfl
  rw[e] at this;omega
 unfold St.roundP;omega
theorem cl_phi (P:St.Pst) {c:Nat} (hc:c < P.k) (x:St.Pcl):phi {P with cl:=St.updP P.cl c x} +cwt P.n (P.cl c)=phi P+cwt P.n x:=by
 show mws P.n P.mails+cws P.n (St.updP P.cl c x) P.k+cwt P.n (P.cl c)=mws P.n P.mails+cws P.n P.cl P.k+_;have:=cws_upd P.n P.cl c x P.k hc;omega
theorem done_phi (P:St.Pst) {c:Nat} (hc:c < P.k):phi (St.doneP P c)≤phi P:=by
 have h:=cl_phi {P with evs:=P.evs++ [St.endP (P.cl c)],sts:=P.sts++ [(P.cl c).kept.s]} hc {P.cl c with at_:=0};have e:cwt P.n {P.cl c with at_:=0} =0:=rfl;have h':phi (St.doneP P c)+cwt P.n (P.cl c)=phi P+cwt P.n {P.cl c with at_:=0} :=h;omega
theorem asked_phi (P:St.Pst) {c:Nat} (hc:c < P.k) (ha:(P.cl c).at_=1):phi (St.askedP P c)≤phi P:=by
 unfold St.askedP
 split
 ·have e:(St.askedX c (P.cl c)).at_=1:=by unfold St.askedX;split<;>exact ha
  have h:=round_phi {P with cl:=St.updP P.cl c (St.askedX c (P.cl c))} hc 2;have h1:=cl_phi P hc (St.askedX c (P.cl c));have e1:cwt P.n (St.askedX c (P.cl c))=2*P.n:=if_pos e;have e2:cwt P.n (P.cl c)=2*P.n:=if_pos ha;have e3:cwt P.n (St.updP P.cl c (St.askedX c (P.cl c)) c)=2*P.n:=by rw[St.updP_same];exact e1
  have h':phi (St.roundP {P with cl:=St.updP P.cl c (St.askedX c (P.cl c))} c 2)+cwt P.n (St.updP P.cl c (St.askedX c (P.cl c)) c)≤phi {P with cl:=St.updP P.cl c (St.askedX c (P.cl c))} +2*P.n+0:=h;omega
 ·exact done_phi P hc
theorem count_phi (P:St.Pst) (m:St.Mq) (hc:(m.tt - P.n).toNat < P.k):phi (St.countP_ P m)≤phi P:=by
 have e0:(St.countX (P.cl (m.tt - P.n).toNat) m).at_=(P.cl (m.tt - P.n).toNat).at_:=rfl;have h1:=cl_phi P hc (St.countX (P.cl (m.tt - P.n).toNat) m);have e1:cwt P.n (St.countX (P.cl (m.tt - P.n).toNat) m)=cwt P.n (P.cl (m.tt - P.n).toNat):=by unfold cwt;rw[e0]
 have h2:phi {P with cl:=St.updP P.cl (m.tt - P.n).toNat (St.countX (P.cl (m.tt - P.n).toNat) m)} =phi P:=by omega
 unfold St.countP_
 split
 ·split
  ·next ha=>
   split
   ·have:=asked_phi {P with cl:=St.updP P.cl (m.tt - P.n).toNat (St.countX (P.cl (m.tt - P.n).toNat) m)} hc (show (St.updP P.cl (m.tt - P.n).toNat (St.countX (P.cl (m.tt - P.n).toNat) m) (m.tt - P.n).toNat).at_=1 by rw[St.updP_same];exact ha);omega
   ·omega
  ·split
   ·have:=done_phi {P with cl:=St.updP P.cl (m.tt - P.n).toNat (St.countX (P.cl (m.tt - P.n).toNat) m)} hc;omega
   ·omega
 ·exact Nat.le_refl _
theorem answer_phi (P:St.Pst) (m:St.Mq) (hf:(P.n:Int)≤m.fr):phi (St.answerP P m)≤phi P+1:=by
 unfold St.answerP;refine Nat.le_trans (sendP_phi _ _) ?_;have:mwt P.n ⟨m.tt,m.fr,m.key,m.rd,false,(St.answerH (P.has m.tt.toNat m.key.toNat) m).s.t,(St.answerH (P.has m.tt.toNat m.key.toNat) m).s.c,(St.answerH (P.has m.tt.toNat m.key.toNat) m).v⟩=1:=if_neg (by show ¬m.fr < (P.n:Int);omega);show phi P+mwt P.n _≤_;rw[this];exact Nat.le_refl _
theorem deli_phi (P:St.Pst) {b:Nat} (hI:St.PInv P b) (hh:Hon P) (hn:P.nil=true) (hm:P.mails≠ []):phi (St.playP P ⟨2,0,0,0⟩)+1≤phi P:=by
 show phi (St.deliP P 0)+1≤phi P;cases hl:P.mails with
 | nil=>exact absurd hl hm
 | cons m l=>
  have hmem:m∈P.mails:=by rw[hl];simp
  have hmq:=hI.mq m hmem;have e:St.deliP P 0=St.gotP {P with mails:=l} m:=by
   unfold St.deliP;rw[show P.mails[(0:Int).toNat]?=some m by rw[hl];rfl];dsimp only;have hg:St.goes P m=true:=by unfold St.goes St.letL;rw[hn];rfl
   rw[if_pos (by decide),if_pos hg,hl];rfl
  have hw:phi P=mwt P.n m+phi {P with mails:=l} :=by
   show mws P.n P.mails+cws P.n P.cl P.k=mwt P.n m+(mws P.n l+cws P.n P.cl P.k);rw[hl];have:mws P.n (m::l)=mwt P.n m+mws P.n l:=by unfold mws;simp
   omega
  rw[e,hw];unfold St.gotP;by_cases ht:m.tt < (P.n:Int)
  ·rw[if_pos ht];have:=answer_phi {P with mails:=l} m (hh m hmem ht);have e2:mwt P.n m=2:=if_pos ht;omega
  ·rw[if_neg ht];have:=count_phi {P with mails:=l} m (by show (m.tt - (P.n:Int)).toNat < P.k;have:=hmq.1;omega);have e2:mwt P.n m=1:=if_neg ht;omega
theorem beg_phi (P:St.Pst) {b:Nat} (hI:St.PInv P b) (c key:Int) (wr:Bool) (v:Int):phi (St.begP P c key wr v)≤phi P+28:=by
 have h7:=hI.n7;unfold St.begP
 split
 ·omega
 ·split
  ·next hfr=>
   obtain⟨h1,h2⟩:=St.freeP_zero hfr;have hc:c.toNat < P.k:=by omega
   unfold St.beginP;have h:=round_phi {P with evs:=P.evs++ [St.callP c.toNat key wr v],sts:=P.sts++ [zeroS],cl:=St.updP P.cl c.toNat {P.cl c.toNat with call:=St.callP c.toNat key wr v,kept:=hd0}} hc 1;have h3:=cl_phi {P with evs:=P.evs++ [St.callP c.toNat key wr v],sts:=P.sts++ [zeroS]} hc {P.cl c.toNat with call:=St.callP c.toNat key wr v,kept:=hd0};have e1:cwt P.n {P.cl c.toNat with call:=St.callP c.toNat key wr v,kept:=hd0} =cwt P.n (P.cl c.toNat):=rfl;have h4:phi {P with evs:=P.evs++ [St.callP c.toNat key wr v],sts:=P.sts++ [zeroS],cl:=St.updP P.cl c.toNat {P.cl c.toNat with call:=St.callP c.toNat key wr v,kept:=hd0}} +cwt P.n (P.cl c.toNat)=phi P+cwt P.n {P.cl c.toNat with call:=St.callP c.toNat key wr v,kept:=hd0} :=h3;have h5:phi (St.roundP {P with evs:=P.evs++ [St.callP c.toNat key wr v],sts:=P.sts++ [zeroS],cl:=St.updP P.cl c.toNat {P.cl c.toNat with call:=St.callP c.toNat key wr v,kept:=hd0}} c.toNat 1)+_≤phi {P with evs:=P.evs++ [St.callP c.toNat key wr v],sts:=P.sts++ [zeroS],cl:=St.updP P.cl c.toNat {P.cl c.toNat with call:=St.callP c.toNat key wr v,kept:=hd0}} +2*P.n+2*P.n:=h;omega
  ·omega
theorem phi_le {P:St.Pst} {b:Nat} (hI:St.PInv P b):phi P≤1112:=by
 have h1:=mws_le P.n P.mails;have h2:=cws_le P.n P.cl P.k;have h3:=hI.ml;have h4:2*P.n*P.k≤14*8:=Nat.mul_le_mul (by have:=hI.n7;omega) hI.k8;unfold phi;omega
theorem Hon.sub {P P':St.Pst} (h:Hon P) (hn:P'.n=P.n) (hs:∀m∈P'.mails,m∈P.mails∨(P.n:Int)≤m.fr∨(P.n:Int)≤m.tt):Hon P':=fun m hm ht=>by
 rw[hn] at ht ⊢;rcases hs m hm with h1 | h1 | h1
 ·exact h m h1 ht
 ·exact h1
 ·omega
theorem sendP_mem {P:St.Pst} {m x:St.Mq} (h:x∈(St.sendP P m).mails):x∈P.mails∨x=m:=by
 unfold St.sendP at h
 split at h
 ·exact(List.mem_append.1 h).imp id fun h=>by simpa using h
 ·exact .inl h
theorem sends_mem (P:St.Pst) (c:Nat) (x:St.Pcl):∀(m:Nat) (y:St.Mq),y∈(St.sendsP P c x m).mails→y∈P.mails∨(P.n:Int)≤y.fr
 | 0,y,h=>.inl h
 | m+1,y,h=>by
  rw[St.sendsP_succ] at h;rcases sendP_mem h with h | rfl
  ·exact sends_mem P c x m y h
  ·right
   show (P.n:Int)≤((St.sendsP P c x m).n:Int)+c;rw[(St.sendsP_same P c x m).n];omega
theorem Hon.round {P:St.Pst} (h:Hon P) (c:Nat) (a:Int):Hon (St.roundP P c a):=
 h.sub (nk_round P c a).1 fun m hm=>(sends_mem _ _ _ _ m hm).imp id .inl
theorem Hon.asked {P:St.Pst} (h:Hon P) (c:Nat):Hon (St.askedP P c):=by
 unfold St.askedP
 split
 ·exact Hon.round (P:= {P with cl:=St.updP P.cl c (St.askedX c (P.cl c))}) h c 2
 ·exact h
theorem Hon.play {P:St.Pst} (h:Hon P) (m:Mvs):Hon (St.playP P m):=by
 have hbeg:∀c key wr v,Hon (St.begP P c key wr v):=fun c key wr v=>by
  unfold St.begP
  split
  ·exact h
  ·split
   ·exact Hon.round (P:= {P with evs:=P.evs++ [St.callP c.toNat key wr v],sts:=P.sts++ [zeroS],cl:=St.updP P.cl c.toNat {P.cl c.toNat with call:=St.callP c.toNat key wr v,kept:=hd0}}) h _ 1
   ·exact h
 unfold St.playP
 split
 ·exact hbeg _ _ _ _
 split
 ·exact hbeg _ _ _ _
 split
 ·unfold St.deliP
  split
  ·rename_i x hx
   have hxm:x∈P.mails:=List.mem_of_getElem? hx
   split
   ·split
    ·have h2:Hon {P with mails:=P.mails.eraseIdx m.a.toNat} :=h.sub rfl fun y hy=>.inl (List.mem_of_mem_eraseIdx hy)
     unfold St.gotP
     split
     ·rename_i ht
      refine h2.sub (nk_answer {P with mails:=P.mails.eraseIdx m.a.toNat} x).1 fun y hy=>?_
      rcases sendP_mem hy with h3 | rfl
      ·exact .inl h3
      ·exact .inr (.inr (h x hxm ht))
     ·unfold St.countP_
      split
      ·split
       ·split
        ·refine Hon.asked ?_ _;exact h2
        ·exact h2
       ·split<;>exact h2
      ·exact h2
    ·exact h
   ·exact h
  ·exact h
 split
 ·unfold St.dropP
  split
  ·exact h.sub rfl fun y hy=>.inl (List.mem_of_mem_eraseIdx hy)
  ·exact h
 split
 ·unfold St.doubP
  split
  ·rename_i x hx
   split
   ·exact h.sub (St.sendP_same _ _).n fun y hy=>by
     rcases sendP_mem hy with h3 | rfl
     ·exact .inl h3
     ·exact .inl (List.mem_of_getElem? hx)
   ·exact h
  ·exact h
 split
 ·unfold St.givePP
  split
  ·split<;>exact h
  ·exact h
 split
 ·exact h
 ·unfold St.cutP
  split<;>exact h
def NL (P P':St.Pst):Prop:=P'.nil=P.nil
theorem nl_round (P:St.Pst) (c:Nat) (a:Int):NL P (St.roundP P c a):=(St.sendsP_same {P with cl:=St.updP P.cl c (St.roundX (P.cl c) a)} c (St.roundX (P.cl c) a) P.n).nil
theorem nl_asked (P:St.Pst) (c:Nat):NL P (St.askedP P c):=by
 unfold St.askedP
 split
 ·exact nl_round {P with cl:=St.updP P.cl c (St.askedX c (P.cl c))} c 2
 ·exact rfl
theorem nl_count (P:St.Pst) (m:St.Mq):NL P (St.countP_ P m):=by
 unfold St.countP_
 split
 ·split
  ·split
   ·exact nl_asked {P with cl:=St.updP P.cl (m.tt - P.n).toNat (St.countX (P.cl (m.tt - P.n).toNat) m)} _
   ·exact rfl
  ·split<;>exact rfl
 ·exact rfl
theorem nl_deli (P:St.Pst) (i:Int):NL P (St.deliP P i):=by
 unfold St.deliP
 split
 ·rename_i m hm
  split
  ·split
   ·unfold St.gotP
    split
    ·exact(St.sendP_same {P with mails:=P.mails.eraseIdx i.toNat,has:=_} _).nil
    ·exact nl_count {P with mails:=P.mails.eraseIdx i.toNat} m
   ·exact rfl
  ·exact rfl
 ·exact rfl
theorem nl_beg (P:St.Pst) (c key:Int) (wr:Bool) (v:Int):NL P (St.begP P c key wr v):=by
 unfold St.begP
 split
 ·exact rfl
 ·split
  ·exact nl_round {P with evs:=P.evs++ [St.callP c.toNat key wr v],sts:=P.sts++ [zeroS],cl:=St.updP P.cl c.toNat {P.cl c.toNat with call:=St.callP c.toNat key wr v,kept:=hd0}} _ 1
  ·exact rfl
theorem mvB_play (P:St.Pst) (c:Int) (x:Gn.Cl):St.playP P (mvB c x)=St.begP P c x.key x.wr x.v:=by
 obtain⟨wr,k,y⟩:=x;cases wr<;>exact rfl
inductive Drn : Trl → Trl → Prop
 | done (T:Trl):T.p.mails= []→Drn T T
 | step {T T':Trl} :T.p.mails≠ []→Drn (T.play ⟨2,0,0,0⟩) T'→Drn T T'
inductive Fin : Trl → Trl → Prop
 | last {T T1:Trl} :Drn T T1→(begsF T1 T1.p.k).2=false→Fin T (begsF T1 T1.p.k).1
 | more {T T1 T':Trl} :Drn T T1→(begsF T1 T1.p.k).2=true→Fin (begsF T1 T1.p.k).1 T'→Fin T T'
inductive Mvd (len : Nat) : Trl → Trl → Prop
 | done (T:Trl):len≤T.t.u→Mvd len T T
 | step {T T':Trl} :T.t.u < len→Mvd len (moveF T) T'→Mvd len T T'
theorem Drn.det {T A B:Trl} (h:Drn T A) (h':Drn T B):A=B:=by
 induction h with
 | done T h0=>
  cases h' with
  | done _ _=>rfl
  | step h1 _=>exact absurd h0 h1
 | step h0 _ ih=>
  cases h' with
  | done _ h1=>exact absurd h1 h0
  | step _ h1=>exact ih h1
theorem Fin.det {T A B:Trl} (h:Fin T A) (h':Fin T B):A=B:=by
 induction h with
 | last h0 h1=>
  cases h' with
  | last h2 _=>rw[h0.det h2]
  | more h2 h3 _=>rw[h0.det h2] at h1;rw[h1] at h3;cases h3
 | more h0 h1 _ ih=>
  cases h' with
  | last h2 h3=>rw[h0.det h2] at h1;rw[h1] at h3;cases h3
  | more h2 _ h4=>rw[←h0.det h2] at h4;exact ih h4
def c1 (P:St.Pst):Nat:=P.evs.countP fun e=>e.t==1
theorem c1_same {P P':St.Pst} (h:P'.evs=P.evs):c1 P'=c1 P:=by unfold c1;rw[h]
theorem c1_round (P:St.Pst) (c:Nat) (a:Int):c1 (St.roundP P c a)=c1 P:=c1_same (St.sendsP_same {P with cl:=St.updP P.cl c (St.roundX (P.cl c) a)} c (St.roundX (P.cl c) a) P.n).evs
theorem c1_done (P:St.Pst) (c:Nat):c1 (St.doneP P c)=c1 P:=by
 have e:(St.endP (P.cl c)).t=2:=by unfold St.endP;split<;>rfl
 show (P.evs++ [St.endP (P.cl c)]).countP _=_;rw[List.countP_append];have: [St.endP (P.cl c)].countP (fun e=>e.t==1)=0:=by simp[e]
 rw[this];rfl
theorem c1_asked (P:St.Pst) (c:Nat):c1 (St.askedP P c)=c1 P:=by
 unfold St.askedP
 split
 ·exact c1_round {P with cl:=St.updP P.cl c (St.askedX c (P.cl c))} c 2
 ·exact c1_done P c
theorem c1_count (P:St.Pst) (m:St.Mq):c1 (St.countP_ P m)=c1 P:=by
 unfold St.countP_
 split
 ·split
  ·split
   ·exact c1_asked {P with cl:=St.updP P.cl (m.tt - P.n).toNat (St.countX (P.cl (m.tt - P.n).toNat) m)} _
   ·exact rfl
  ·split
   ·exact c1_done {P with cl:=St.updP P.cl (m.tt - P.n).toNat (St.countX (P.cl (m.tt - P.n).toNat) m)} _
   ·exact rfl
 ·exact rfl
theorem c1_play (P:St.Pst) (m:Mvs) (h0:m.what≠0) (h1:m.what≠1):c1 (St.playP P m)=c1 P:=by
 unfold St.playP;rw[if_neg h0,if_neg h1]
 split
 ·unfold St.deliP
  split
  ·rename_i x hx
   split
   ·split
    ·unfold St.gotP
     split
     ·exact c1_same (St.sendP_same {P with mails:=P.mails.eraseIdx m.a.toNat,has:=_} _).evs
     ·exact c1_count {P with mails:=P.mails.eraseIdx m.a.toNat} x
    ·exact rfl
   ·exact rfl
  ·exact rfl
 split
 ·unfold St.dropP;split<;>exact rfl
 split
 ·unfold St.doubP
  split
  ·split
   ·exact c1_same (St.sendP_same _ _).evs
   ·exact rfl
  ·exact rfl
 split
 ·unfold St.givePP
  split
  ·split
   ·have e:c1 (St.giveP P m.a.toNat)=c1 P:=by
     show (P.evs++ [{(P.cl m.a.toNat).call with t:=4}]).countP _=_;rw[List.countP_append];rfl
    exact e
   ·exact rfl
  ·exact rfl
 split
 ·exact rfl
 ·unfold St.cutP
  split<;>exact rfl
theorem c1_beg (P:St.Pst) (c key:Int) (wr:Bool) (v:Int):c1 (St.begP P c key wr v)≤c1 P+1:=by
 unfold St.begP
 split
 ·exact Nat.le_succ _
 ·split
  ·have e:=c1_round {P with evs:=P.evs++ [St.callP c.toNat key wr v],sts:=P.sts++ [zeroS],cl:=St.updP P.cl c.toNat {P.cl c.toNat with call:=St.callP c.toNat key wr v,kept:=hd0}} c.toNat 1;have e2:c1 (St.beginP P c.toNat key wr v)=(P.evs++ [St.callP c.toNat key wr v]).countP (fun e=>e.t==1):=e;rw[e2,List.countP_append];have: [St.callP c.toNat key wr v].countP (fun e=>e.t==1)≤1:=List.countP_le_length;show _≤P.evs.countP _+1;omega
  ·exact Nat.le_succ _
theorem cb_beg {T:Trl} (h:c1 T.p≤T.begun) (c:Int):c1 (begF T c).1.p≤(begF T c).1.begun:=by
 unfold begF
 split
 ·exact h
 ·split
  ·exact h
  ·rename_i x hx
   split
   ·exact h
   ·show c1 (St.playP T.p (mvB c x))≤T.begun+1;rw[mvB_play];exact Nat.le_trans (c1_beg _ _ _ _ _) (by omega)
theorem cb_play {T:Trl} (h:c1 T.p≤T.begun) (m:Mvs) (h0:m.what≠0) (h1:m.what≠1):c1 (T.play m).p≤(T.play m).begun:=by
 show c1 (St.playP T.p m)≤T.begun;rw[c1_play _ _ h0 h1];exact h
theorem cb_trou {T:Trl} (h:c1 T.p≤T.begun):c1 (trouF T).p≤(trouF T).begun:=by
 unfold trouF;dsimp only;repeat' split
 ·exact cb_play (T:=T.on 6) h _ (by simp) (by simp)
 ·exact cb_play (T:=T.on 6) h _ (by simp) (by simp)
 ·exact cb_play (T:=T.on 6) h _ (by simp) (by simp)
 ·exact cb_play (T:=T.on 6) h _ (by simp) (by simp)
 ·exact cb_play (T:=(T.on 6).on T.p.n) h _ (by simp) (by simp)
 ·exact cb_play (T:=(T.on 6).on T.p.k) h _ (by simp) (by simp)
theorem cb_move {T:Trl} (h:c1 T.p≤T.begun):c1 (moveF T).p≤(moveF T).begun:=by
 unfold moveF;dsimp only
 split
 ·exact cb_beg (T:=(T.on 10).on T.p.k) h _
 split
 ·exact cb_play (T:=(T.on 10).on T.p.mails.length) h _ (by simp) (by simp)
 split
 ·exact cb_play (T:=(T.on 10).on T.p.mails.length) h _ (by simp) (by simp)
 split
 ·exact cb_play (T:=(T.on 10).on T.p.mails.length) h _ (by simp) (by simp)
 ·exact cb_trou (T:=T.on 10) h
structure Gd (P0 : St.Pst) (S0 : Sto) (b : Nat) (T : Trl) : Prop where
 rch:Rch P0 S0 b T
 u:T.t.u≤3000*b
 cb:c1 T.p≤T.begun
structure Ini (P0 : St.Pst) : Prop where
 inv:∀l:List Mvs,l.length≤4000→St.PInv (St.runP P0 l) (2*l.length)
 hon:Hon P0
section
variable {P0 : St.Pst} {S0 : Sto} {b : Nat} {T : Trl}
theorem Gd.inv (h:Gd P0 S0 b T) (hP:Ini P0) (hb:b≤4000):∃c,St.PInv T.p c:=by
 obtain⟨l,hl,e,_⟩:=h.rch.mv;exact⟨_,by rw[e];exact hP.inv l (by omega)⟩
theorem hon_run (hP:Hon P0) (l:List Mvs):Hon (St.runP P0 l):=by
 unfold St.runP
 induction l generalizing P0 with
 | nil=>exact hP
 | cons m l ih=>exact ih (hP.play m)
theorem Gd.hon (h:Gd P0 S0 b T) (hP:Ini P0):Hon T.p:=by
 obtain⟨l,hl,e,_⟩:=h.rch.mv;rw[e];exact hon_run hP.hon l
theorem Gd.play (h:Gd P0 S0 b T) (m:Mvs) (h0:m.what≠0) (h1:m.what≠1):Gd P0 S0 (b+1) (T.play m):=⟨h.rch.play m,by have:=h.u;show T.t.u≤_;omega,cb_play h.cb m h0 h1⟩
theorem on_u (t:Gn.Tp) (n:Int):(t.on n).u≤t.u+1:=by
 unfold Gn.Tp.on
 split
 ·omega
 ·exact Nat.le_refl _
theorem beg_u (T:Trl) (c:Int):(begF T c).1.t.u≤T.t.u+Gn.wtF 20 T.g:=by
 have h:=(Gn.nextF_use 20 T.g T.t).1;unfold begF
 split
 ·exact Nat.le_add_right _ _
 ·split
  ·exact h
  ·split<;>exact h
theorem Gd.beg (h:Gd P0 S0 b T) (c:Int):Gd P0 S0 (b+1) (begF T c).1:=⟨h.rch.beg c,by
 have:=beg_u T c;have:=h.u;have:=h.rch.wt;omega,cb_beg h.cb c⟩
theorem Gd.begs (h:Gd P0 S0 b T):∀c,Gd P0 S0 (b+c) (begsF T c).1
 | 0=>h
 | c+1=>(h.begs c).beg c
theorem move_u (T:Trl):(moveF T).t.u≤T.t.u+3+Gn.wtF 20 T.g:=by
 have h10:=on_u T.t 10;unfold moveF;dsimp only
 split
 ·have h1:=beg_u ((T.on 10).on T.p.k) ((T.on 10).t.below T.p.k);have h2:((T.on 10).on T.p.k).t.u≤(T.on 10).t.u+1:=on_u _ _;have h3:((T.on 10).on T.p.k).g=T.g:=rfl;have h4:(T.on 10).t.u≤T.t.u+1:=h10;rw[h3] at h1;show (begF ((T.on 10).on T.p.k) ((T.on 10).t.below T.p.k)).1.t.u≤_;omega
 ·have hm:∀w,(mesF (T.on 10) w).t.u≤(T.on 10).t.u+1:=fun w=>on_u _ _
  have h4:(T.on 10).t.u≤T.t.u+1:=h10
  split
  ·have:=hm 2;omega
  split
  ·have:=hm 3;omega
  split
  ·have:=hm 4;omega
  ·have ht:(trouF (T.on 10)).t.u≤(T.on 10).t.u+2:=by
    have h6:((T.on 10).on 6).t.u≤(T.on 10).t.u+1:=on_u _ _;have hon:∀n,(((T.on 10).on 6).on n).t.u≤((T.on 10).on 6).t.u+1:=fun n=>on_u _ _
    unfold trouF;dsimp only;repeat' split
    ·exact Nat.le_succ_of_le h6
    ·exact Nat.le_succ_of_le h6
    ·exact Nat.le_succ_of_le h6
    ·exact Nat.le_succ_of_le h6
    ·exact Nat.le_trans (hon _) (by omega)
    ·exact Nat.le_trans (hon _) (by omega)
   omega
theorem Gd.move (h:Gd P0 S0 b T):Gd P0 S0 (b+1) (moveF T):=⟨h.rch.move,by
 have:=move_u T;have:=h.u;have:=h.rch.wt;omega,cb_move h.cb⟩
theorem Gd.deli (h:Gd P0 S0 b T) (hP:Ini P0) (hb:b≤4000) (hn:T.p.nil=true) (hm:T.p.mails≠ []):Gd P0 S0 (b+1) (T.play ⟨2,0,0,0⟩)∧(T.play ⟨2,0,0,0⟩).p.nil=true∧phi (T.play ⟨2,0,0,0⟩).p+1≤phi T.p:=by
 obtain⟨c,hI⟩:=h.inv hP hb;exact⟨h.play _ (by decide) (by decide),(nl_deli T.p 0).trans hn,deli_phi T.p hI (h.hon hP) hn hm⟩
theorem begF_told (h:Gd P0 S0 b T) (hP:Ini P0) (hb:b≤4000) (hn:T.p.nil=true) (c:Int):(begF T c).1.p.nil=true∧(begF T c).1.p.k=T.p.k∧phi (begF T c).1.p+28*T.begun≤phi T.p+28*(begF T c).1.begun∧T.begun≤(begF T c).1.begun∧((begF T c).2=true→T.begun < (begF T c).1.begun):=by
 obtain⟨d,hI⟩:=h.inv hP hb;unfold begF
 split
 ·exact⟨hn,rfl,Nat.le_refl _,Nat.le_refl _,fun e=>by cases e⟩
 ·split
  ·exact⟨hn,rfl,Nat.le_refl _,Nat.le_refl _,fun e=>by cases e⟩
  ·rename_i x hx
   split
   ·exact⟨hn,rfl,Nat.le_refl _,Nat.le_refl _,fun e=>by cases e⟩
   ·have e:=mvB_play T.p c x;refine⟨?_,?_,?_,Nat.le_succ _,fun _=>Nat.lt_succ_self _⟩
    ·show (St.playP T.p (mvB c x)).nil=true;rw[e];exact(nl_beg T.p c x.key x.wr x.v).trans hn
    ·exact play_k T.p (mvB c x)
    ·show phi (St.playP T.p (mvB c x))+28*T.begun≤phi T.p+28*(T.begun+1);rw[e];have:=beg_phi T.p hI c x.key x.wr x.v;omega
theorem begs_told (h:Gd P0 S0 b T) (hP:Ini P0) (hn:T.p.nil=true):∀c,b+c≤4000→(begsF T c).1.p.nil=true∧(begsF T c).1.p.k=T.p.k∧phi (begsF T c).1.p+28*T.begun≤phi T.p+28*(begsF T c).1.begun∧T.begun≤(begsF T c).1.begun∧((begsF T c).2=true→T.begun < (begsF T c).1.begun)
 | 0,_=>⟨hn,rfl,Nat.le_refl _,Nat.le_refl _,fun e=>by cases e⟩
 | c+1,hc=>by
  obtain⟨a1,a2,a3,a4,a5⟩:=begs_told h hP hn c (by omega);obtain⟨b1,b2,b3,b4,b5⟩:=begF_told (h.begs c) hP (by omega) a1 c;refine⟨b1,b2.trans a2,?_,Nat.le_trans a4 b4,fun e=>?_⟩
  ·show phi (begF (begsF T c).1 c).1.p+_≤_+28*(begF (begsF T c).1 c).1.begun;omega
  ·show T.begun < (begF (begsF T c).1 c).1.begun;have e':((begsF T c).2||(begF (begsF T c).1 c).2)=true:=e;rcases Bool.or_eq_true_iff.1 e' with e' | e'
   ·have:=a5 e';omega
   ·have:=b5 e';omega
end
end Go.Proofs.YtjpklmighoondaaGreatDoor.Fa
namespace Go.Proofs.YtjpklmighoondaaGreatDoor.Fa
open Go.RowKit
section
variable {w0 W W' : World} {Bt : Nat} {K : St.StK} {v : Value} {bs : List Nat} {ti : ByteArray} {bud : Int} {T : Trl} {P0 : St.Pst} {S0 : Sto}
set_option maxHeartbeats 8000000 in
theorem beginAll_any (h:TrW w0 W Bt K v bs ti bud T) (hP:Ini P0) {b:Nat} (hG:Gd P0 S0 b T) (hk:T.p.k≤8) (hb:b+8≤4000):Calls Tryz.prog 56 #[.pointer (some ⟨Bt,0,none⟩)] W fun e w'=>e=.returned (.bool (begsF T T.p.k).2)∧∃K' bs',TrW w0 w' Bt K' v bs' ti bud (begsF T T.p.k).1:=by
 have HG:=hideIt hG;have HP:=hideIt hP;have HW:=hideIt h;have c1:=h.c.c1;generalize hkk:T.p.k=k at*
 clear h hG hP;go_enter Tryz.func56,Tryz.ntmps56
 go_wp2
 go_loopg [3,11] k (fun g s i wx=>∃c K' bs',c≤k∧g=k - c∧s=.bool (begsF T c).2∧i=.int .i64 (c:Int)∧TrW w0 wx Bt K' v bs' ti bud (begsF T c).1)
 case atStart=>exact⟨0,K,bs,Nat.zero_le _,rfl,rfl,rfl,HW.out⟩
 case round=>
  obtain⟨c,K',bs',hc,rfl,rfl,rfl,h⟩:=hrel;by_cases hck:c < k
  ·have hlt:((c:Nat):Int) < (k:Int):=by omega
   have hg':=HG.out.begs c;obtain⟨d,hI⟩:=hg'.inv HP.out (by omega);have HC:=hideIt (beginT_any h hI hg'.rch.bg (by have:=hg'.u;have:=hg'.rch.wt;omega) c);have HS:Hid (begsF T (c+1)=((begF (begsF T c).1 c).1,(begsF T c).2||(begF (begsF T c).1 c).2)):=rfl;clear h hg' hI c1 HW;generalize begsF T c=r at*
   go_wp2_with fail
   refine HC.out.mono ?_;rintro e w1 ⟨rfl,K2,bs2,h1⟩;have H1:=hideIt h1;clear h1 HC;cases hq:(begF r.1 c).2 with
   | true=>
    have HQ:=hideIt hq;clear hq;go_wp2
    go_roundg (k - (c+1))
    case measure=>omega
    case rel=>exact⟨c+1,K2,bs2,by omega,rfl,by rw[HS.out,HQ.out,Bool.or_true],by rw[Int.natCast_add];rfl,by rw[HS.out];exact H1.out⟩
   | false=>
    have HQ:=hideIt hq;clear hq;go_wp2
    go_roundg (k - (c+1))
    case measure=>omega
    case rel=>exact⟨c+1,K2,bs2,by omega,rfl,by rw[HS.out,HQ.out,Bool.or_false],by rw[Int.natCast_add];rfl,by rw[HS.out];exact H1.out⟩
  ·have hge:¬((c:Nat):Int) < (k:Int):=by omega
   obtain rfl:c=k:=by omega
   have H1:=hideIt h;clear h c1 HW;go_wp2;go_ret;exact⟨rfl,K',bs',H1.out⟩
def FO (w0:World) (Bt:Nat) (v:Value) (ti:ByteArray) (bud:Int) (P0:St.Pst) (S0:Sto) (T0:Trl) (B:Nat) (g:Nat) (s:Value) (wx:World):Prop:=
 ∃(Tc:Trl) (bc:Nat) (Kc:St.StK) (bsc:List Nat) (more:Bool),s=.bool more∧TrW w0 wx Bt Kc v bsc ti bud Tc∧Gd P0 S0 bc Tc∧Tc.p.nil=true∧Tc.p.k≤8∧
  ((more=true∧(∀T',Fin Tc T'→Fin T0 T')∧bc+phi Tc.p+37*(40 - Tc.begun)≤B∧g=41 - Tc.begun)∨(more=false∧Fin T0 Tc∧bc≤B+8∧g=0))
def FI (w0:World) (Bt:Nat) (v:Value) (ti:ByteArray) (bud:Int) (P0:St.Pst) (S0:Sto) (Tc:Trl) (M:Nat) (g:Nat) (wx:World):Prop:=
 ∃(T1:Trl) (b1:Nat) (K1:St.StK) (bs1:List Nat),g=phi T1.p∧TrW w0 wx Bt K1 v bs1 ti bud T1∧Gd P0 S0 b1 T1∧T1.p.nil=true∧(∀T',Drn T1 T'→Drn Tc T')∧b1+phi T1.p≤M∧T1.begun=Tc.begun∧T1.p.k=Tc.p.k
theorem FO.next {Bt:Nat} {T0 Tc T1:Trl} {B b1:Nat} {wx:World} {K':St.StK} {bs':List Nat} (hP:Ini P0) (hB:B+8≤4000) (hk:T1.p.k≤8) (hF:∀T',Fin Tc T'→Fin T0 T') (hD:Drn Tc T1) (hG:Gd P0 S0 b1 T1) (hn:T1.p.nil=true) (hb:b1+phi T1.p+37*(40 - T1.begun)≤B)
  (h:TrW w0 wx Bt K' v bs' ti bud (begsF T1 T1.p.k).1):∃g,g < 41 - T1.begun∧FO w0 Bt v ti bud P0 S0 T0 B g (.bool (begsF T1 T1.p.k).2) wx:=by
 obtain⟨a1,a2,a3,a4,a5⟩:=begs_told hG hP hn T1.p.k (by omega);have hg:=hG.begs T1.p.k;have h40:=hg.rch.bg;have h40':=hG.rch.bg;cases hq:(begsF T1 T1.p.k).2 with
 | true=>
  have h5:=a5 hq;refine⟨41 - (begsF T1 T1.p.k).1.begun,by omega,_,b1+T1.p.k,K',bs',true,rfl,h,hg,a1,by omega,.inl ⟨rfl,fun T' hT=>hF _ (.more hD hq hT),by omega,rfl⟩⟩
 | false=>exact⟨0,by omega,_,b1+T1.p.k,K',bs',false,rfl,h,hg,a1,by omega,.inr ⟨rfl,hF _ (.last hD hq),by omega,rfl⟩⟩
set_option maxHeartbeats 8000000 in
theorem finish_any (h:TrW w0 W Bt K v bs ti bud T) (hP:Ini P0) {b:Nat} (hG:Gd P0 S0 b T) (hb:b≤1300):Calls Tryz.prog 23 #[.pointer (some ⟨Bt,0,none⟩)] W fun e w'=>e=.returned (.tuple #[])∧∃K' bs' T' b',b'≤4000∧TrW w0 w' Bt K' v bs' ti bud T'∧Gd P0 S0 b' T'∧Fin (T.play ⟨6,0,0,0⟩) T':=by
 obtain⟨d,hI⟩:=hG.inv hP (by omega);have hk:=hI.k8;have HC:=hideIt (all_call h);have hG1:=hG.play ⟨6,0,0,0⟩ (by decide) (by decide);have hn1:(T.play ⟨6,0,0,0⟩).p.nil=true:=rfl;have hk1:(T.play ⟨6,0,0,0⟩).p.k≤8:=hk;obtain⟨d1,hI1⟩:=hG1.inv hP (by omega);have hph:=phi_le hI1;have c8:=h.c.c8;generalize T.play ⟨6,0,0,0⟩=T0 at*
 have HG:=hideIt hG1;have HP:=hideIt hP;have H0:=hideIt (And.intro hn1 (And.intro hk1 hph));clear h hG hP hI hk hG1 hn1 hk1 hph hI1 d d1;go_enter Tryz.func23,Tryz.ntmps23
 go_wp2_with fail
 refine HC.out.mono ?_;rintro e w1 ⟨⟨x,rfl⟩,K1,h1,_⟩;have H1:=hideIt h1;clear h1 HC c8;go_wp2
 go_loopg [2] (41 - T0.begun) (fun g s wx=>FO w0 Bt v ti bud P0 S0 T0 3900 g s wx)
 case atStart=>exact⟨T0,b+1,K1,bs,true,rfl,H1.out,HG.out,H0.out.1,H0.out.2.1,.inl ⟨rfl,fun _ h=>h,by have:=H0.out.2.2;omega,rfl⟩⟩
 case round=>
  obtain⟨Tc,bc,Kc,bsc,more,rfl,h,hG,hn,hk,hcase⟩:=hrel;rcases hcase with ⟨rfl,hF,hB,rfl⟩ | ⟨rfl,hF,hB,rfl⟩
  ·have HTc:=hideIt (And.intro h (And.intro hG (And.intro hn (And.intro hk (And.intro hF hB)))));clear h hG hn hk hF hB H1 HG H0;generalize wr=W9 at*
   go_wp2
   go_loopg [] (phi Tc.p) (fun g wx=>FI w0 Bt v ti bud P0 S0 Tc (bc+phi Tc.p) g wx)
   case atStart=>exact⟨Tc,bc,Kc,bsc,rfl,HTc.out.1,HTc.out.2.1,HTc.out.2.2.1,fun _ h=>h,Nat.le_refl _,rfl,rfl⟩
   case round=>
    obtain⟨T1,b1,K2,bs2,rfl,h,hG,hn,hD,hb1,hbg,hk1⟩:=hrel;have c8:=h.c.c8;have HWt:=hideIt (waitP_any h.st);by_cases hm:T1.p.mails= []
    ·have hl:(T1.p.mails.length:Int)=0:=by rw[hm];rfl
     rw[hl] at HWt;have HA:=hideIt (beginAll_any h HP.out hG (by rw[hk1];exact HTc.out.2.2.2.1) (by have:=HTc.out.2.2.2.2.2;omega));have HN:=hideIt (fun (wx:World) K' bs' (hw:TrW w0 wx Bt K' v bs' ti bud (begsF T1 T1.p.k).1)=>FO.next (T0:=T0) (B:=3900) HP.out (by decide) (by rw[hk1];exact HTc.out.2.2.2.1) HTc.out.2.2.2.2.1 (hD T1 (.done T1 hm)) hG hn (by have:=HTc.out.2.2.2.2.2;rw[hbg];omega) hw);clear h hG hn hD hb1 hm hl;go_wp2_with fail
     refine HWt.out.mono ?_;rintro e w2 ⟨rfl,rfl⟩;go_wp2_with fail
     refine HA.out.mono ?_;rintro e w3 ⟨rfl,K3,bs3,h3⟩;obtain⟨g',hg',hO⟩:=HN.out w3 K3 bs3 h3;have HO:=hideIt hO;clear HA HN h3 hO HWt;go_wp2
     go_roundg g'
     case measure=>rw[hbg] at hg';exact hg'
     case rel=>rw[←hk1];exact HO.out
    ·have hl:(0:Int) < (T1.p.mails.length:Int):=by
      have:=List.length_pos_iff.2 hm;omega
     obtain⟨d,hI⟩:=hG.inv HP.out (by have:=HTc.out.2.2.2.2.2;omega);obtain⟨q1,q2,q3⟩:=hG.deli HP.out (by have:=HTc.out.2.2.2.2.2;omega) hn hm;have HD:=hideIt (deli_call h hI 0);have HQ:=hideIt (And.intro q1 (And.intro q2 (And.intro q3 (And.intro (fun T' (ht:Drn (T1.play ⟨2,0,0,0⟩) T')=>hD T' (.step hm ht)) (And.intro hb1 (And.intro hbg hk1))))));clear h hG hn hD hb1 hm hI q1 q2 q3 hbg hk1;generalize (T1.p.mails.length:Int)=ml at*
     have hml:decide (0 < ml)=true:=decide_eq_true hl;go_wp2_with fail
     refine HWt.out.mono ?_;rintro e w2 ⟨rfl,rfl⟩;go_wp2_with fail
     refine HD.out.mono ?_;rintro e w3 ⟨⟨x,rfl⟩,K3,h3,_⟩;have H3:=hideIt h3;clear HD h3 HWt;go_wp2
     go_roundg (phi (T1.play ⟨2,0,0,0⟩).p)
     case measure=>have:=HQ.out.2.2.1;omega
     case rel=>exact⟨_,b1+1,K3,bs2,rfl,H3.out,HQ.out.1,HQ.out.2.1,HQ.out.2.2.2.1,by have:=HQ.out.2.2.1;have:=HQ.out.2.2.2.2.1;omega,HQ.out.2.2.2.2.2.1,(play_k _ _).trans HQ.out.2.2.2.2.2.2⟩
  ·have HD:=hideIt (And.intro h (And.intro hG (And.intro hF hB)));clear h hG hn hk hF hB H1 HG H0;go_wp2
   go_end0
   exact⟨rfl,Kc,bsc,Tc,bc,by have:=HD.out.2.2.2;omega,HD.out.1,HD.out.2.1,HD.out.2.2.1⟩
end
end Go.Proofs.YtjpklmighoondaaGreatDoor.Fa
