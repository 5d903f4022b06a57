/-
  Chapter 17 in plain Lean: registers by quorums that meet: what is heard keeps what is kept.
  An order of ops of several registers out of points in time and stamps, in plain Lean.
-/
import Derived.Test.YtjpklmighoondaaGreatDoorMnZ
namespace Go.Proofs.YtjpklmighoondaaGreatDoor
theorem nodeH_own (own:Hd) (l:Ltr):own.s.le (nodeH own l).s:=by
 unfold nodeH
 split
 ·rename_i h;exact Smp.lt_le h.2
 ·exact Smp.le_refl _
theorem nodeH_told (own:Hd) {l:Ltr} (h:l.tells=true):l.h.s.le (nodeH own l).s:=by
 unfold nodeH
 split
 ·exact Smp.le_refl _
 ·rename_i hn;exact Smp.not_lt.1 fun hl=>hn ⟨h,hl⟩
theorem updH_same (f:Int→Int→Hd) (j key:Int) (h:Hd):updH f j key h j key=h:=if_pos ⟨rfl,rfl⟩
theorem updH_ne (f:Int→Int→Hd) {j key a b:Int} (h:Hd) (hn:¬(a=j∧b=key)):updH f j key h a b=f a b:=if_neg hn
open Classical in
noncomputable def reach (S':Sto) (n0:Nat) (p:Int→Smp→Option Nat):Int→Smp→Option Nat:=fun key s=>match p key s with
 | some L=>some L
 | none=>if quoB S'.n S'.tell (S'.st key) s then some n0 else none
theorem SInv.node {S:Sto} {G:Gho} (h:SInv S G) {m:Ml} (hm:MailOk S G m) (hto:m.to < S.n):SInv (nodeS S m) {G with p:=reach (nodeS S m) S.seen.length G.p} :=by
 obtain⟨w1,w2,w3⟩:0≤m.to∧m.to < S.n∧m.fr=S.n+m.l.c:=by
  rcases hm.way with e | e
  ·exact e
  ·have:=hm.cl;omega
 have hst:∀key j,(S.st key j).le ((nodeS S m).st key j):=fun key j=>by
  show ((S.has j key).s).le (updH S.has m.to m.l.key _ j key).s;by_cases e:j=m.to∧key=m.l.key
  ·obtain⟨rfl,rfl⟩:=e;rw[updH_same];exact nodeH_own _ _
  ·rw[updH_ne _ _ e];exact Smp.le_refl _
 have hold:∀key s L,G.p key s=some L→reach (nodeS S m) S.seen.length G.p key s=some L:=fun key s L hp=>by unfold reach;rw[hp]
 have hnew:∀key s L,reach (nodeS S m) S.seen.length G.p key s=some L→G.p key s=some L∨(quoB (nodeS S m).n (nodeS S m).tell ((nodeS S m).st key) s∧L=S.seen.length):=fun key s L hp=>by
  unfold reach at hp
  split at hp
  ·rename_i L' e;exact .inl (by rw[e];exact hp)
  ·split at hp
   ·rename_i hq;exact .inr ⟨hq,(Option.some.inj hp).symm⟩
   ·cases hp
 have hall:∀key s,quoB (nodeS S m).n (nodeS S m).tell ((nodeS S m).st key) s→∃L,reach (nodeS S m) S.seen.length G.p key s=some L∧L≤S.seen.length:=fun key s hq=>by
  cases e:G.p key s with
  | some L=>exact⟨L,hold _ _ _ e,(h.p1 key s L e).2⟩
  | none=>exact⟨S.seen.length,by unfold reach;rw[e];exact if_pos hq,Nat.le_refl _⟩
 have E:ExtS S (nodeS S m) G {G with p:=reach (nodeS S m) S.seen.length G.p} :=
  ⟨rfl,rfl,rfl,rfl,hst,fun _ h=>h,fun _ h=>h,fun key s L hp=>(hnew key s L hp).imp id fun e=>Nat.le_of_eq e.2.symm,hold,Nat.le_refl _,fun _ _=>rfl⟩
 have hv:VOk G.T m.l.key (nodeH (S.has m.to m.l.key) m.l):=by
  unfold nodeH
  split
  ·rename_i e;exact hm.val (.inl e.1)
  ·exact h.has _ _
 refine⟨h.ask,h.tell,h.cross,fun key s L hp=>?_,fun key s hq=>?_,fun key s s' L' hs hp=>?_,fun x hx=>?_,fun c hc=>(h.idle c hc).step E rfl rfl (fun _ h _=>h),h.gone,fun j key=>?_,fun e he=>(h.T e he).step E fun hx=>.inr hx,h.one,h.bgone,fun r hr=>(h.R r hr).step E⟩
 ·rcases hnew key s L hp with e | ⟨e1,rfl⟩
  ·exact⟨(h.p1 key s L e).1.mono (Smp.le_refl _) (hst key),(h.p1 key s L e).2⟩
  ·exact⟨e1,Nat.le_refl _⟩
 ·obtain⟨L,hL,_⟩:=hall key s hq;exact⟨L,hL⟩
 ·rcases hnew key s' L' hp with e | ⟨e1,rfl⟩
  ·obtain⟨L,h1,h2⟩:=h.p3 key s s' L' hs e;exact⟨L,hold _ _ _ h1,h2⟩
  ·exact hall key s (e1.mono hs fun _=>Smp.le_refl _)
 ·rcases mem_sendL hx with hx | rfl
  ·exact(h.mails x hx).step E (Int.le_refl _) fun hb _=>⟨hb,rfl,rfl,fun _=>rfl,rfl⟩
  ·refine⟨hm.cl,hm.rd,.inr ⟨w3,w1,w2⟩,fun _=>hv,fun hb hr=>?_⟩;obtain⟨d1,d2,d3,d4,d5⟩:=hm.cur hb hr;refine⟨d1,d2,fun hx=>?_,fun _ ht=>?_,fun _ ht=>?_⟩
   ·have:m.fr < (S.n:Int):=hx;have:=hm.cl;omega
   ·refine Smp.le_trans ((h.idle m.l.c hb).amin ht m.to) ?_;show ((S.has m.to (S.cl m.l.c).key).s).le (nodeH (S.has m.to m.l.key) m.l).s;rw[←d1];exact nodeH_own _ _
   ·show (S.cl m.l.c).kept.s.le (updH S.has m.to m.l.key (nodeH (S.has m.to m.l.key) m.l) m.to (S.cl m.l.c).key).s;rw[←d1,updH_same,←d3 hto ht];exact nodeH_told _ (d2.trans ht)
 ·show VOk G.T key (updH S.has m.to m.l.key _ j key);by_cases e:j=m.to∧key=m.l.key
  ·obtain⟨rfl,rfl⟩:=e;rw[updH_same];exact hv
  ·rw[updH_ne _ _ e];exact h.has _ _
theorem VOk.t0 {S:Sto} {G:Gho} (h:SInv S G) {key:Int} {x:Hd} (hv:VOk G.T key x):0≤x.s.t:=by
 rcases hv with ⟨e,_⟩ | ⟨e,he,_,e2,_⟩
 ·rw[e];decide
 ·have:=(h.T e he).hi;rw[e2] at this;omega
theorem ClOk.count {S:Sto} {G:Gho} (h:SInv S G) {c:Int} {x:Cl} (hx:ClOk S G c x) {node:Int} {v:Hd} (hn:0≤node∧node < S.n) (hnot:node∉x.cnt) (hv:VOk G.T x.key v) (ha:x.tells=false→(G.sn c node).le v.s) (ht:x.tells=true→x.kept.s.le (S.st x.key node)):
  ClOk S G c (countC x node v)∧((countC x node v).tells=false→VOk G.T x.key (countC x node v).kept):=by
 have hk:x.tells=true→(countC x node v).kept=x.kept:=fun e=>by simp[countC,e]
 have hle:x.kept.s.le (countC x node v).kept.s:=by
  unfold countC;simp only
  split
  ·rename_i e;exact Smp.lt_le e.2
  ·exact Smp.le_refl _
 have hvl:x.tells=false→v.s.le (countC x node v).kept.s:=fun e=>by
  unfold countC;simp only
  split
  ·exact Smp.le_refl _
  ·rename_i hn;exact Smp.not_lt.1 fun hl=>hn ⟨e,hl⟩
 have hval:x.tells=false→VOk G.T x.key (countC x node v).kept:=fun e=>by
  unfold countC;simp only
  split
  ·exact hv
  ·rename_i hno
   rcases hx.aval e with ⟨_,e2⟩ | e2
   ·exfalso
    apply hno
    refine⟨e,?_⟩;rw[e2];have:=hv.t0 h;exact .inl (by show (-1:Int) < _;omega)
   ·exact e2
 refine⟨⟨hx.lo,hx.bg,hx.inv,hx.past,?_,?_,hx.asnap,hx.amin,fun e j hj=>?_,fun e=>.inr (hval e),fun e s L hp hl=>?_,fun e j hj=>?_,fun e=>?_,fun e ew=>?_⟩,hval⟩
 ·show (x.cnt++ [node]).Nodup;rw[List.nodup_append];refine⟨hx.nd,by simp,fun a ha' b hb e=>?_⟩;obtain rfl:=List.mem_singleton.1 hb;exact hnot (by rw[←e];exact ha')
 ·intro j hj;rcases List.mem_append.1 hj with hj | hj
  ·exact hx.inn j hj
  ·obtain rfl:=List.mem_singleton.1 hj;exact hn
 ·rcases List.mem_append.1 hj with hj | hj
  ·exact Smp.le_trans (hx.acnt e j hj) hle
  ·obtain rfl:=List.mem_singleton.1 hj;exact Smp.le_trans (ha e) (hvl e)
 ·rw[hk e];exact hx.tp e s L hp hl
 ·rw[hk e];rcases List.mem_append.1 hj with hj | hj
  ·exact hx.tcnt e j hj
  ·obtain rfl:=List.mem_singleton.1 hj;exact ht e
 ·rw[hk e];exact hx.tval e
 ·rw[hk e];exact hx.tw e ew
theorem ClOk.asked {S:Sto} {G:Gho} (h:SInv S G) {c:Int} {x:Cl} (hx:ClOk S G c x) (ha:x.tells=false) (hl:S.ask≤x.cnt.length):∀s L,G.p x.key s=some L→L≤G.bg c→s.le x.kept.s:=fun s L hp hb=>by
 obtain⟨j,hj,e⟩:=quo_meets (hx.asnap ha s L hp hb) h.cross hl hx.nd hx.inn;exact Smp.le_trans e (hx.acnt ha j hj)
theorem SInv.some_ {S:Sto} {G:Gho} (h:SInv S G) {c:Int} {y:Cl} (hb:(S.cl c).busy=true) (hy:ClOk S G c y) (e1:y.busy=true) (e2:y.rd=(S.cl c).rd) (e3:y.key=(S.cl c).key) (e4:y.tells=(S.cl c).tells) (e5:y.tells=true→y.kept=(S.cl c).kept) (e6:y.write=(S.cl c).write) (e7:y.gone=(S.cl c).gone):
  SInv {S with cl:=updC S.cl c y} G:=by
 have E:ExtS S {S with cl:=updC S.cl c y} G G:=⟨rfl,rfl,rfl,rfl,fun _ _=>Smp.le_refl _,fun _ h=>h,fun _ h=>h,fun _ _ _ h=>.inl h,fun _ _ _ h=>h,Nat.le_refl _,fun _ _=>rfl⟩;refine⟨h.ask,h.tell,h.cross,h.p1,h.p2,h.p3,fun m hm=>?_,fun d hd=>?_,fun d hd=>?_,h.has,fun e he=>(h.T e he).step E fun hx=>?_,h.one,h.bgone,fun r hr=>(h.R r hr).step E⟩
 ·by_cases e:m.l.c=c
  ·refine(h.mails m hm).step E ?_ fun _ _=>?_
   ·show _≤(updC S.cl c y m.l.c).rd;rw[e,updC_same,e2];exact Int.le_refl _
   ·show _∧(updC S.cl c y m.l.c).key=_∧(updC S.cl c y m.l.c).tells=_∧(_→(updC S.cl c y m.l.c).kept=_)∧_;rw[e,updC_same];exact⟨hb,e3,e4,fun ht=>e5 (e4.trans ht),rfl⟩
  ·refine(h.mails m hm).step E ?_ fun hb' _=>?_
   ·show _≤(updC S.cl c y m.l.c).rd;rw[updC_ne _ _ e];exact Int.le_refl _
   ·have hb2:(updC S.cl c y m.l.c).busy=true:=hb';rw[updC_ne _ _ e] at hb2;show _∧(updC S.cl c y m.l.c).key=_∧(updC S.cl c y m.l.c).tells=_∧(_→(updC S.cl c y m.l.c).kept=_)∧_;rw[updC_ne _ _ e];exact⟨hb2,rfl,rfl,fun _=>rfl,rfl⟩
 ·show ClOk _ _ _ (updC S.cl c y d);by_cases e:d=c
  ·subst e;rw[updC_same];exact hy.step E rfl rfl (fun _ h _=>h)
  ·have hb2:(updC S.cl c y d).busy=true:=hd;rw[updC_ne _ _ e] at hb2 ⊢;exact(h.idle d hb2).step E rfl rfl (fun _ h _=>h)
 ·have hd2:(updC S.cl c y d).gone=true:=hd;show (updC S.cl c y d).busy=false;by_cases e:d=c
  ·subst e;rw[updC_same,e7] at hd2;rw[h.gone d hd2] at hb;cases hb
  ·rw[updC_ne _ _ e] at hd2 ⊢;exact h.gone d hd2
 ·show _∨(updC S.cl c y e.c).gone=true∨((updC S.cl c y e.c).busy=true∧(updC S.cl c y e.c).tells=true∧(updC S.cl c y e.c).write=true∧(updC S.cl c y e.c).key=_∧(updC S.cl c y e.c).kept.s=_∧_);by_cases ec:e.c=c
  ·rw[ec] at hx ⊢;rw[updC_same];rcases hx with hx | ⟨x1,x2,x3,x4,x5,x6⟩
   ·exact .inr (.inl (e7.trans hx))
   ·exact .inr (.inr ⟨e1,e4.trans x2,e6.trans x3,e3.trans x4,by rw[e5 (e4.trans x2)];exact x5,x6⟩)
  ·rw[updC_ne _ _ ec];exact .inr hx
theorem SInv.tells {S:Sto} {G:Gho} (h:SInv S G) {c:Int} {y:Cl} (hb:(S.cl c).busy=true) (ha:(S.cl c).tells=false) (hy:ClOk S G c y) (e1:y.busy=true) (e2:y.rd=(S.cl c).rd) (e4:y.tells=false) (e7:y.gone=(S.cl c).gone) (hv:VOk G.T y.key y.kept) (hl:S.ask≤y.cnt.length):
  SInv (roundS S c (tellC c y)) {G with T:=if y.write=true then (⟨y.key,(tellC c y).kept.s,y.value,c,G.bg c⟩:Tw)::G.T else G.T} :=by
 have hasked:=hy.asked h e4 hl;have hgone:(S.cl c).gone=false:=by
  cases e:(S.cl c).gone with
  | false=>rfl
  | true=>rw[h.gone c e] at hb;cases hb
 have hT:∀e∈G.T,e∈(if y.write=true then (⟨y.key,(tellC c y).kept.s,y.value,c,G.bg c⟩:Tw)::G.T else G.T):=fun e he=>by
  split
  ·exact List.mem_cons_of_mem _ he
  ·exact he
 have hTn:∀e∈(if y.write=true then (⟨y.key,(tellC c y).kept.s,y.value,c,G.bg c⟩:Tw)::G.T else G.T),e∈G.T∨(y.write=true∧e=⟨y.key,(tellC c y).kept.s,y.value,c,G.bg c⟩):=fun e he=>by
  split at he
  ·rename_i hw
   rcases List.mem_cons.1 he with he | he
   ·exact .inr ⟨hw,he⟩
   ·exact .inl he
  ·exact .inl he
 have hks:y.write=true→(tellC c y).kept=⟨⟨y.kept.s.t+1,c⟩,y.value⟩:=fun hw=>by simp[tellC,hw]
 have hkr:y.write=false→(tellC c y).kept=y.kept:=fun hw=>by simp[tellC,hw]
 have hlt:y.write=true→y.kept.s.lt (tellC c y).kept.s:=fun hw=>by rw[hks hw];exact .inl (by show y.kept.s.t < y.kept.s.t+1;omega)
 have hle:y.kept.s.le (tellC c y).kept.s:=by
  cases hw:y.write with
  | true=>exact Smp.lt_le (hlt hw)
  | false=>rw[hkr hw];exact Smp.le_refl _
 have hnv:VOk (if y.write=true then (⟨y.key,(tellC c y).kept.s,y.value,c,G.bg c⟩:Tw)::G.T else G.T) y.key (tellC c y).kept:=by
  cases hw:y.write with
  | true=>
   rw[if_pos rfl];exact .inr ⟨_,List.mem_cons_self,rfl,rfl,by rw[hks hw]⟩
  | false=>rw[if_neg (by decide),hkr hw];exact hv
 have E:ExtS S (roundS S c (tellC c y)) G {G with T:=if y.write=true then (⟨y.key,(tellC c y).kept.s,y.value,c,G.bg c⟩:Tw)::G.T else G.T} :=
  ⟨rfl,rfl,rfl,rfl,fun _ _=>Smp.le_refl _,hT,fun _ h=>h,fun _ _ _ h=>.inl h,fun _ _ _ h=>h,Nat.le_refl _,fun _ _=>rfl⟩
 have hcl:(roundS S c (tellC c y)).cl c=roundC (tellC c y):=updC_same _ _ _;have hne:∀d,d≠c→(roundS S c (tellC c y)).cl d=S.cl d:=fun d hd=>updC_ne _ _ hd
 refine⟨h.ask,h.tell,h.cross,h.p1,h.p2,h.p3,fun m hm=>?_,fun d hd=>?_,fun d hd=>?_,fun j key=>(h.has j key).mono hT,fun e he=>?_,fun e he e' he' hk hs=>?_,fun e he e' he' hk=>?_,fun r hr=>(h.R r hr).step E⟩
 ·rcases mem_sendAll hm with hm | ⟨j,hj,rfl⟩
  ·by_cases e:m.l.c=c
   ·refine(h.mails m hm).step E ?_ fun _ hr=>?_
    ·rw[e,hcl];show _≤y.rd+1;omega
    ·rw[e,hcl] at hr;have:(S.cl c).rd=y.rd+1:=hr;omega
   ·refine(h.mails m hm).step E (by rw[hne _ e];exact Int.le_refl _) fun hb' _=>?_
    rw[hne _ e] at hb' ⊢;exact⟨hb',rfl,rfl,fun _=>rfl,rfl⟩
  ·exact mail_fresh (S:=roundS S c (tellC c y)) hy.lo hj hcl (fun _=>hnv)
 ·by_cases e:d=c
  ·subst e;rw[hcl];refine⟨hy.lo,hy.bg,hy.inv,hy.past,List.nodup_nil,fun j hj=>absurd hj (by simp[roundC]),fun ht=>(by cases ht),fun ht=>(by cases ht),fun ht=>(by cases ht),fun ht=>(by cases ht),fun _ s L hp hl'=>?_,fun _ j hj=>absurd hj (by simp[roundC]),fun _=>hnv,fun _ hw=>?_⟩
   ·have h1:=hasked s L hp hl';refine⟨Smp.le_trans h1 hle,fun hw e=>?_⟩;have h2:=hlt hw;have h3:s=(tellC d y).kept.s:=e;rw[←h3] at h2;exact Smp.lt_irrefl _ (Smp.lt_of_le_lt h1 h2)
   ·have hw':y.write=true:=hw;refine⟨?_,?_⟩
    ·show _∈(if y.write=true then (⟨y.key,(tellC d y).kept.s,y.value,d,G.bg d⟩:Tw)::G.T else G.T);rw[if_pos hw'];exact List.mem_cons_self
    ·show (tellC d y).kept.v=y.value;rw[hks hw']
  ·rw[hne _ e] at hd ⊢;exact(h.idle d hd).step E rfl rfl (fun _ h _=>h)
 ·by_cases e:d=c
  ·subst e;rw[hcl] at hd;have:y.gone=true:=hd;rw[e7,hgone] at this;cases this
  ·rw[hne _ e] at hd ⊢;exact h.gone d hd
 ·rcases hTn e he with he | ⟨hw,rfl⟩
  ·refine(h.T e he).step E fun hx=>?_
   by_cases ec:e.c=c
   ·rw[ec,hgone,ha] at hx;rcases hx with hx | hx
    ·cases hx
    ·cases hx.2.1
   ·rw[hne _ ec];exact .inr hx
  ·refine⟨?_,?_,hy.lo,hy.bg,?_,fun L hp=>?_,?_⟩
   ·have:=hv.t0 h;rw[hks hw];show 1≤y.kept.s.t+1;omega
   ·rw[hks hw]
   ·have:=hy.inv;rw[show (roundS S c (tellC c y)).seen=S.seen from rfl,this];simp[snOf,hw]
   ·apply Nat.lt_of_not_le
    intro hle';exact Smp.lt_irrefl _ (Smp.lt_of_le_lt (hasked _ L hp hle') (hlt hw))
   ·right;right
    simp only[hcl];exact⟨e1,rfl,hw,rfl,rfl,trivial⟩
 ·have key:∀e∈G.T,y.write=true→e.key=y.key→e.s=(tellC c y).kept.s→False:=fun e he hw hk hs=>by
   have hec:e.c=c:=by
    have:=(h.T e he).c;rw[hs,hks hw] at this;exact this.symm
   rcases(h.T e he).end_ with ⟨r,hr,r1,r2,r3,r4,r5,r6⟩ | hx | hx
   ·obtain⟨L,hL,hLo⟩:=(h.R r hr).set_ (.inl r1);have hp:=hy.past r hr (r3.trans hec);rw[r4,r5,hk,hs] at hL;exact Smp.lt_irrefl _ (Smp.lt_of_le_lt (hasked _ L hL (by omega)) (hlt hw))
   ·rw[hec,hgone] at hx;cases hx
   ·rw[hec,ha] at hx;cases hx.2.1
  rcases hTn e he with he | ⟨hw,rfl⟩<;>rcases hTn e' he' with he' | ⟨hw',rfl⟩
  ·exact h.one e he e' he' hk hs
  ·exact(key e he hw' hk hs).elim
  ·exact(key e' he' hw hk.symm hs.symm).elim
  ·rfl
 ·have key:∀e∈G.T,e.bg=G.bg c→False:=fun e he hk=>by
   have h1:=(h.T e he).inv;rw[hk,hy.inv] at h1;have hec:e.c=c:=by
    have:=congrArg Sn.proc (Option.some.inj h1);exact this.symm
   rcases(h.T e he).end_ with ⟨r,hr,r1,r2,r3,r4,r5,r6⟩ | hx | hx
   ·have hp:=hy.past r hr (r3.trans hec);have hb':=(h.R r hr).bg;omega
   ·rw[hec,hgone] at hx;cases hx
   ·rw[hec,ha] at hx;cases hx.2.1
  rcases hTn e he with he | ⟨hw,rfl⟩<;>rcases hTn e' he' with he' | ⟨hw',rfl⟩
  ·exact h.bgone e he e' he' hk
  ·exact(key e he hk).elim
  ·exact(key e' he' hk.symm).elim
  ·rfl
theorem SInv.done {S:Sto} {G:Gho} (h:SInv S G) {c:Int} {y:Cl} (hb:(S.cl c).busy=true) (hy:ClOk S G c y) (e3:y.key=(S.cl c).key) (e4:y.tells=(S.cl c).tells) (e5:y.tells=true→y.kept=(S.cl c).kept) (e6:y.write=(S.cl c).write) (e8:y.rd=(S.cl c).rd) (e7:y.gone=(S.cl c).gone)
  (hv:y.tells=false→VOk G.T y.key y.kept) (hl:(if y.tells then S.tell else S.ask)≤y.cnt.length) (hk:y.tells=false→y.write=false∧S.back=false):
  SInv (doneS S c y) {G with R:=G.R++ [(⟨G.bg c,S.seen.length,c,y.key,y.write,y.kept.s,if y.write then y.value else y.kept.v⟩:Rc)]} :=by
 have hgone:(S.cl c).gone=false:=by
  cases e:(S.cl c).gone with
  | false=>rfl
  | true=>rw[h.gone c e] at hb;cases hb
 have E:ExtS S (doneS S c y) G {G with R:=G.R++ [(⟨G.bg c,S.seen.length,c,y.key,y.write,y.kept.s,if y.write then y.value else y.kept.v⟩:Rc)]} :=
  ⟨rfl,rfl,rfl,rfl,fun _ _=>Smp.le_refl _,fun _ h=>h,fun _ h=>List.mem_append_left _ h,fun _ _ _ h=>.inl h,fun _ _ _ h=>h,by simp[doneS],fun i hi=>by simp only[doneS];exact ext_seen hi⟩
 have hcl:(doneS S c y).cl c= {y with busy:=false} :=updC_same _ _ _;have hne:∀d,d≠c→(doneS S c y).cl d=S.cl d:=fun d hd=>updC_ne _ _ hd
 obtain⟨q1,q2⟩:=p_stays (S':=doneS S c y) h rfl rfl rfl E.len;have hwt:y.write=true→y.tells=true:=fun hw=>by
  cases e:y.tells with
  | true=>rfl
  | false=>have:=(hk e).1;rw[hw] at this;cases this
 refine⟨h.ask,h.tell,h.cross,q1,q2,h.p3,fun m hm=>?_,fun d hd=>?_,fun d hd=>?_,h.has,fun e he=>(h.T e he).step E fun hx=>?_,h.one,h.bgone,fun r hr=>?_⟩
 ·by_cases e:m.l.c=c
  ·refine(h.mails m hm).step E ?_ fun hb' _=>?_
   ·rw[e,hcl];show _≤y.rd;omega
   ·rw[e,hcl] at hb';cases hb'
  ·refine(h.mails m hm).step E (by rw[hne _ e];exact Int.le_refl _) fun hb' _=>?_
   rw[hne _ e] at hb' ⊢;exact⟨hb',rfl,rfl,fun _=>rfl,rfl⟩
 ·by_cases e:d=c
  ·subst e;rw[hcl] at hd;cases hd
  ·rw[hne _ e] at hd ⊢;refine(h.idle d hd).step E rfl rfl fun r hr hrc=>?_
   rcases List.mem_append.1 hr with hr | hr
   ·exact hr
   ·obtain rfl:=List.mem_singleton.1 hr;exact absurd hrc.symm e
 ·by_cases e:d=c
  ·subst e;rw[hcl]
  ·rw[hne _ e] at hd ⊢;exact h.gone d hd
 ·by_cases ec:e.c=c
  ·rw[ec,hgone] at hx;rcases hx with hx | ⟨x1,x2,x3,x4,x5,x6⟩
   ·cases hx
   ·left
    have hyt:y.tells=true:=e4.trans x2;have hyw:y.write=true:=e6.trans x3;obtain⟨t1,t2⟩:=hy.tw hyt hyw;have hks:y.kept.s=e.s:=by rw[e5 hyt];exact x5
    have heq:=h.one e he _ t1 (by rw[←x4,←e3]) hks.symm;refine⟨_,List.mem_append_right _ (List.mem_singleton.2 rfl),hyw,x6,ec.symm,e3.trans x4,hks,?_⟩;rw[if_pos hyw];rw[heq]
  ·rw[hne _ ec];exact .inr hx
 ·rcases List.mem_append.1 hr with hr | hr
  ·exact(h.R r hr).step E
  ·obtain rfl:=List.mem_singleton.1 hr;refine⟨hy.bg,by simp[doneS],?_,?_,fun hw=>?_,fun s L hp hl'=>?_,?_,fun hw=>?_⟩
   ·have hb':=hy.bg;show (S.seen++ [_])[G.bg c]?=_;rw[ext_seen hb',hy.inv];cases hw:y.write<;>simp[snOf,hw]
   ·show (S.seen++ [_])[S.seen.length]?=_;rw[List.getElem?_append_right (Nat.le_refl _),Nat.sub_self];cases hw:y.write<;>simp[snOf,hw]
   ·cases ht:y.tells with
    | true=>
     rw[ht] at hl;have hq:=quo_of_cnt (f:=S.st y.key) (s:=y.kept.s) hl hy.nd hy.inn (hy.tcnt ht);obtain⟨L,hL⟩:=h.p2 y.key _ hq;exact⟨L,hL,(h.p1 _ _ L hL).2⟩
    | false=>
     obtain⟨k1,k2⟩:=hk ht;rcases hw with hw | hw
     ·have:y.write=true:=hw;rw[k1] at this;cases this
     ·have:S.back=true:=hw;rw[k2] at this;cases this
   ·cases ht:y.tells with
    | true=>exact hy.tp ht s L hp hl'
    | false=>
     rw[ht] at hl;refine⟨hy.asked h ht hl s L hp hl',fun hw=>?_⟩;have:y.write=true:=hw;rw[(hk ht).1] at this;cases this
   ·show VOk G.T y.key ⟨y.kept.s,if y.write then y.value else y.kept.v⟩;cases hw:y.write with
    | true=>
     have ht:=hwt hw;have:=hy.tval ht;have hv':=(hy.tw ht hw).2;rw[if_pos rfl,←hv'];exact this
    | false=>
     rw[if_neg (by decide)];cases ht:y.tells with
     | true=>exact hy.tval ht
     | false=>exact hv ht
   ·have hw':y.write=true:=hw;show (⟨y.key,y.kept.s,if y.write then y.value else y.kept.v,c,G.bg c⟩:Tw)∈G.T;rw[if_pos hw'];exact(hy.tw (hwt hw') hw').1
def cl0:Cl:=⟨false,false,false,false,0,0,0,⟨⟨0,0⟩,0⟩,[]⟩
def sto0 (n k ask tell:Nat) (back:Bool):Sto:=⟨n,k,ask,tell,back,fun _ _=>true,[],fun _ _=>hd0,fun _=>cl0,[]⟩
def atK (k:Nat→Int) (wr:Nat→Bool) (v:Nat→Int) (ord:List Nat):Nat→Int→Int
 | 0,_=>0
 | q+1,key=>if wr (ord.getD q 0)=true∧k (ord.getD q 0)=key then v (ord.getD q 0) else atK k wr v ord q key
section
variable {k : Nat → Int} {wr : Nat → Bool} {v : Nat → Int} {ord : List Nat}
theorem atK_last {p:Nat} {key:Int} (h1:wr (ord.getD p 0)=true) (h2:k (ord.getD p 0)=key):∀q,p < q→(∀p',p < p'→p' < q→¬(wr (ord.getD p' 0)=true∧k (ord.getD p' 0)=key))→atK k wr v ord q key=v (ord.getD p 0)
 | 0,h,_=>absurd h (Nat.not_lt_zero _)
 | q+1,h,hn=>by
  unfold atK;by_cases e:p=q
  ·subst e;rw[if_pos ⟨h1,h2⟩]
  ·rw[if_neg (hn q (by omega) (by omega))];exact atK_last h1 h2 q (by omega) fun p' a b=>hn p' a (by omega)
theorem atK_none {key:Int} :∀q,(∀p',p' < q→¬(wr (ord.getD p' 0)=true∧k (ord.getD p' 0)=key))→atK k wr v ord q key=0
 | 0,_=>rfl
 | q+1,hn=>by
  unfold atK;rw[if_neg (hn q (by omega))];exact atK_none q fun p' a=>hn p' (by omega)
end
def ptLe (t:Nat→Int) (s:Nat→Smp) (wr:Nat→Bool) (i j:Nat):Prop:=
 t i < t j∨(t i=t j∧((s i).t < (s j).t∨((s i).t=(s j).t∧((s i).c < (s j).c∨((s i).c=(s j).c∧((wr i=true∧wr j=false)∨(wr i=wr j∧i≤j)))))))
instance (t:Nat→Int) (s:Nat→Smp) (wr:Nat→Bool) (i j:Nat):Decidable (ptLe t s wr i j):=by unfold ptLe;infer_instance
section
variable {t : Nat → Int} {s : Nat → Smp} {wr : Nat → Bool}
theorem ptLe_trans {i j l:Nat} (h:ptLe t s wr i j) (h':ptLe t s wr j l):ptLe t s wr i l:=by
 unfold ptLe at*
 rcases Int.lt_trichotomy (t i) (t l) with e | e | e
 ·exact .inl e
 ·refine .inr ⟨e,?_⟩;have h:=h.resolve_left (by omega);have h':=h'.resolve_left (by omega);rcases Int.lt_trichotomy (s i).t (s l).t with e2 | e2 | e2
  ·exact .inl e2
  ·refine .inr ⟨e2,?_⟩;have h:=h.2.resolve_left (by omega);have h':=h'.2.resolve_left (by omega);rcases Int.lt_trichotomy (s i).c (s l).c with e3 | e3 | e3
   ·exact .inl e3
   ·refine .inr ⟨e3,?_⟩;have h:=h.2.resolve_left (by omega);have h':=h'.2.resolve_left (by omega);rcases h.2 with ⟨a,b⟩ | ⟨a,b⟩<;>rcases h'.2 with ⟨c,d⟩ | ⟨c,d⟩
    ·rw[b] at c;cases c
    ·exact .inl ⟨a,by rw[←c];exact b⟩
    ·exact .inl ⟨by rw[a];exact c,d⟩
    ·exact .inr ⟨a.trans c,Nat.le_trans b d⟩
   ·exfalso
    rcases h.2.resolve_left (by omega) with h2;omega
  ·exfalso;omega
 ·exfalso;omega
theorem ptLe_total (i j:Nat):ptLe t s wr i j∨ptLe t s wr j i:=by
 unfold ptLe;rcases Int.lt_trichotomy (t i) (t j) with e | e | e
 ·exact .inl (.inl e)
 ·rcases Int.lt_trichotomy (s i).t (s j).t with e2 | e2 | e2
  ·exact .inl (.inr ⟨e,.inl e2⟩)
  ·rcases Int.lt_trichotomy (s i).c (s j).c with e3 | e3 | e3
   ·exact .inl (.inr ⟨e,.inr ⟨e2,.inl e3⟩⟩)
   ·cases hi:wr i<;>cases hj:wr j
    ·rcases Nat.le_total i j with h | h
     ·exact .inl (.inr ⟨e,.inr ⟨e2,.inr ⟨e3,.inr ⟨rfl,h⟩⟩⟩⟩)
     ·exact .inr (.inr ⟨e.symm,.inr ⟨e2.symm,.inr ⟨e3.symm,.inr ⟨rfl,h⟩⟩⟩⟩)
    ·exact .inr (.inr ⟨e.symm,.inr ⟨e2.symm,.inr ⟨e3.symm,.inl ⟨rfl,rfl⟩⟩⟩⟩)
    ·exact .inl (.inr ⟨e,.inr ⟨e2,.inr ⟨e3,.inl ⟨rfl,rfl⟩⟩⟩⟩)
    ·rcases Nat.le_total i j with h | h
     ·exact .inl (.inr ⟨e,.inr ⟨e2,.inr ⟨e3,.inr ⟨rfl,h⟩⟩⟩⟩)
     ·exact .inr (.inr ⟨e.symm,.inr ⟨e2.symm,.inr ⟨e3.symm,.inr ⟨rfl,h⟩⟩⟩⟩)
   ·exact .inr (.inr ⟨e.symm,.inr ⟨e2.symm,.inl e3⟩⟩)
  ·exact .inr (.inr ⟨e.symm,.inl e2⟩)
 ·exact .inr (.inl e)
end
structure Pts (n : Nat) (c e k v : Nat → Int) (wr inc : Nat → Bool) (t : Nat → Int) (s : Nat → Smp) : Prop where
 lo:∀i,i < n→inc i=true→c i < t i
 hi:∀i,i < n→inc i=true→0≤e i→t i≤e i
 all:∀i,i < n→0≤e i→inc i=true
 mono:∀i j,i < n→j < n→inc i=true→inc j=true→k i=k j→(s i).lt (s j)→t i≤t j
 one:∀i j,i < n→j < n→inc i=true→inc j=true→wr i=true→wr j=true→k i=k j→s i=s j→i=j
 src:∀i,i < n→inc i=true→wr i=false→(s i=⟨0,-1⟩∧v i=0)∨∃j,j < n∧inc j=true∧wr j=true∧k j=k i∧s j=s i∧v j=v i∧t j≤t i
 pos:∀j,j < n→inc j=true→wr j=true→Smp.lt ⟨0,-1⟩ (s j)
structure OrdK (n : Nat) (c e k v : Nat → Int) (wr : Nat → Bool) (ord : List Nat) : Prop where
 once:ord.Nodup
 rng:∀i∈ord,i < n
 whole:∀i,i < n→0≤e i→i∈ord
 timely:∀p q,p < q→q < ord.length→¬(0≤e (ord.getD q 0)∧e (ord.getD q 0) < c (ord.getD p 0))
 last:∀q,q < ord.length→wr (ord.getD q 0)=false→v (ord.getD q 0)=atK k wr v ord q (k (ord.getD q 0))
theorem ord_of_pts {n:Nat} {c e k v:Nat→Int} {wr inc:Nat→Bool} {t:Nat→Int} {s:Nat→Smp} (h:Pts n c e k v wr inc t s):∃ord,OrdK n c e k v wr ord:=by
 let ord:=((List.range n).filter inc).mergeSort fun i j=>decide (ptLe t s wr i j)
 have hmem:∀i,i∈ord↔i < n∧inc i=true:=fun i=>by
  show i∈List.mergeSort _ _↔_;rw[List.mem_mergeSort,List.mem_filter,List.mem_range]
 have hsrt:ord.Pairwise fun i j=>decide (ptLe t s wr i j)=true:=
  List.pairwise_mergeSort (le:=fun i j=>decide (ptLe t s wr i j)) (fun a b c h1 h2=>decide_eq_true (ptLe_trans (of_decide_eq_true h1) (of_decide_eq_true h2)))
   (fun a b=>by
    rcases ptLe_total (t:=t) (s:=s) (wr:=wr) a b with h | h
    ·simp[h]
    ·simp[h]) ((List.range n).filter inc)
 have hnd:ord.Nodup:=by
  have:((List.range n).filter inc).Nodup:=List.Pairwise.filter _ List.nodup_range;exact(List.mergeSort_perm _ _).nodup_iff.2 this
 have hgd:∀q (hq:q < ord.length),ord.getD q 0=ord[q]:=fun q hq=>by
  rw[List.getD_eq_getElem?_getD,List.getElem?_eq_getElem hq];rfl
 have hget:∀q,q < ord.length→ord.getD q 0 < n∧inc (ord.getD q 0)=true:=fun q hq=>by
  rw[List.getD_eq_getElem?_getD,List.getElem?_eq_getElem hq];exact(hmem _).1 (List.getElem_mem hq)
 have hle:∀p q,p < q→q < ord.length→ptLe t s wr (ord.getD p 0) (ord.getD q 0):=fun p q hpq hq=>by
  have:=List.pairwise_iff_getElem.1 hsrt p q (by omega) hq hpq;rw[hgd q hq,hgd p (by omega)];exact of_decide_eq_true this
 have hinj:∀p q,p < ord.length→q < ord.length→ord.getD p 0=ord.getD q 0→p=q:=fun p q hp hq e=>by
  rw[hgd q hq,hgd p hp] at e;rcases Nat.lt_trichotomy p q with h1 | h1 | h1
  ·exact absurd e (List.pairwise_iff_getElem.1 hnd p q hp hq h1)
  ·exact h1
  ·exact absurd e.symm (List.pairwise_iff_getElem.1 hnd q p hq hp h1)
 have hplace:∀i,i < n→inc i=true→∃p,p < ord.length∧ord.getD p 0=i:=fun i hi hc=>by
  obtain⟨p,hp,e⟩:=List.mem_iff_getElem.1 ((hmem i).2 ⟨hi,hc⟩);exact⟨p,hp,by rw[List.getD_eq_getElem?_getD,List.getElem?_eq_getElem hp];exact e⟩
 -- two places whose ops stand in strict order
 have hbefore:∀p q,p < ord.length→q < ord.length→¬ptLe t s wr (ord.getD q 0) (ord.getD p 0)→p < q:=fun p q hp hq hn=>by
  rcases Nat.lt_trichotomy p q with h1 | h1 | h1
  ·exact h1
  ·subst h1
   exfalso
   apply hn
   rcases ptLe_total (t:=t) (s:=s) (wr:=wr) (ord.getD p 0) (ord.getD p 0) with h | h<;>exact h
  ·exact absurd (hle q p h1 hp) hn
 refine⟨ord,hnd,fun i hi=>((hmem i).1 hi).1,fun i hi he=>(hmem i).2 ⟨hi,h.all i hi he⟩,fun p q hpq hq ⟨h1,h2⟩=>?_,fun q hq hr=>?_⟩
 ·obtain⟨a1,a2⟩:=hget q hq;obtain⟨b1,b2⟩:=hget p (by omega);have h3:=h.hi _ a1 a2 h1;have h4:=h.lo _ b1 b2;have h5:=hle p q hpq hq;unfold ptLe at h5;omega
 ·obtain⟨a1,a2⟩:=hget q hq
  -- a write of a greater stamp to this key comes behind the read
  have hbig:∀p,p < ord.length→wr (ord.getD p 0)=true→k (ord.getD p 0)=k (ord.getD q 0)→(s (ord.getD q 0)).lt (s (ord.getD p 0))→q < p:=fun p hp hw hk hs=>by
   obtain⟨b1,b2⟩:=hget p hp;have h3:=h.mono _ _ a1 b1 a2 b2 hk.symm hs;refine hbefore q p hq hp ?_;unfold Smp.lt at hs;unfold ptLe;omega
  rcases h.src _ a1 a2 hr with ⟨e1,e2⟩ | ⟨j,hj,hjc,hjw,hjk,hjs,hjv,hjt⟩
  ·rw[e2,atK_none q];intro p hp ⟨hw,hk⟩;obtain⟨b1,b2⟩:=hget p (by omega);have:=hbig p (by omega) hw hk (by rw[e1];exact h.pos _ b1 b2 hw);omega
  ·obtain⟨p,hp,rfl⟩:=hplace j hj hjc;have hpq:p < q:=by
    refine hbefore p q hp hq ?_;have e1:(s (ord.getD p 0)).t=(s (ord.getD q 0)).t:=by rw[hjs]
    have e2:(s (ord.getD p 0)).c=(s (ord.getD q 0)).c:=by rw[hjs]
    rintro(hx | ⟨hx,hy | ⟨_,hy | ⟨_,⟨hy,_⟩ | ⟨hy,_⟩⟩⟩⟩)
    ·omega
    ·omega
    ·omega
    ·rw[hr] at hy;cases hy
    ·rw[hr,hjw] at hy;cases hy
   rw[←hjv,atK_last hjw hjk q hpq];intro p' h1 h2 ⟨hw,hk⟩;have hp':p' < ord.length:=by omega
   obtain⟨b1,b2⟩:=hget p' hp'
   -- its stamp is not this one,nor a greater one,nor a lesser one
   by_cases e3:s (ord.getD p' 0)=s (ord.getD p 0)
   ·have:=hinj p' p hp' hp (h.one _ _ b1 hj b2 hjc hw hjw (hk.trans hjk.symm) e3);omega
   ·by_cases e4:(s (ord.getD p 0)).lt (s (ord.getD p' 0))
    ·have:=hbig p' hp' hw hk (by rw[←hjs];exact e4);omega
    ·have e5:=Smp.not_lt.1 e4;have e6:(s (ord.getD p' 0)).lt (s (ord.getD p 0)):=(Smp.eq_or_lt e5).resolve_left e3;have h3:=h.mono _ _ b1 hj b2 hjc (hk.trans hjk.symm) e6;have h4:=hle p p' h1 hp';unfold ptLe at h4;unfold Smp.lt at e6;omega
end Go.Proofs.YtjpklmighoondaaGreatDoor
