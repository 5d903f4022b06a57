/-
  The history of events as plain data: what is seen, event by event; and that what it makes may be. Nothing of the program is named here.
  What a history makes, sorted by calls, may be: plain facts.
  Chapter 16 in plain Lean: who can talk to whom; it is told both ways; two who each talk to more than half meet.
  Chapters 16 and 17 in plain Lean: the moves of a store, and what they tell.
  What the small functions on ops do: contracts over the translated program.
  What the closures of opFault, and the search of the library that calls them, do.
  A call of a register, of a counter, of a mutex: the number is one's own, and is written in place.
-/
import Derived.Test.YtjpklmighoondaaGreatDoorFieldsQY
import Derived.Test.YtjpklmighoondaaGreatDoorGnPY
import Derived.Test.YtjpklmighoondaaGreatDoorRowSY
import Derived.Deep.QuietTactic
import Derived.BigQuiet
namespace Go.Proofs.YtjpklmighoondaaGreatDoor
def Ev.fault (e:Ev):Int:=faultN e.p e.t e.k e.d e.a e.b e.r
def Ev.op (e:Ev) (n:Int):Opn:=⟨e.p,e.k,e.d,e.a,e.b,0,n,-1⟩
structure Hs where
 busy:Int→Option Opn
 lost:Int→Bool
 done:List Opn
def Hs.new:Hs:=⟨fun _=>none,fun _=>false,[]⟩
def setO (f:Int→Option Opn) (p:Int) (v:Option Opn):Int→Option Opn:=fun q=>if q=p then v else f q
def setB (f:Int→Bool) (p:Int) (v:Bool):Int→Bool:=fun q=>if q=p then v else f q
def sameB (o:Opn) (e:Ev):Bool:=o.k==e.k&&o.d==e.d&&o.a==e.a&&o.b==e.b
def endO (o:Opn) (r n:Int):Opn:=⟨o.p,o.k,o.d,o.a,o.b,r,o.c,n⟩
def seeN (e:Ev) (s:Hs):Int:=
 if e.fault≠0 then e.fault
 else if e.t=1 then (if (s.busy e.p).isSome||s.lost e.p then 6 else 0)
 else match s.busy e.p with
  | none=>12
  | some o=>if sameB o e then 0 else 12
def seeS (n:Int) (e:Ev) (s:Hs):Hs:=
 if e.t=1 then⟨setO s.busy e.p (some (e.op n)),s.lost,s.done⟩
 else match s.busy e.p with
  | none=>s
  | some o=>
   if e.t=2 then⟨setO s.busy e.p none,s.lost,s.done++ [endO o e.r n]⟩
   else if e.t=4 then⟨setO s.busy e.p none,setB s.lost e.p true,s.done++ [o]⟩
   else⟨setO s.busy e.p none,s.lost,s.done⟩
def hist (l:List Ev):Nat→Hs
 | 0=>Hs.new
 | n+1=>match l[n]? with
  | some e=>seeS n e (hist l n)
  | none=>hist l n
def FineH (l:List Ev) (n:Nat):Prop:=∀i,(h:i < l.length)→i < n→seeN l[i] (hist l i)=0
def Apart (x y:Opn):Prop:=
 x.c≠y.c∧x.c≠y.e∧x.e≠y.c∧(x.e= -1∨x.e≠y.e)∧(x.p=y.p→beforeB x y=true∨beforeB y x=true)
theorem Apart.symm {x y:Opn} (h:Apart x y):Apart y x:=by
 obtain⟨h1,h2,h3,h4,h5⟩:=h;exact⟨Ne.symm h1,Ne.symm h3,Ne.symm h2,by
  rcases h4 with h | h
  ·by_cases e:y.e= -1
   ·exact .inl e
   ·exact .inr (fun k=>e (k.trans h))
  ·exact .inr (Ne.symm h),fun e=>(h5 e.symm).symm⟩
structure Good (l : List Ev) (n : Nat) (x : Opn) : Prop where
 lo:0≤x.c
 hi:x.c < n
 ret:x.e < n
 fit:(x.e= -1∧x.r=0)∨x.c < x.e
 num:numB x.r=true
 made:∃(i:Nat) (h:i < l.length),x.c=i∧l[i].t=1∧l[i].fault=0∧l[i].p=x.p∧l[i].k=x.k∧l[i].d=x.d∧l[i].a=x.a∧l[i].b=x.b
theorem Good.mono {l:List Ev} {n m:Nat} {x:Opn} (h:Good l n x) (hm:n≤m):Good l m x:=
 ⟨h.lo,by have:=h.hi;omega,by have:=h.ret;omega,h.fit,h.num,h.made⟩
structure Inv (l : List Ev) (n : Nat) (s : Hs) : Prop where
 good:∀x∈s.done,Good l n x
 goodB:∀p o,s.busy p=some o→Good l n o∧o.p=p∧o.e= -1∧o.r=0
 apart:s.done.Pairwise Apart
 apartB:∀x∈s.done,∀p o,s.busy p=some o→Apart x o
 apartBB:∀p q o o',p≠q→s.busy p=some o→s.busy q=some o'→Apart o o'
 lostB:∀p,s.lost p=true→s.busy p=none
 open1 : ∀ x ∈ s.done, x.e = -1 → s.lost x.p = true
theorem inv_new (l:List Ev):Inv l 0 Hs.new where
 good x h:=by simp[Hs.new] at h
 goodB p o h:=by simp[Hs.new] at h
 apart:=by simp[Hs.new]
 apartB x h:=by simp[Hs.new] at h
 apartBB p q o o' _ h:=by simp[Hs.new] at h
 lostB p h:=by simp[Hs.new] at h
 open1 x h := by simp [Hs.new] at h
theorem setO_same (f:Int→Option Opn) (p:Int) (v:Option Opn):setO f p v p=v:=by simp[setO]
theorem setO_other (f:Int→Option Opn) (p q:Int) (v:Option Opn) (h:q≠p):setO f p v q=f q:=by simp[setO,h]
theorem apart_new {l:List Ev} {n:Nat} {x:Opn} (e:Ev) (h:Good l n x) (hp:x.p=e.p→x.e≠ -1):Apart x (e.op n):=by
 have h1:=h.lo;have h2:=h.hi;have h3:=h.ret;have h4:=h.fit;refine⟨?_,?_,?_,?_,?_⟩
 ·show x.c≠(n:Int);omega
 ·show x.c≠(-1:Int);omega
 ·show x.e≠(n:Int);omega
 ·by_cases k:x.e= -1
  ·exact .inl k
  ·exact .inr k
 ·intro k;have hne:=hp k
  left
  show (decide (0≤x.e)&&decide (x.e < (n:Int)))=true;have g1:0≤x.e:=by omega
  have g2:x.e < (n:Int):=h3;simp[g1,g2]
theorem fault_parts {e:Ev} (h:e.fault=0):inB e.p e.k e.a e.b e.r=true∧1≤e.t∧e.t≤4∧kindB e.d=true∧(e.r=0∨e.t=2):=by
 unfold Ev.fault faultN at h;cases h1:inB e.p e.k e.a e.b e.r
 ·rw[h1] at h;simp at h
 ·rw[h1] at h;cases h2:(decide (1≤e.t∧e.t≤4)&&kindB e.d)
  ·rw[h2] at h;simp at h
  ·rw[h2] at h;by_cases h3:e.r=0∨e.t=2
   ·simp at h2;exact⟨rfl,h2.1.1,h2.1.2,h2.2,h3⟩
   ·simp[h3] at h
theorem inB_num {p k a b r:Int} (h:inB p k a b r=true):numB r=true:=by
 simp[inB] at h;exact h.2
theorem num_zero:numB 0=true:=rfl
theorem inv_begin {l:List Ev} {n:Nat} {s:Hs} (I:Inv l n s) (h:n < l.length) (ht:l[n].t=1) (hf:l[n].fault=0) (_hb:s.busy l[n].p=none) (hl:s.lost l[n].p=false):
  Inv l (n+1) ⟨setO s.busy l[n].p (some (l[n].op n)),s.lost,s.done⟩:=by
 have gnew:Good l (n+1) (l[n].op n):=⟨by show (0:Int)≤n;omega,by show (n:Int) < (n+1:Nat);omega,by show (-1:Int) < (n+1:Nat);omega,.inl ⟨rfl,rfl⟩,num_zero,⟨n,h,rfl,ht,hf,rfl,rfl,rfl,rfl,rfl⟩⟩;refine⟨fun x hx=>(I.good x hx).mono (by omega),?_,I.apart,?_,?_,?_,I.open1⟩
 ·intro p o ho;dsimp only at ho;by_cases e:p=l[n].p
  ·subst e;rw[setO_same] at ho;obtain rfl:=Option.some.inj ho;exact⟨gnew,rfl,rfl,rfl⟩
  ·rw[setO_other _ _ _ _ e] at ho;obtain⟨g,r⟩:=I.goodB p o ho;exact⟨g.mono (by omega),r⟩
 ·intro x hx p o ho;dsimp only at ho;by_cases e:p=l[n].p
  ·subst e;rw[setO_same] at ho;obtain rfl:=Option.some.inj ho;exact apart_new l[n] (I.good x hx) (fun k hk=>by have:=I.open1 x hx hk;rw[k,hl] at this;exact absurd this (by decide))
  ·rw[setO_other _ _ _ _ e] at ho;exact I.apartB x hx p o ho
 ·have key:∀q o',q≠l[n].p→s.busy q=some o'→Apart o' (l[n].op n):=fun q o' hq ho'=>by
   obtain⟨g,r,_⟩:=I.goodB q o' ho';exact apart_new l[n] g (fun k=>absurd (r.symm.trans k) hq)
  intro p q o o' hpq ho ho';dsimp only at ho ho';by_cases e:p=l[n].p
  ·subst e;rw[setO_same] at ho;obtain rfl:=Option.some.inj ho;rw[setO_other _ _ _ _ (Ne.symm hpq)] at ho';exact(key q o' (Ne.symm hpq) ho').symm
  ·rw[setO_other _ _ _ _ e] at ho;by_cases e':q=l[n].p
   ·subst e';rw[setO_same] at ho';obtain rfl:=Option.some.inj ho';exact key p o e ho
   ·rw[setO_other _ _ _ _ e'] at ho';exact I.apartBB p q o o' hpq ho ho'
 ·intro p hp;by_cases e:p=l[n].p
  ·subst e;rw[hl] at hp;exact absurd hp (by decide)
  ·show setO s.busy l[n].p _ p=none;rw[setO_other _ _ _ _ e];exact I.lostB p hp
theorem apart_end {l:List Ev} {n:Nat} {x o:Opn} (r:Int) (h:Apart x o) (hx:Good l n x) (ho:o.e= -1) (_hc:0≤o.c):Apart x (endO o r n):=by
 obtain⟨h1,h2,h3,h4,h5⟩:=h;have g1:=hx.hi;have g2:=hx.ret;have g3:=hx.lo;refine⟨h1,?_,h3,?_,?_⟩
 ·show x.c≠(n:Int);omega
 ·right;show x.e≠(n:Int);omega
 ·intro k;rcases h5 k with h | h
  ·exact .inl h
  ·exfalso
   simp[beforeB,ho] at h
theorem inv_end {l:List Ev} {n:Nat} {s:Hs} {o:Opn} (I:Inv l n s) (h:n < l.length) (hf:l[n].fault=0) (ho:s.busy l[n].p=some o) (lost:Int→Bool) (add:List Opn)
  (hadd:(add= []∧lost=s.lost)∨(add= [endO o l[n].r n]∧lost=s.lost)∨(add= [o]∧lost=setB s.lost l[n].p true)):
  Inv l (n+1) ⟨setO s.busy l[n].p none,lost,s.done++add⟩:=by
 obtain⟨go,gp,ge,gr⟩:=I.goodB _ _ ho;have hback:∀p o',setO s.busy l[n].p none p=some o'→s.busy p=some o'∧p≠l[n].p:=fun p o' h=>by
  by_cases e:p=l[n].p
  ·subst e;rw[setO_same] at h;cases h
  ·rw[setO_other _ _ _ _ e] at h;exact⟨h,e⟩
 have gend:Good l (n+1) (endO o l[n].r n):=⟨go.lo,by have:=go.hi;show o.c < _;omega,by show (n:Int) < (n+1:Nat);omega,.inr (by have:=go.hi;show o.c < (n:Int);omega),inB_num (fault_parts hf).1,go.made⟩;have gadd:∀x∈add,Good l (n+1) x∧(∀y,Good l n y→Apart y o→Apart y x)∧(x.e= -1→lost x.p=true):=by
  intro x hx;rcases hadd with ⟨rfl,rfl⟩ | ⟨rfl,rfl⟩ | ⟨rfl,rfl⟩
  ·simp at hx
  ·simp at hx;subst hx;refine⟨gend,fun y gy ay=>apart_end _ ay gy ge go.lo,fun k=>?_⟩
   exfalso
   have k':(n:Int)= -1:=k;omega
  ·simp at hx;subst hx;exact⟨go.mono (by omega),fun y _ ay=>ay,fun _=>by simp[setB,gp]⟩
 have hlost:∀p,p≠l[n].p→lost p=s.lost p:=fun p hp=>by
  rcases hadd with ⟨_,rfl⟩ | ⟨_,rfl⟩ | ⟨_,rfl⟩
  ·rfl
  ·rfl
  ·simp[setB,hp]
 have hmore:∀p,s.lost p=true→lost p=true:=fun p hp=>by
  rcases hadd with ⟨_,rfl⟩ | ⟨_,rfl⟩ | ⟨_,rfl⟩
  ·exact hp
  ·exact hp
  ·by_cases e:p=l[n].p<;>simp[setB,e,hp]
 refine⟨?_,?_,?_,?_,?_,?_,?_⟩
 ·intro x hx;rcases List.mem_append.1 hx with hx | hx
  ·exact(I.good x hx).mono (by omega)
  ·exact(gadd x hx).1
 ·intro p o' h;obtain⟨g,r⟩:=I.goodB p o' (hback p o' h).1;exact⟨g.mono (by omega),r⟩
 ·refine List.pairwise_append.2 ⟨I.apart,?_,?_⟩
  ·rcases hadd with ⟨rfl,_⟩ | ⟨rfl,_⟩ | ⟨rfl,_⟩<;>simp
  ·intro x hx y hy;exact(gadd y hy).2.1 x (I.good x hx) (I.apartB x hx _ _ ho)
 ·intro x hx p o' h;obtain⟨h1,h2⟩:=hback p o' h;rcases List.mem_append.1 hx with hx | hx
  ·exact I.apartB x hx p o' h1
  ·exact((gadd x hx).2.1 o' (I.goodB p o' h1).1 (I.apartBB p _ o' o h2 h1 ho)).symm
 ·intro p q a b hpq ha hb;exact I.apartBB p q a b hpq (hback p a ha).1 (hback q b hb).1
 ·intro p hp;by_cases e:p=l[n].p
  ·subst e;exact setO_same _ _ _
  ·show setO s.busy l[n].p none p=none;rw[setO_other _ _ _ _ e];exact I.lostB p (by rw[←hlost p e];exact hp)
 ·intro x hx k;rcases List.mem_append.1 hx with hx | hx
  ·exact hmore _ (I.open1 x hx k)
  ·exact(gadd x hx).2.2 k
theorem inv_see {l:List Ev} {n:Nat} {s:Hs} (I:Inv l n s) (h:n < l.length) (hz:seeN l[n] s=0):Inv l (n+1) (seeS n l[n] s):=by
 unfold seeN at hz;by_cases hf:l[n].fault=0
 ·rw[if_neg (by simpa using hf)] at hz;unfold seeS;by_cases ht:l[n].t=1
  ·rw[if_pos ht] at hz;rw[if_pos ht];cases hb:s.busy l[n].p with
   | some o=>rw[hb] at hz;simp at hz
   | none=>
    cases hl:s.lost l[n].p
    ·exact inv_begin I h ht hf hb hl
    ·rw[hb,hl] at hz;simp at hz
  ·rw[if_neg ht] at hz;rw[if_neg ht];cases hb:s.busy l[n].p with
   | none=>rw[hb] at hz;simp at hz
   | some o=>
    show Inv l (n+1) (if l[n].t=2 then _ else if l[n].t=4 then _ else _);by_cases h2:l[n].t=2
    ·rw[if_pos h2];exact inv_end I h hf hb _ _ (.inr (.inl ⟨rfl,rfl⟩))
    ·rw[if_neg h2];by_cases h4:l[n].t=4
     ·rw[if_pos h4];exact inv_end I h hf hb _ _ (.inr (.inr ⟨rfl,rfl⟩))
     ·rw[if_neg h4];have:=inv_end I h hf hb s.lost [] (.inl ⟨rfl,rfl⟩)
      rwa [List.append_nil] at this
 ·rw[if_pos (by simpa using hf)] at hz;exact absurd hz hf
theorem hist_succ (l:List Ev) (n:Nat) (h:n < l.length):hist l (n+1)=seeS n l[n] (hist l n):=by
 show (match l[n]? with | some e=>seeS n e (hist l n) | none=>hist l n)=_;rw[List.getElem?_eq_getElem h]
theorem inv_hist (l:List Ev) (n:Nat) (hn:n≤l.length) (hf:FineH l n):Inv l n (hist l n):=by
 induction n with
 | zero=>exact inv_new l
 | succ n ih=>
  rw[hist_succ l n (by omega)];exact inv_see (ih (by omega) (fun i h hi=>hf i h (by omega))) (by omega) (hf n (by omega) (by omega))
def OpsOf (s:Hs) (L:List Opn):Prop:=
 ∃qs:List Int,qs.Nodup∧(∀q,q∈qs↔(s.busy q).isSome=true)∧L.Perm (s.done++qs.filterMap s.busy)∧L.Pairwise (fun x y=>x.c≤y.c)
theorem mem_pending {s:Hs} {qs:List Int} {x:Opn} (h:x∈qs.filterMap s.busy):∃p,s.busy p=some x:=by
 obtain⟨p,_,hp⟩:=List.mem_filterMap.1 h;exact⟨p,hp⟩
theorem opsOf_apart {l:List Ev} {n:Nat} {s:Hs} {L:List Opn} (I:Inv l n s) (h:OpsOf s L):L.Pairwise Apart:=by
 obtain⟨qs,hn,_,hp,_⟩:=h;refine(hp.pairwise_iff (fun {_ _} h=>h.symm)).2 (List.pairwise_append.2 ⟨I.apart,?_,?_⟩)
 ·refine List.pairwise_filterMap.2 (List.Pairwise.imp ?_ hn);intro p q hpq x hx y hy;exact I.apartBB p q x y hpq hx hy
 ·intro x hx y hy;obtain⟨p,hp⟩:=mem_pending hy;exact I.apartB x hx p y hp
theorem opsOf_rising {l:List Ev} {n:Nat} {s:Hs} {L:List Opn} (I:Inv l n s) (h:OpsOf s L):L.Pairwise (fun x y=>x.c < y.c∧Apart x y):=by
 have h1:=opsOf_apart I h;obtain⟨qs,_,_,_,hs⟩:=h;refine(List.pairwise_and_iff.2 ⟨hs,h1⟩).imp ?_;intro x y ⟨a,b⟩;exact⟨by have:=b.1;omega,b⟩
def linkedB (what n who a b:Int):Bool:=
 if a=b then true
 else if what=0 then true
 else if what=1 then decide (a < n / 2)==decide (b < n / 2)
 else if what=2 then (decide (a < n / 2)==decide (b < n / 2))||decide (a=n / 2)||decide (b=n / 2)
 else if what=3 then decide (min (if a - b < 0 then -(a - b) else a - b) (n - (if a - b < 0 then -(a - b) else a - b))≤(n / 2+1) / 2)
 else decide (a≠who)&&decide (b≠who)
def asNode (n:Nat) (i:Int):Int:=if (n:Int)≤i then (i - n)%n else i
def cutL (n k:Nat) (what who:Int):Int→Int→Bool:=fun a b=>decide (0≤a∧a < n+k)&&decide (0≤b∧b < n+k)&&linkedB what n who (asNode n a) (asNode n b)
def busyN (S:Sto):Nat:=(List.range S.k).countP fun (j:Nat)=>(S.cl j).busy
def freeE (S:Sto) (c:Int):Int:=
 if c < 0∨(S.k:Int)≤c then 2
 else if (S.cl c).busy=true∨(S.cl c).gone=true then 6
 else if 120 < S.seen.length+2+busyN S then 4 else 0
def beginE (S:Sto) (c key:Int) (write:Bool) (value:Int):Int:=
 if key < 0∨7 < key∨numB value=false∨(value≠0∧write=false) then 2 else freeE S c
def giveE (S:Sto) (c:Int):Int:=if c < 0∨(S.k:Int)≤c then 2 else if (S.cl c).busy=false then 6 else 0
def takeE (S:Sto) (i:Int):Int:=if i < 0∨(S.mails.length:Int)≤i then 8 else match S.mails[i.toNat]? with
 | none=>8
 | some m=>if S.links m.fr m.tz=true then 0 else 6
def delivS (S:Sto) (i:Int):Sto:=match S.mails[i.toNat]? with
 | none=>S
 | some m=>takeS {S with mails:=S.mails.eraseIdx i.toNat} m
def dropE (S:Sto) (i:Int):Int:=if i < 0∨(S.mails.length:Int)≤i then 8 else 0
def doubE (S:Sto) (i:Int):Int:=if i < 0∨(S.mails.length:Int)≤i then 8 else if 500≤S.mails.length then 4 else 0
def doubS (S:Sto) (i:Int):Sto:=match S.mails[i.toNat]? with
 | none=>S
 | some m=> {S with mails:=sendL S.mails m}
def cutE (S:Sto) (what n who:Int):Int:=if n < 1∨7 < n then 4 else if what=4∧(who < 0∨n≤who) then 2 else if n≠S.n then 3 else 0
def ruleOf (m:Mvs):Int:=if 7≤m.what∧m.what≤10 then m.what - 7 else 4
def playE (S:Sto) (m:Mvs):Int:=
 if m.what=0 then beginE S m.a m.b false m.c
 else if m.what=1 then beginE S m.a m.b true m.c
 else if m.what=2 then takeE S m.a
 else if m.what=3 then dropE S m.a
 else if m.what=4 then doubE S m.a
 else if m.what=5 then giveE S m.a
 else if m.what=6 then 0
 else cutE S (ruleOf m) m.a m.b
def playS (S:Sto) (m:Mvs):Sto:=
 if playE S m≠0 then S
 else if m.what=0 then beginS S m.a m.b false m.c
 else if m.what=1 then beginS S m.a m.b true m.c
 else if m.what=2 then delivS S m.a
 else if m.what=3 then {S with mails:=S.mails.eraseIdx m.a.toNat}
 else if m.what=4 then doubS S m.a
 else if m.what=5 then giveS S m.a
 else if m.what=6 then {S with links:=fun _ _=>true}
 else {S with links:=cutL S.n S.k (ruleOf m) m.b}
def runS (S:Sto) (l:List Mvs):Sto:=l.foldl playS S
open Go.RowKit
theorem belJ {w W w1:World} (h:Below w.heap.size w W) (hb:Below W.heap.size W w1):Below w.heap.size w w1:=h.trans (hb.mono h.size)
theorem belA {w W:World} (h:Below w.heap.size w W) (o:Obj):Below w.heap.size w (W.alloc o):=h.alloc h.size o
def Opn.agg (x:Opn):Value:=.agg #[.int .i64 x.p,.int .i64 x.k,.int .i64 x.d,.int .i64 x.a,.int .i64 x.b,.int .i64 x.r,.int .i64 x.c,.int .i64 x.e]
def Opn.obj (x:Opn):Obj:=.cells #[.int .i64 x.p,.int .i64 x.k,.int .i64 x.d,.int .i64 x.a,.int .i64 x.b,.int .i64 x.r,.int .i64 x.c,.int .i64 x.e] 157
set_option maxHeartbeats 400000 in
theorem before_any (x y:Opn) (w:World):Calls Tryz.prog 86 #[x.agg,y.agg] w fun e w'=>e=.returned (.bool (beforeB x y))∧Below w.heap.size w w':=by
 unfold Opn.agg;by_cases h1:0≤x.e
 ·by_cases h2:x.e < y.c
  ·have e:beforeB x y=true:=by simp[beforeB,h1,h2]
   rw[e];clear e;go_enter Tryz.func86,Tryz.ntmps86
   go_wp2;go_ret;exact⟨rfl,belA (belA (Below.refl _ _) _) _⟩
  ·have e:beforeB x y=false:=by simp[beforeB,h2]
   rw[e];clear e;go_enter Tryz.func86,Tryz.ntmps86
   go_wp2;go_ret;exact⟨rfl,belA (belA (Below.refl _ _) _) _⟩
 ·have e:beforeB x y=false:=by simp[beforeB,h1]
  rw[e];clear e;go_enter Tryz.func86,Tryz.ntmps86
  go_wp2;go_ret;exact⟨rfl,belA (belA (Below.refl _ _) _) _⟩
set_option maxHeartbeats 400000 in
theorem hasTime_any (x:Opn) (t:Int) (w:World):Calls Tryz.prog 245 #[x.agg,.int .i64 t] w fun e w'=>e=.returned (.bool (hasB x t))∧w'=w.alloc x.obj:=by
 unfold Opn.agg Opn.obj;cases h1:x.c==t
 ·cases h2:x.e==t
  ·have e:hasB x t=false:=by simp[hasB,h1,h2]
   rw[e];clear e;go_enter Tryz.func245,Tryz.ntmps245
   go_wp2;go_ret;exact⟨rfl,rfl⟩
  ·have e:hasB x t=true:=by simp[hasB,h1,h2]
   rw[e];clear e;go_enter Tryz.func245,Tryz.ntmps245
   go_wp2;go_ret;exact⟨rfl,rfl⟩
 ·have e:hasB x t=true:=by simp[hasB,h1]
  rw[e];clear e;go_enter Tryz.func245,Tryz.ntmps245
  go_wp2;go_ret;exact⟨rfl,rfl⟩
set_option maxHeartbeats 400000 in
theorem share_any (x y:Opn) (w:World):Calls Tryz.prog 202 #[x.agg,y.agg] w fun e w'=>e=.returned (.bool (shareB x y))∧Below w.heap.size w w':=by
 cases h1:hasB x y.c
 ·cases h2:y.e != -1
  ·have e:shareB x y=false:=by simp[shareB,h1,h2]
   rw[e];clear e;have H1:Hid (hasB x y.c=false):=h1;clear h1;unfold Opn.agg;go_enter Tryz.func202,Tryz.ntmps202
   go_wp2_with fail
   refine(hasTime_any x y.c _).mono ?_;rw[H1.out];rintro e w1 ⟨rfl,rfl⟩;unfold Opn.obj;go_wp2;go_ret;exact⟨rfl,belA (belA (belA (Below.refl _ _) _) _) _⟩
  ·have e:shareB x y=hasB x y.e:=by simp[shareB,h1,h2]
   rw[e];clear e;have H1:Hid (hasB x y.c=false):=h1;clear h1;unfold Opn.agg;go_enter Tryz.func202,Tryz.ntmps202
   go_wp2_with fail
   refine(hasTime_any x y.c _).mono ?_;rw[H1.out];rintro e w1 ⟨rfl,rfl⟩;unfold Opn.obj;go_wp2_with fail
   refine(hasTime_any x y.e _).mono ?_;rintro e w1 ⟨rfl,rfl⟩;unfold Opn.obj;go_wp2;go_ret;exact⟨rfl,belA (belA (belA (belA (Below.refl _ _) _) _) _) _⟩
 ·have e:shareB x y=true:=by simp[shareB,h1]
  rw[e];clear e;have H1:Hid (hasB x y.c=true):=h1;clear h1;unfold Opn.agg;go_enter Tryz.func202,Tryz.ntmps202
  go_wp2_with fail
  refine(hasTime_any x y.c _).mono ?_;rw[H1.out];rintro e w1 ⟨rfl,rfl⟩;unfold Opn.obj;go_wp2;go_ret;exact⟨rfl,belA (belA (belA (Below.refl _ _) _) _) _⟩
open Go.RowKit
def OpAt (w:World) (b off:Nat) (x:Opn):Prop:=
 w.cell? ⟨b,off,none⟩=some (.int .i64 x.p)∧w.cell? ⟨b,off+1,none⟩=some (.int .i64 x.k)∧w.cell? ⟨b,off+2,none⟩=some (.int .i64 x.d)∧w.cell? ⟨b,off+3,none⟩=some (.int .i64 x.a)∧w.cell? ⟨b,off+4,none⟩=some (.int .i64 x.b)∧w.cell? ⟨b,off+5,none⟩=some (.int .i64 x.r)∧w.cell? ⟨b,off+6,none⟩=some (.int .i64 x.c)∧w.cell? ⟨b,off+7,none⟩=some (.int .i64 x.e)
def OpsAt (w:World) (b off:Nat) (l:List Opn):Prop:=∀i,(h:i < l.length)→OpAt w b (off+i*8) l[i]
theorem OpAt.below {w w':World} {B b off:Nat} {x:Opn} (h:OpAt w b off x) (hb:b < B) (hn:Below B w w'):OpAt w' b off x:=by
 obtain⟨h0,h1,h2,h3,h4,h5,h6,h7⟩:=h;exact⟨(hn.cell (p:=⟨b,off,none⟩) hb).trans h0,(hn.cell (p:=⟨b,off+1,none⟩) hb).trans h1,(hn.cell (p:=⟨b,off+2,none⟩) hb).trans h2,(hn.cell (p:=⟨b,off+3,none⟩) hb).trans h3,(hn.cell (p:=⟨b,off+4,none⟩) hb).trans h4,(hn.cell (p:=⟨b,off+5,none⟩) hb).trans h5,(hn.cell (p:=⟨b,off+6,none⟩) hb).trans h6,(hn.cell (p:=⟨b,off+7,none⟩) hb).trans h7⟩
theorem OpsAt.below {w w':World} {B b off:Nat} {l:List Opn} (h:OpsAt w b off l) (hb:b < B) (hn:Below B w w'):OpsAt w' b off l:=fun i hi=>(h i hi).below hb hn
theorem OpAt.lt {w:World} {b off:Nat} {x:Opn} (h:OpAt w b off x):b < w.heap.size:=World.block_lt_of_cell? w ⟨b,off,none⟩ h.1
theorem OpsAt.take {w:World} {b off:Nat} {l:List Opn} (h:OpsAt w b off l) (n:Nat):OpsAt w b off (l.take n):=fun i hi=>by
 have hl:i < l.length:=by simp at hi;omega
 have e:(l.take n)[i]=l[i]:=List.getElem_take;rw[e];exact h i hl
set_option maxHeartbeats 400000 in
theorem clo47 (x y:Opn) (blk:Nat) (w:World) (hy:OpAt w blk 0 y):
  Calls Tryz.prog 201 #[x.agg,.pointer (some ⟨blk,0,none⟩)] w fun e w'=>e=.returned (.bool (shareB x y))∧Below w.heap.size w w':=by
 have hlt:=hy.lt;obtain⟨y0,y1,y2,y3,y4,y5,y6,y7⟩:=hy;unfold Opn.agg;go_enter Tryz.func201,Tryz.ntmps201
 go_wp2_with fail
 refine(share_any x y _).mono ?_;rintro e w1 ⟨rfl,hb⟩;go_wp2;go_ret;exact⟨rfl,belJ (belA (Below.refl _ _) _) hb⟩
set_option maxHeartbeats 400000 in
theorem clo49 (x y:Opn) (blk:Nat) (w:World) (hy:OpAt w blk 0 y):
  Calls Tryz.prog 203 #[x.agg,.pointer (some ⟨blk,0,none⟩)] w fun e w'=>e=.returned (.bool (clashB x y))∧Below w.heap.size w w':=by
 have hlt:=hy.lt;obtain⟨y0,y1,y2,y3,y4,y5,y6,y7⟩:=hy;cases h1:x.p==y.p
 ·have e:clashB x y=false:=by simp[clashB,h1]
  rw[e];clear e;unfold Opn.agg;go_enter Tryz.func203,Tryz.ntmps203
  go_wp2;go_ret;exact⟨rfl,belA (Below.refl _ _) _⟩
 ·have e:clashB x y= !beforeB x y:=by simp[clashB,h1]
  rw[e];clear e;unfold Opn.agg;go_enter Tryz.func203,Tryz.ntmps203
  go_wp2_with fail
  refine(before_any x y _).mono ?_;rintro e w1 ⟨rfl,hb⟩;go_wp2;go_ret;exact⟨rfl,belJ (belA (Below.refl _ _) _) hb⟩
theorem any_take_succ (l:List Opn) (f:Opn→Bool) (k:Nat) (h:k < l.length) (h0:(l.take k).any f=false) (h1:f l[k]=false):(l.take (k+1)).any f=false:=by
 rw[List.take_succ_eq_append_getElem h,List.any_append,h0];simp[h1]
theorem any_of (l:List Opn) (f:Opn→Bool) (k:Nat) (h:k < l.length) (h1:f l[k]=true):l.any f=true:=
 List.any_eq_true.2 ⟨l[k],List.getElem_mem h,h1⟩
set_option maxHeartbeats 1000000 in
theorem index47 (l:List Opn) (y:Opn) (b off cap blk:Nat) (w:World) (hlen:l.length≤60) (hl:OpsAt w b off l) (hb:b < w.heap.size) (hy:OpAt w blk 0 y):
  Calls Tryz.prog 139 #[.slice (some ⟨b,off,none⟩) l.length cap,.func (.func 201) #[] #[.pointer (some ⟨blk,0,none⟩)]] w fun e w'=>∃i:Int,e=.returned (.int .i64 i)∧decide (0≤i)=l.any (fun x=>shareB x y)∧Below w.heap.size w w':=by
 have hlt:=hy.lt;have HL:Hid (OpsAt w b off l):=hl;have HY:Hid (OpAt w blk 0 y):=hy;clear hl hy;go_enter Tryz.func139,Tryz.ntmps139
 go_wp2
 go_loopw [8] (fun i wr=>∃k:Nat,k≤l.length∧i=.int .i64 k∧(l.take k).any (fun x=>shareB x y)=false∧Below w.heap.size w wr) (fun i _=>l.length - (intOf i).toNat)
 case atStart=>exact⟨0,Nat.zero_le _,rfl,rfl,Below.refl _ _⟩
 case round=>
  obtain⟨k,hk,rfl,ha,hnx⟩:=hrel;have HA:Hid ((l.take k).any (fun x=>shareB x y)=false):=ha;clear ha;by_cases hkl:k < l.length
  ·obtain⟨c0,c1,c2,c3,c4,c5,c6,c7⟩:=(HL.out k hkl).below hb hnx;go_wp2_with fail
   refine(clo47 l[k] y blk wr (HY.out.below hlt hnx)).mono ?_;cases hs:shareB l[k] y
   ·rintro e w1 ⟨rfl,hb1⟩;have R1:Hid ((l.take (k+1)).any (fun x=>shareB x y)=false):=any_take_succ l _ k hkl HA.out hs;have R2:Hid (Below w.heap.size w w1):=belJ hnx hb1;clear hs;go_wp2
    go_roundw
    case rel=>exact⟨k+1,by omega,by go_num,R1.out,R2.out⟩
    case measure=>simp[intOf];omega
   ·rintro e w1 ⟨rfl,hb1⟩;have R1:Hid (l.any (fun x=>shareB x y)=true):=any_of l _ k hkl hs;have R2:Hid (Below w.heap.size w w1):=belJ hnx hb1;clear hs;go_wp2;go_ret;exact⟨_,rfl,by rw[R1.out];simp,R2.out⟩
  ·have R1:Hid (l.any (fun x=>shareB x y)=false):=by
    have h:=HA.out;rw[List.take_of_length_le (by omega)] at h;exact h
   go_wp2;go_ret;exact⟨_,rfl,by rw[R1.out];rfl,hnx⟩
set_option maxHeartbeats 400000 in
theorem contains47 (l:List Opn) (y:Opn) (b off cap blk:Nat) (w:World) (hlen:l.length≤60) (hl:OpsAt w b off l) (hb:b < w.heap.size) (hy:OpAt w blk 0 y):
  Calls Tryz.prog 79 #[.slice (some ⟨b,off,none⟩) l.length cap,.func (.func 201) #[] #[.pointer (some ⟨blk,0,none⟩)]] w fun e w'=>e=.returned (.bool (l.any (fun x=>shareB x y)))∧Below w.heap.size w w':=by
 go_enter Tryz.func79,Tryz.ntmps79
 go_wp2_with fail
 refine(index47 l y b off cap blk w hlen hl hb hy).mono ?_;rintro e w1 ⟨i,rfl,hi,hb1⟩;have HI:Hid (decide (0≤i)=l.any (fun x=>shareB x y)):=hi;clear hi;go_wp2;all_goals
  go_ret;refine⟨?_,hb1⟩;rw[←HI.out]
  simp_all
set_option maxHeartbeats 1000000 in
theorem index49 (l:List Opn) (y:Opn) (b off cap blk:Nat) (w:World) (hlen:l.length≤60) (hl:OpsAt w b off l) (hb:b < w.heap.size) (hy:OpAt w blk 0 y):
  Calls Tryz.prog 139 #[.slice (some ⟨b,off,none⟩) l.length cap,.func (.func 203) #[] #[.pointer (some ⟨blk,0,none⟩)]] w fun e w'=>∃i:Int,e=.returned (.int .i64 i)∧decide (0≤i)=l.any (fun x=>clashB x y)∧Below w.heap.size w w':=by
 have hlt:=hy.lt;have HL:Hid (OpsAt w b off l):=hl;have HY:Hid (OpAt w blk 0 y):=hy;clear hl hy;go_enter Tryz.func139,Tryz.ntmps139
 go_wp2
 go_loopw [8] (fun i wr=>∃k:Nat,k≤l.length∧i=.int .i64 k∧(l.take k).any (fun x=>clashB x y)=false∧Below w.heap.size w wr) (fun i _=>l.length - (intOf i).toNat)
 case atStart=>exact⟨0,Nat.zero_le _,rfl,rfl,Below.refl _ _⟩
 case round=>
  obtain⟨k,hk,rfl,ha,hnx⟩:=hrel;have HA:Hid ((l.take k).any (fun x=>clashB x y)=false):=ha;clear ha;by_cases hkl:k < l.length
  ·obtain⟨c0,c1,c2,c3,c4,c5,c6,c7⟩:=(HL.out k hkl).below hb hnx;go_wp2_with fail
   refine(clo49 l[k] y blk wr (HY.out.below hlt hnx)).mono ?_;cases hs:clashB l[k] y
   ·rintro e w1 ⟨rfl,hb1⟩;have R1:Hid ((l.take (k+1)).any (fun x=>clashB x y)=false):=any_take_succ l _ k hkl HA.out hs;have R2:Hid (Below w.heap.size w w1):=belJ hnx hb1;clear hs;go_wp2
    go_roundw
    case rel=>exact⟨k+1,by omega,by go_num,R1.out,R2.out⟩
    case measure=>simp[intOf];omega
   ·rintro e w1 ⟨rfl,hb1⟩;have R1:Hid (l.any (fun x=>clashB x y)=true):=any_of l _ k hkl hs;have R2:Hid (Below w.heap.size w w1):=belJ hnx hb1;clear hs;go_wp2;go_ret;exact⟨_,rfl,by rw[R1.out];simp,R2.out⟩
  ·have R1:Hid (l.any (fun x=>clashB x y)=false):=by
    have h:=HA.out;rw[List.take_of_length_le (by omega)] at h;exact h
   go_wp2;go_ret;exact⟨_,rfl,by rw[R1.out];rfl,hnx⟩
set_option maxHeartbeats 400000 in
theorem contains49 (l:List Opn) (y:Opn) (b off cap blk:Nat) (w:World) (hlen:l.length≤60) (hl:OpsAt w b off l) (hb:b < w.heap.size) (hy:OpAt w blk 0 y):
  Calls Tryz.prog 79 #[.slice (some ⟨b,off,none⟩) l.length cap,.func (.func 203) #[] #[.pointer (some ⟨blk,0,none⟩)]] w fun e w'=>e=.returned (.bool (l.any (fun x=>clashB x y)))∧Below w.heap.size w w':=by
 go_enter Tryz.func79,Tryz.ntmps79
 go_wp2_with fail
 refine(index49 l y b off cap blk w hlen hl hb hy).mono ?_;rintro e w1 ⟨i,rfl,hi,hb1⟩;have HI:Hid (decide (0≤i)=l.any (fun x=>clashB x y)):=hi;clear hi;go_wp2;all_goals
  go_ret;refine⟨?_,hb1⟩;rw[←HI.out]
  simp_all
open Go.RowKit
structure NumAt (w : World) (g off : Nat) (x : Int) : Prop where
 cell:w.cell? ⟨g,off,none⟩=some (.int .i64 x)
 fz:w.frozen? ⟨g,off,none⟩=false
 lt:g < w.heap.size
theorem NumAt.alloc {w:World} {g off:Nat} {x:Int} (h:NumAt w g off x) (o:Obj):NumAt (w.alloc o) g off x:=
 ⟨(World.grownBy_alloc w o none).cell h.cell (by simp),by
  have e:=(World.grownBy_alloc w o none).block g h.lt (by simp);exact(World.frozen?_of_block (a:=⟨g,off,none⟩) e).trans h.fz,Nat.lt_of_lt_of_le h.lt (World.grownBy_alloc w o none).size⟩
theorem RowAt.num {w:World} {base g off cap:Nat} {x:Int} (h:RowAt w base (.slice (some ⟨g,off,none⟩) 1 cap) [x]):NumAt w g off x:=by
 rcases h with ⟨h,_⟩ | ⟨g',off',cap',cur,e,hb,hg,h1,h2,h3,h4⟩
 ·cases h
 ·obtain⟨⟨rfl,rfl⟩,_,rfl⟩:(g=g'∧off=off')∧1= [x].length∧cap=cap':=by simpa using e
  exact⟨h4 0 (by simp),unfrozen_of_heap hg _,lt_of_heap hg⟩
theorem RowAt.write {w:World} {base g off cap:Nat} {x:Int} (h:RowAt w base (.slice (some ⟨g,off,none⟩) 1 cap) [x]) (y:Int):RowAt (w.setCell ⟨g,off,none⟩ (.int .i64 y)) base (.slice (some ⟨g,off,none⟩) 1 cap) [y]:=by
 have hn:=h.num;rcases h with ⟨h,_⟩ | ⟨g',off',cap',cur,e,hb,hg,h1,h2,h3,h4⟩
 ·cases h
 ·obtain⟨⟨rfl,rfl⟩,_,rfl⟩:(g=g'∧off=off')∧1= [x].length∧cap=cap':=by simpa using e
  refine rowAt_put hb (heap_setCell hg _ _) (by simpa using h1) h2 h3 (fun j hj=>?_) rfl;obtain rfl:j=0:=by simp at hj;omega
  simpa using World.cell?_setCell_same _ _ _ hn.cell
set_option maxHeartbeats 1000000 in
theorem callRegister_any (x:Int) (op:Opn) (g off:Nat) (w:World) (h:NumAt w g off x):
  Calls Tryz.prog 205 #[.pointer (some ⟨g,off,none⟩),op.agg] w fun e w'=>e=.returned (.int .i64 (regM x op.d op.a op.b).2)∧
   ∃w1,w.grownBy w1 none∧((regM x op.d op.a op.b).1=x∧w'=w1∨w'=w1.setCell ⟨g,off,none⟩ (.int .i64 (regM x op.d op.a op.b).1)):=by
 obtain⟨c1,f1,_⟩:=h.alloc op.obj;have hgr:=World.grownBy_alloc w op.obj none;unfold Opn.obj at c1 f1 hgr;unfold Opn.agg;cases h2:(op.d==2)
 ·have n2:op.d≠2:=by simpa using h2
  cases h3:(op.d==3)
  ·have n3:op.d≠3:=by simpa using h3
   have e:regM x op.d op.a op.b=(x,x):=by simp[regM,n2,n3]
   rw[e];clear e h n2 n3;go_enter Tryz.func205,Tryz.ntmps205
   go_wp2;go_ret;exact⟨rfl,_,hgr,.inl ⟨trivial,rfl⟩⟩
  ·have n3:op.d=3:=by simpa using h3
   cases h4:(x != op.a)
   ·have n4:x=op.a:=by simpa using h4
    have e:regM x op.d op.a op.b=(op.b,1):=by simp[regM,n3,n4]
    rw[e];clear e h n2 n3 n4;go_enter Tryz.func205,Tryz.ntmps205
    go_wp2_with fail
    go_region
    go_wp2;go_ret;exact⟨rfl,_,hgr.trans (grown_drew _ _),.inr rfl⟩
   ·have n4:x≠op.a:=by simpa using h4
    have e:regM x op.d op.a op.b=(x,0):=by simp[regM,n3,n4]
    rw[e];clear e h n2 n3 n4;go_enter Tryz.func205,Tryz.ntmps205
    go_wp2_with fail
    go_region
    go_wp2;go_ret;exact⟨rfl,_,hgr.trans (grown_drew _ _),.inl ⟨trivial,rfl⟩⟩
 ·have n2:op.d=2:=by simpa using h2
  have e:regM x op.d op.a op.b=(op.a,0):=by simp[regM,n2]
  rw[e];clear e h n2;go_enter Tryz.func205,Tryz.ntmps205
  go_wp2;go_ret;exact⟨rfl,_,hgr,.inr rfl⟩
set_option maxHeartbeats 1000000 in
theorem callCounter_any (x:Int) (op:Opn) (g off:Nat) (w:World) (h:NumAt w g off x):
  Calls Tryz.prog 206 #[.pointer (some ⟨g,off,none⟩),op.agg] w fun e w'=>e=.returned (.int .i64 (cntM x op.d op.a).2)∧
   ∃w1,w.grownBy w1 none∧((cntM x op.d op.a).1=x∧w'=w1∨w'=w1.setCell ⟨g,off,none⟩ (.int .i64 (cntM x op.d op.a).1)):=by
 obtain⟨c1,f1,_⟩:=h.alloc op.obj;have hgr:=World.grownBy_alloc w op.obj none;unfold Opn.obj at c1 f1 hgr;unfold Opn.agg;cases h2:(op.d==4)
 ·have n2:op.d≠4:=by simpa using h2
  have e:cntM x op.d op.a=(x,x):=by simp[cntM,n2]
  rw[e];clear e h n2;go_enter Tryz.func206,Tryz.ntmps206
  go_wp2;go_ret;exact⟨rfl,_,hgr,.inl ⟨trivial,rfl⟩⟩
 ·have n2:op.d=4:=by simpa using h2
  have e:cntM x op.d op.a=(wrap64 (x+op.a),wrap64 (x+op.a)):=by simp[cntM,n2]
  rw[e];clear e h n2;go_enter Tryz.func206,Tryz.ntmps206
  go_wp2_with fail
  go_region
  have c2:=World.cell?_setCell_same _ ⟨g,off,none⟩ (.int .i64 (wrap64 (x+op.a))) (show (w.alloc (.cells #[.int .i64 op.p,.int .i64 op.k,.int .i64 op.d,.int .i64 op.a,.int .i64 op.b,.int .i64 op.r,.int .i64 op.c,.int .i64 op.e] 157)).drew.cell? _=_ from c1);go_wp2;go_ret;exact⟨rfl,_,hgr.trans (grown_drew _ _),.inr rfl⟩
set_option maxHeartbeats 1000000 in
theorem callMutex_any (x:Int) (op:Opn) (g off:Nat) (w:World) (h:NumAt w g off x):
  Calls Tryz.prog 210 #[.pointer (some ⟨g,off,none⟩),op.agg] w fun e w'=>e=.returned (.bool (mutM x op.d).isSome)∧
   ∃w1,w.grownBy w1 none∧(mutM x op.d=none∧w'=w1∨∃y,mutM x op.d=some y∧w'=w1.setCell ⟨g,off,none⟩ (.int .i64 y)):=by
 obtain⟨c1,f1,_⟩:=h.alloc op.obj;have hgr:=World.grownBy_alloc w op.obj none;unfold Opn.obj at c1 f1 hgr;unfold Opn.agg;cases h2:(op.d==12)
 ·have n2:op.d≠12:=by simpa using h2
  cases h3:(x != 0)
  ·have n3:x=0:=by simpa using h3
   have e:mutM x op.d=some 1:=by simp[mutM,n2,n3]
   rw[e];clear e h n2 n3;go_enter Tryz.func210,Tryz.ntmps210
   go_wp2;go_ret;exact⟨rfl,_,hgr,.inr ⟨1,rfl,rfl⟩⟩
  ·have n3:x≠0:=by simpa using h3
   have e:mutM x op.d=none:=by simp[mutM,n2,n3]
   rw[e];clear e h n2 n3;go_enter Tryz.func210,Tryz.ntmps210
   go_wp2;go_ret;exact⟨rfl,_,hgr,.inl ⟨trivial,rfl⟩⟩
 ·have n2:op.d=12:=by simpa using h2
  cases h3:(x != 1)
  ·have n3:x=1:=by simpa using h3
   have e:mutM x op.d=some 0:=by simp[mutM,n2,n3]
   rw[e];clear e h n2 n3;go_enter Tryz.func210,Tryz.ntmps210
   go_wp2;go_ret;exact⟨rfl,_,hgr,.inr ⟨0,rfl,rfl⟩⟩
  ·have n3:x≠1:=by simpa using h3
   have e:mutM x op.d=none:=by simp[mutM,n2,n3]
   rw[e];clear e h n2 n3;go_enter Tryz.func210,Tryz.ntmps210
   go_wp2;go_ret;exact⟨rfl,_,hgr,.inl ⟨trivial,rfl⟩⟩
end Go.Proofs.YtjpklmighoondaaGreatDoor
