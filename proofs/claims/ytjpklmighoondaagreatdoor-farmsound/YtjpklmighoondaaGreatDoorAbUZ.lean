/-
  Chapter 17 in plain Lean: what is seen of registers by quorums that meet, whose readers tell, can have taken place one by one.
  Plain facts on what may be of an event: numbers alone; nothing of the program is named here.
  Plain facts on what may be of ops: numbers and lists alone; nothing of the program is named here.
  What the small functions on an event do: contracts over the translated program.
  What the functions that judge one event do: contracts over the translated program.
  Events as plain data, and rows of them in memory.
  The history of events as plain data: what is seen, event by event; and that what it makes may be. Nothing of the program is named here.
  What a history makes, sorted by calls, may be: plain facts.
-/
import Derived.Test.YtjpklmighoondaaGreatDoorAbSZ
import Derived.Test.YtjpklmighoondaaGreatDoorProg
import Derived.WalkKit
import Derived.WalkSpells
import Derived.WalkLawsBesides
namespace Go.Proofs.YtjpklmighoondaaGreatDoor
structure OpsR (S : Sto) (G : Gho) (n : Nat) (c e k v : Nat → Int) (wr : Nat → Bool) : Prop where
 back:S.back=true
 done:∀i,i < n→0≤e i→∃r∈G.R,(r.bg:Int)=c i∧(r.ok:Int)=e i∧r.key=k i∧r.write=wr i∧r.v=v i
 told:∀t∈G.T,∃i,i < n∧c i=(t.bg:Int)∧wr i=true∧k i=t.key∧v i=t.v
 inj:∀i j,i < n→j < n→c i=c j→i=j
def PtOf (G:Gho) (c e k v:Nat→Int) (wr:Nat→Bool) (i:Nat) (s:Smp) (L:Nat):Prop:=
 G.p (k i) s=some L∧((0≤e i∧∃r∈G.R,(r.bg:Int)=c i∧(r.ok:Int)=e i∧r.key=k i∧r.write=wr i∧r.v=v i∧r.s=s)∨(e i < 0∧wr i=true∧∃t∈G.T,(t.bg:Int)=c i∧t.key=k i∧t.v=v i∧t.s=s))
section
variable {S : Sto} {G : Gho} {n : Nat} {c e k v : Nat → Int} {wr : Nat → Bool}
theorem PtOf.tw (h:SInv S G) {i:Nat} {s:Smp} {L:Nat} (hp:PtOf G c e k v wr i s L) (hw:wr i=true):∃t∈G.T,(t.bg:Int)=c i∧t.key=k i∧t.v=v i∧t.s=s:=by
 rcases hp.2 with ⟨_,r,hr,r1,r2,r3,r4,r5,r6⟩ | ⟨_,_,ht⟩
 ·exact⟨_,(h.R r hr).tw (r4.trans hw),r1,r3,r5,r6⟩
 ·exact ht
theorem PtOf.of_tw (h:SInv S G) (ho:OpsR S G n c e k v wr) {i:Nat} (hi:i < n) {t:Tw} (ht:t∈G.T) (h1:(t.bg:Int)=c i) (h2:t.key=k i) (h3:t.v=v i) (hw:wr i=true) {L:Nat} (hL:G.p (k i) t.s=some L):PtOf G c e k v wr i t.s L:=by
 refine⟨hL,?_⟩;by_cases he:0≤e i
 ·obtain⟨r,hr,r1,r2,r3,r4,r5⟩:=ho.done i hi he;have:=h.bgone t ht _ ((h.R r hr).tw (r4.trans hw)) (by show t.bg=r.bg;omega);exact .inl ⟨he,r,hr,r1,r2,r3,r4,r5,by rw[this]⟩
 ·exact .inr ⟨by omega,hw,t,ht,h1,h2,h3,rfl⟩
open Classical in
theorem abd_order (h:SInv S G) (ho:OpsR S G n c e k v wr):∃ord,OrdK n c e k v wr ord:=by
 let inc:Nat→Bool:=fun i=>decide (∃s L,PtOf G c e k v wr i s L)
 let s:Nat→Smp:=fun i=>if hx:∃s L,PtOf G c e k v wr i s L then hx.choose else⟨0,0⟩
 have hs:∀i,inc i=true→∃L,PtOf G c e k v wr i (s i) L:=fun i hi=>by
  have hx:∃s L,PtOf G c e k v wr i s L:=of_decide_eq_true hi;show ∃L,PtOf G c e k v wr i (if hx:∃s L,PtOf G c e k v wr i s L then hx.choose else⟨0,0⟩) L;rw[dif_pos hx];exact hx.choose_spec
 let l:Nat→Int:=fun i=>match G.p (k i) (s i) with | some L=>(L:Int) | none=>0
 have hl:∀i (L:Nat),PtOf G c e k v wr i (s i) L→l i=(L:Int):=fun i L hp=>by
  show (match G.p (k i) (s i) with | some L=>(L:Int) | none=>(0:Int))=(L:Int);rw[hp.1]
 let t:Nat→Int:=fun i=>if wr i=true then l i else max (l i) (c i+1)
 have htw:∀i,wr i=true→t i=l i:=fun i hw=>if_pos hw
 have htr:∀i,wr i=false→t i=max (l i) (c i+1):=fun i hw=>if_neg (by rw[hw];decide)
 have hlt:∀i,l i≤t i:=fun i=>by
  cases hw:wr i with
  | true=>rw[htw i hw];exact Int.le_refl _
  | false=>rw[htr i hw];exact Int.le_max_left _ _
 -- a read that is in was done
 have hrd:∀i L,PtOf G c e k v wr i (s i) L→wr i=false→∃r∈G.R,(r.bg:Int)=c i∧(r.ok:Int)=e i∧r.key=k i∧r.write=wr i∧r.v=v i∧r.s=s i:=fun i L hp hw=>by
  rcases hp.2 with ⟨_,r⟩ | ⟨_,hw',_⟩
  ·exact r
  ·rw[hw] at hw';cases hw'
 refine ord_of_pts (inc:=inc) (t:=t) (s:=s) ⟨fun i hi hc=>?_,fun i hi hc he=>?_,fun i hi he=>?_,fun i j hi hj hic hjc hk hlt'=>?_,fun i j hi hj hic hjc hiw hjw hk hss=>?_,fun i hi hc hw=>?_,fun j hj hc hw=>?_⟩
 ·obtain⟨L,hp⟩:=hs i hc;cases hw:wr i with
  | true=>
   obtain⟨tw,ht,t1,t2,t3,t4⟩:=hp.tw h hw;have:=(h.T tw ht).late L (by rw[t2,t4];exact hp.1);rw[htw i hw,hl i L hp];omega
  | false=>rw[htr i hw];omega
 ·obtain⟨L,hp⟩:=hs i hc;obtain⟨r,hr,r1,r2,r3,r4,r5,r6⟩:∃r∈G.R,(r.bg:Int)=c i∧(r.ok:Int)=e i∧r.key=k i∧r.write=wr i∧r.v=v i∧r.s=s i:=by
   rcases hp.2 with ⟨_,r⟩ | ⟨h1,_⟩
   ·exact r
   ·omega
  obtain⟨L',h1,h2⟩:=(h.R r hr).set_ (.inr ho.back);have h3:=(h.R r hr).bg;rw[r3,r6,hp.1] at h1;have h4:=Option.some.inj h1;have h5:=hl i L hp;cases hw:wr i with
  | true=>rw[htw i hw];omega
  | false=>rw[htr i hw];omega
 ·obtain⟨r,hr,r1,r2,r3,r4,r5⟩:=ho.done i hi he;obtain⟨L',h1,h2⟩:=(h.R r hr).set_ (.inr ho.back);exact decide_eq_true ⟨r.s,L',by rw[←r3];exact h1,.inl ⟨he,r,hr,r1,r2,r3,r4,r5,rfl⟩⟩
 ·obtain⟨Li,hpi⟩:=hs i hic;obtain⟨Lj,hpj⟩:=hs j hjc;have hpj':G.p (k i) (s j)=some Lj:=by rw[hk];exact hpj.1
  obtain⟨L,h1,h2⟩:=h.p3 (k i) (s i) (s j) Lj (Smp.lt_le hlt') hpj';rw[hpi.1] at h1;have h3:=Option.some.inj h1;have h4:=hl i Li hpi;have h5:=hl j Lj hpj;have h6:=hlt j;cases hw:wr i with
  | true=>rw[htw i hw];omega
  | false=>
   obtain⟨r,hr,r1,r2,r3,r4,r5,r6⟩:=hrd i Li hpi hw;have h7:¬Lj≤r.bg:=fun hle=>by
    have:=((h.R r hr).new (s j) Lj (by rw[r3];exact hpj') hle).1;rw[r6] at this;exact Smp.lt_irrefl _ (Smp.lt_of_le_lt this hlt')
   rw[htr i hw];omega
 ·obtain⟨Li,hpi⟩:=hs i hic;obtain⟨Lj,hpj⟩:=hs j hjc;obtain⟨ti,hti,a1,a2,a3,a4⟩:=hpi.tw h hiw;obtain⟨tj,htj,b1,b2,b3,b4⟩:=hpj.tw h hjw;have:=h.one ti hti tj htj (by rw[a2,b2,hk]) (by rw[a4,b4,hss]);subst this;exact ho.inj i j hi hj (by omega)
 ·obtain⟨L,hp⟩:=hs i hc;obtain⟨r,hr,r1,r2,r3,r4,r5,r6⟩:=hrd i L hp hw;rcases(h.R r hr).val with ⟨v1,v2⟩ | ⟨tw,ht,t1,t2,t3⟩
  ·exact .inl ⟨r6.symm.trans v1,r5.symm.trans v2⟩
  ·right
   obtain⟨j,hj,j1,j2,j3,j4⟩:=ho.told tw ht;have hkj:k j=k i:=by rw[j3,t1,r3]
   have hts:tw.s=s i:=t2.trans r6;have hpj:=PtOf.of_tw h ho hj ht j1.symm j3.symm j4.symm j2 (L:=L) (by rw[hkj,hts];exact hp.1);have hinc:inc j=true:=decide_eq_true ⟨_,_,hpj⟩;obtain⟨L2,hp2⟩:=hs j hinc;obtain⟨tj,htj,b1,b2,b3,b4⟩:=hp2.tw h j2;have e1:=h.bgone tj htj tw ht (by omega);have e2:s j=s i:=by rw[←b4,e1,hts]
   refine⟨j,hj,hinc,j2,hkj,e2,by rw[j4,t3,r5],?_⟩;have e3:l j=l i:=by
    show (match G.p (k j) (s j) with | some L=>(L:Int) | none=>0)=(match G.p (k i) (s i) with | some L=>(L:Int) | none=>0);rw[hkj,e2]
   rw[htw j j2,e3];exact hlt i
 ·obtain⟨L,hp⟩:=hs j hc;obtain⟨tw,ht,t1,t2,t3,t4⟩:=hp.tw h hw;have:=(h.T tw ht).hi;rw[t4] at this;exact .inl (by show (0:Int) < _;omega)
end
end Go.Proofs.YtjpklmighoondaaGreatDoor
namespace Go.Proofs.YtjpklmighoondaaGreatDoor
def numB (n:Int):Bool:=decide (-1000000≤n∧n≤1000000)
def kindB (n:Int):Bool:=decide (1≤n∧n≤12)
def eightB (n:Int):Bool:=decide (0≤n∧n < 8)
def inB (p k a b r:Int):Bool:=eightB p&&eightB k&&numB a&&numB b&&numB r
def faultN (p t k d a b r:Int):Int:=
 if inB p k a b r then (if decide (1≤t∧t≤4)&&kindB d then (if decide (r=0∨t=2) then 0 else 1) else 1) else 2
structure Opn where
 p:Int
 k:Int
 d:Int
 a:Int
 b:Int
 r:Int
 c:Int
 e:Int
def beforeB (x y:Opn):Bool:=decide (0≤x.e)&&decide (x.e < y.c)
def hasB (x:Opn) (t:Int):Bool:=x.c==t||x.e==t
def shareB (x y:Opn):Bool:=hasB x y.c||(y.e != -1&&hasB x y.e)
def clashB (x y:Opn):Bool:=x.p==y.p&& !beforeB x y
def rangeB (x:Opn):Bool:=inB x.p x.k x.a x.b x.r&&numB x.c&&numB x.e
def lastOk (l:List Opn) (x:Opn):Bool:=match l.getLast? with
 | none=>true
 | some y=>decide (y.c < x.c)
def orderB (l:List Opn) (x:Opn):Bool:=decide (0≤x.c)&&lastOk l x&&(if x.e= -1 then x.r==0 else decide (x.c < x.e))
def opFaultN (l:List Opn) (x:Opn):Int:=
 if rangeB x then (if kindB x.d then (if orderB l x then (if l.any (fun y=>shareB y x) then 9 else if l.any (fun y=>clashB y x) then 6 else 0) else 10) else 1) else 2
def Told (l:List Opn) (n:Int):Prop:=
 (40 < l.length∧n=4)∨(l.length≤40∧(∀j,(h:j < l.length)→opFaultN (l.take j) l[j]=0)∧n=0)∨
 (l.length≤40∧∃k,∃h:k < l.length,(∀j,(hj:j < k)→opFaultN (l.take j) (l[j]'(Nat.lt_trans hj h))=0)∧opFaultN (l.take k) l[k]≠0∧n=opFaultN (l.take k) l[k])
theorem told_one {l:List Opn} {n m:Int} (h1:Told l n) (h2:Told l m):n=m:=by
 rcases h1 with ⟨a,rfl⟩ | ⟨a,g,rfl⟩ | ⟨a,k,hk,g,hne,rfl⟩
 ·rcases h2 with ⟨_,rfl⟩ | ⟨b,_⟩ | ⟨b,_⟩
  ·rfl
  ·omega
  ·omega
 ·rcases h2 with ⟨b,_⟩ | ⟨_,_,rfl⟩ | ⟨_,k,hk,_,hne,rfl⟩
  ·omega
  ·rfl
  ·exact absurd (g k hk) hne
 ·rcases h2 with ⟨b,_⟩ | ⟨_,g',rfl⟩ | ⟨_,k',hk',g',hne',rfl⟩
  ·omega
  ·exact absurd (g' k hk) hne
  ·rcases Nat.lt_trichotomy k k' with h | h | h
   ·exact absurd (g' k h) hne
   ·subst h;rfl
   ·exact absurd (g k' h) hne'
open Go.RowKit
set_option maxHeartbeats 400000 in
theorem isNumber_any (n:Int) (w:World):
  Calls Tryz.prog 171 #[.int .i64 n] w fun e w'=>e=.returned (.bool (numB n))∧w'=w:=by
 by_cases h1: -1000000≤n
 ·by_cases h2:n≤1000000
  ·have e:numB n=true:=by simp[numB,h1,h2]
   rw[e];clear e;go_enter Tryz.func171,Tryz.ntmps171
   go_wp2;go_ret;exact⟨rfl,rfl⟩
  ·have e:numB n=false:=by simp[numB,h2]
   rw[e];clear e;go_enter Tryz.func171,Tryz.ntmps171
   go_wp2;go_ret;exact⟨rfl,rfl⟩
 ·have e:numB n=false:=by simp[numB,h1]
  rw[e];clear e;go_enter Tryz.func171,Tryz.ntmps171
  go_wp2;go_ret;exact⟨rfl,rfl⟩
set_option maxHeartbeats 400000 in
theorem isKind_any (n:Int) (w:World):
  Calls Tryz.prog 120 #[.int .i64 n] w fun e w'=>e=.returned (.bool (kindB n))∧w'=w:=by
 by_cases h1:1≤n
 ·by_cases h2:n≤12
  ·have e:kindB n=true:=by simp[kindB,h1,h2]
   rw[e];clear e;go_enter Tryz.func120,Tryz.ntmps120
   go_wp2;go_ret;exact⟨rfl,rfl⟩
  ·have e:kindB n=false:=by simp[kindB,h2]
   rw[e];clear e;go_enter Tryz.func120,Tryz.ntmps120
   go_wp2;go_ret;exact⟨rfl,rfl⟩
 ·have e:kindB n=false:=by simp[kindB,h1]
  rw[e];clear e;go_enter Tryz.func120,Tryz.ntmps120
  go_wp2;go_ret;exact⟨rfl,rfl⟩
set_option maxHeartbeats 1000000 in
theorem inBounds_any (p k a b r:Int) (w:World):
  Calls Tryz.prog 119 #[.int .i64 p,.int .i64 k,.int .i64 a,.int .i64 b,.int .i64 r] w fun e w'=>e=.returned (.bool (inB p k a b r))∧w'=w:=by
 by_cases h1:0≤p
 ·by_cases h2:p < 8
  ·by_cases h3:0≤k
   ·by_cases h4:k < 8
    ·have e:inB p k a b r=(numB a&&numB b&&numB r):=by simp[inB,eightB,h1,h2,h3,h4]
     rw[e];clear e;go_enter Tryz.func119,Tryz.ntmps119
     go_wp2_with (go_at_call 171;refine(isNumber_any _ _).mono ?_;rintro e w' ⟨rfl,rfl⟩)
     all_goals (go_ret;exact⟨by simp_all,rfl⟩)
    ·have e:inB p k a b r=false:=by simp[inB,eightB,h4]
     rw[e];clear e;go_enter Tryz.func119,Tryz.ntmps119
     go_wp2;go_ret;exact⟨rfl,rfl⟩
   ·have e:inB p k a b r=false:=by simp[inB,eightB,h3]
    rw[e];clear e;go_enter Tryz.func119,Tryz.ntmps119
    go_wp2;go_ret;exact⟨rfl,rfl⟩
  ·have e:inB p k a b r=false:=by simp[inB,eightB,h2]
   rw[e];clear e;go_enter Tryz.func119,Tryz.ntmps119
   go_wp2;go_ret;exact⟨rfl,rfl⟩
 ·have e:inB p k a b r=false:=by simp[inB,eightB,h1]
  rw[e];clear e;go_enter Tryz.func119,Tryz.ntmps119
  go_wp2;go_ret;exact⟨rfl,rfl⟩
open Go.RowKit
def toldV (n:Int):Value:=if n=0 then .nilIface else .iface 55 (.int .i64 n)
open Go.RowKit
structure Ev where
 p:Int
 t:Int
 k:Int
 d:Int
 a:Int
 b:Int
 r:Int
def EvAt (w:World) (b off:Nat) (e:Ev):Prop:=
 w.cell? ⟨b,off,none⟩=some (.int .i64 e.p)∧w.cell? ⟨b,off+1,none⟩=some (.int .i64 e.t)∧w.cell? ⟨b,off+2,none⟩=some (.int .i64 e.k)∧w.cell? ⟨b,off+3,none⟩=some (.int .i64 e.d)∧w.cell? ⟨b,off+4,none⟩=some (.int .i64 e.a)∧w.cell? ⟨b,off+5,none⟩=some (.int .i64 e.b)∧w.cell? ⟨b,off+6,none⟩=some (.int .i64 e.r)
def EvsAt (w:World) (b off:Nat) (l:List Ev):Prop:=∀i,(h:i < l.length)→EvAt w b (off+i*7) l[i]
theorem EvAt.below {w w':World} {B b off:Nat} {e:Ev} (h:EvAt w b off e) (hb:b < B) (hn:Below B w w'):EvAt w' b off e:=by
 obtain⟨h0,h1,h2,h3,h4,h5,h6⟩:=h;exact⟨(hn.cell (p:=⟨b,off,none⟩) hb).trans h0,(hn.cell (p:=⟨b,off+1,none⟩) hb).trans h1,(hn.cell (p:=⟨b,off+2,none⟩) hb).trans h2,(hn.cell (p:=⟨b,off+3,none⟩) hb).trans h3,(hn.cell (p:=⟨b,off+4,none⟩) hb).trans h4,(hn.cell (p:=⟨b,off+5,none⟩) hb).trans h5,(hn.cell (p:=⟨b,off+6,none⟩) hb).trans h6⟩
def Ev.fault (e:Ev):Int:=faultN e.p e.t e.k e.d e.a e.b e.r
def Ev.op (e:Ev) (n:Int):Opn:=⟨e.p,e.k,e.d,e.a,e.b,0,n,-1⟩
structure Hs where
 busy:Int→Option Opn
 lost:Int→Bool
 done:List Opn
def Hs.new:Hs:=⟨fun _=>none,fun _=>false,[]⟩
def setO (f:Int→Option Opn) (p:Int) (v:Option Opn):Int→Option Opn:=fun q=>if q=p then v else f q
def setB (f:Int→Bool) (p:Int) (v:Bool):Int→Bool:=fun q=>if q=p then v else f q
def sameB (o:Opn) (e:Ev):Bool:=o.k==e.k&&o.d==e.d&&o.a==e.a&&o.b==e.b
def endO (o:Opn) (r n:Int):Opn:=⟨o.p,o.k,o.d,o.a,o.b,r,o.c,n⟩
def seeN (e:Ev) (s:Hs):Int:=
 if e.fault≠0 then e.fault
 else if e.t=1 then (if (s.busy e.p).isSome||s.lost e.p then 6 else 0)
 else match s.busy e.p with
  | none=>12
  | some o=>if sameB o e then 0 else 12
def seeS (n:Int) (e:Ev) (s:Hs):Hs:=
 if e.t=1 then⟨setO s.busy e.p (some (e.op n)),s.lost,s.done⟩
 else match s.busy e.p with
  | none=>s
  | some o=>
   if e.t=2 then⟨setO s.busy e.p none,s.lost,s.done++ [endO o e.r n]⟩
   else if e.t=4 then⟨setO s.busy e.p none,setB s.lost e.p true,s.done++ [o]⟩
   else⟨setO s.busy e.p none,s.lost,s.done⟩
def hist (l:List Ev):Nat→Hs
 | 0=>Hs.new
 | n+1=>match l[n]? with
  | some e=>seeS n e (hist l n)
  | none=>hist l n
def FineH (l:List Ev) (n:Nat):Prop:=∀i,(h:i < l.length)→i < n→seeN l[i] (hist l i)=0
def Apart (x y:Opn):Prop:=
 x.c≠y.c∧x.c≠y.e∧x.e≠y.c∧(x.e= -1∨x.e≠y.e)∧(x.p=y.p→beforeB x y=true∨beforeB y x=true)
theorem Apart.symm {x y:Opn} (h:Apart x y):Apart y x:=by
 obtain⟨h1,h2,h3,h4,h5⟩:=h;exact⟨Ne.symm h1,Ne.symm h3,Ne.symm h2,by
  rcases h4 with h | h
  ·by_cases e:y.e= -1
   ·exact .inl e
   ·exact .inr (fun k=>e (k.trans h))
  ·exact .inr (Ne.symm h),fun e=>(h5 e.symm).symm⟩
structure Good (l : List Ev) (n : Nat) (x : Opn) : Prop where
 lo:0≤x.c
 hi:x.c < n
 ret:x.e < n
 fit:(x.e= -1∧x.r=0)∨x.c < x.e
 num:numB x.r=true
 made:∃(i:Nat) (h:i < l.length),x.c=i∧l[i].t=1∧l[i].fault=0∧l[i].p=x.p∧l[i].k=x.k∧l[i].d=x.d∧l[i].a=x.a∧l[i].b=x.b
theorem Good.mono {l:List Ev} {n m:Nat} {x:Opn} (h:Good l n x) (hm:n≤m):Good l m x:=
 ⟨h.lo,by have:=h.hi;omega,by have:=h.ret;omega,h.fit,h.num,h.made⟩
structure Inv (l : List Ev) (n : Nat) (s : Hs) : Prop where
 good:∀x∈s.done,Good l n x
 goodB:∀p o,s.busy p=some o→Good l n o∧o.p=p∧o.e= -1∧o.r=0
 apart:s.done.Pairwise Apart
 apartB:∀x∈s.done,∀p o,s.busy p=some o→Apart x o
 apartBB:∀p q o o',p≠q→s.busy p=some o→s.busy q=some o'→Apart o o'
 lostB:∀p,s.lost p=true→s.busy p=none
 open1 : ∀ x ∈ s.done, x.e = -1 → s.lost x.p = true
theorem inv_new (l:List Ev):Inv l 0 Hs.new where
 good x h:=by simp[Hs.new] at h
 goodB p o h:=by simp[Hs.new] at h
 apart:=by simp[Hs.new]
 apartB x h:=by simp[Hs.new] at h
 apartBB p q o o' _ h:=by simp[Hs.new] at h
 lostB p h:=by simp[Hs.new] at h
 open1 x h := by simp [Hs.new] at h
theorem setO_same (f:Int→Option Opn) (p:Int) (v:Option Opn):setO f p v p=v:=by simp[setO]
theorem setO_other (f:Int→Option Opn) (p q:Int) (v:Option Opn) (h:q≠p):setO f p v q=f q:=by simp[setO,h]
theorem apart_new {l:List Ev} {n:Nat} {x:Opn} (e:Ev) (h:Good l n x) (hp:x.p=e.p→x.e≠ -1):Apart x (e.op n):=by
 have h1:=h.lo;have h2:=h.hi;have h3:=h.ret;have h4:=h.fit;refine⟨?_,?_,?_,?_,?_⟩
 ·show x.c≠(n:Int);omega
 ·show x.c≠(-1:Int);omega
 ·show x.e≠(n:Int);omega
 ·by_cases k:x.e= -1
  ·exact .inl k
  ·exact .inr k
 ·intro k;have hne:=hp k
  left
  show (decide (0≤x.e)&&decide (x.e < (n:Int)))=true;have g1:0≤x.e:=by omega
  have g2:x.e < (n:Int):=h3;simp[g1,g2]
theorem fault_parts {e:Ev} (h:e.fault=0):inB e.p e.k e.a e.b e.r=true∧1≤e.t∧e.t≤4∧kindB e.d=true∧(e.r=0∨e.t=2):=by
 unfold Ev.fault faultN at h;cases h1:inB e.p e.k e.a e.b e.r
 ·rw[h1] at h;simp at h
 ·rw[h1] at h;cases h2:(decide (1≤e.t∧e.t≤4)&&kindB e.d)
  ·rw[h2] at h;simp at h
  ·rw[h2] at h;by_cases h3:e.r=0∨e.t=2
   ·simp at h2;exact⟨rfl,h2.1.1,h2.1.2,h2.2,h3⟩
   ·simp[h3] at h
theorem inB_num {p k a b r:Int} (h:inB p k a b r=true):numB r=true:=by
 simp[inB] at h;exact h.2
theorem num_zero:numB 0=true:=rfl
theorem inv_begin {l:List Ev} {n:Nat} {s:Hs} (I:Inv l n s) (h:n < l.length) (ht:l[n].t=1) (hf:l[n].fault=0) (_hb:s.busy l[n].p=none) (hl:s.lost l[n].p=false):
  Inv l (n+1) ⟨setO s.busy l[n].p (some (l[n].op n)),s.lost,s.done⟩:=by
 have gnew:Good l (n+1) (l[n].op n):=⟨by show (0:Int)≤n;omega,by show (n:Int) < (n+1:Nat);omega,by show (-1:Int) < (n+1:Nat);omega,.inl ⟨rfl,rfl⟩,num_zero,⟨n,h,rfl,ht,hf,rfl,rfl,rfl,rfl,rfl⟩⟩;refine⟨fun x hx=>(I.good x hx).mono (by omega),?_,I.apart,?_,?_,?_,I.open1⟩
 ·intro p o ho;dsimp only at ho;by_cases e:p=l[n].p
  ·subst e;rw[setO_same] at ho;obtain rfl:=Option.some.inj ho;exact⟨gnew,rfl,rfl,rfl⟩
  ·rw[setO_other _ _ _ _ e] at ho;obtain⟨g,r⟩:=I.goodB p o ho;exact⟨g.mono (by omega),r⟩
 ·intro x hx p o ho;dsimp only at ho;by_cases e:p=l[n].p
  ·subst e;rw[setO_same] at ho;obtain rfl:=Option.some.inj ho;exact apart_new l[n] (I.good x hx) (fun k hk=>by have:=I.open1 x hx hk;rw[k,hl] at this;exact absurd this (by decide))
  ·rw[setO_other _ _ _ _ e] at ho;exact I.apartB x hx p o ho
 ·have key:∀q o',q≠l[n].p→s.busy q=some o'→Apart o' (l[n].op n):=fun q o' hq ho'=>by
   obtain⟨g,r,_⟩:=I.goodB q o' ho';exact apart_new l[n] g (fun k=>absurd (r.symm.trans k) hq)
  intro p q o o' hpq ho ho';dsimp only at ho ho';by_cases e:p=l[n].p
  ·subst e;rw[setO_same] at ho;obtain rfl:=Option.some.inj ho;rw[setO_other _ _ _ _ (Ne.symm hpq)] at ho';exact(key q o' (Ne.symm hpq) ho').symm
  ·rw[setO_other _ _ _ _ e] at ho;by_cases e':q=l[n].p
   ·subst e';rw[setO_same] at ho';obtain rfl:=Option.some.inj ho';exact key p o e ho
   ·rw[setO_other _ _ _ _ e'] at ho';exact I.apartBB p q o o' hpq ho ho'
 ·intro p hp;by_cases e:p=l[n].p
  ·subst e;rw[hl] at hp;exact absurd hp (by decide)
  ·show setO s.busy l[n].p _ p=none;rw[setO_other _ _ _ _ e];exact I.lostB p hp
theorem apart_end {l:List Ev} {n:Nat} {x o:Opn} (r:Int) (h:Apart x o) (hx:Good l n x) (ho:o.e= -1) (_hc:0≤o.c):Apart x (endO o r n):=by
 obtain⟨h1,h2,h3,h4,h5⟩:=h;have g1:=hx.hi;have g2:=hx.ret;have g3:=hx.lo;refine⟨h1,?_,h3,?_,?_⟩
 ·show x.c≠(n:Int);omega
 ·right;show x.e≠(n:Int);omega
 ·intro k;rcases h5 k with h | h
  ·exact .inl h
  ·exfalso
   simp[beforeB,ho] at h
theorem inv_end {l:List Ev} {n:Nat} {s:Hs} {o:Opn} (I:Inv l n s) (h:n < l.length) (hf:l[n].fault=0) (ho:s.busy l[n].p=some o) (lost:Int→Bool) (add:List Opn)
  (hadd:(add= []∧lost=s.lost)∨(add= [endO o l[n].r n]∧lost=s.lost)∨(add= [o]∧lost=setB s.lost l[n].p true)):
  Inv l (n+1) ⟨setO s.busy l[n].p none,lost,s.done++add⟩:=by
 obtain⟨go,gp,ge,gr⟩:=I.goodB _ _ ho;have hback:∀p o',setO s.busy l[n].p none p=some o'→s.busy p=some o'∧p≠l[n].p:=fun p o' h=>by
  by_cases e:p=l[n].p
  ·subst e;rw[setO_same] at h;cases h
  ·rw[setO_other _ _ _ _ e] at h;exact⟨h,e⟩
 have gend:Good l (n+1) (endO o l[n].r n):=⟨go.lo,by have:=go.hi;show o.c < _;omega,by show (n:Int) < (n+1:Nat);omega,.inr (by have:=go.hi;show o.c < (n:Int);omega),inB_num (fault_parts hf).1,go.made⟩;have gadd:∀x∈add,Good l (n+1) x∧(∀y,Good l n y→Apart y o→Apart y x)∧(x.e= -1→lost x.p=true):=by
  intro x hx;rcases hadd with ⟨rfl,rfl⟩ | ⟨rfl,rfl⟩ | ⟨rfl,rfl⟩
  ·simp at hx
  ·simp at hx;subst hx;refine⟨gend,fun y gy ay=>apart_end _ ay gy ge go.lo,fun k=>?_⟩
   exfalso
   have k':(n:Int)= -1:=k;omega
  ·simp at hx;subst hx;exact⟨go.mono (by omega),fun y _ ay=>ay,fun _=>by simp[setB,gp]⟩
 have hlost:∀p,p≠l[n].p→lost p=s.lost p:=fun p hp=>by
  rcases hadd with ⟨_,rfl⟩ | ⟨_,rfl⟩ | ⟨_,rfl⟩
  ·rfl
  ·rfl
  ·simp[setB,hp]
 have hmore:∀p,s.lost p=true→lost p=true:=fun p hp=>by
  rcases hadd with ⟨_,rfl⟩ | ⟨_,rfl⟩ | ⟨_,rfl⟩
  ·exact hp
  ·exact hp
  ·by_cases e:p=l[n].p<;>simp[setB,e,hp]
 refine⟨?_,?_,?_,?_,?_,?_,?_⟩
 ·intro x hx;rcases List.mem_append.1 hx with hx | hx
  ·exact(I.good x hx).mono (by omega)
  ·exact(gadd x hx).1
 ·intro p o' h;obtain⟨g,r⟩:=I.goodB p o' (hback p o' h).1;exact⟨g.mono (by omega),r⟩
 ·refine List.pairwise_append.2 ⟨I.apart,?_,?_⟩
  ·rcases hadd with ⟨rfl,_⟩ | ⟨rfl,_⟩ | ⟨rfl,_⟩<;>simp
  ·intro x hx y hy;exact(gadd y hy).2.1 x (I.good x hx) (I.apartB x hx _ _ ho)
 ·intro x hx p o' h;obtain⟨h1,h2⟩:=hback p o' h;rcases List.mem_append.1 hx with hx | hx
  ·exact I.apartB x hx p o' h1
  ·exact((gadd x hx).2.1 o' (I.goodB p o' h1).1 (I.apartBB p _ o' o h2 h1 ho)).symm
 ·intro p q a b hpq ha hb;exact I.apartBB p q a b hpq (hback p a ha).1 (hback q b hb).1
 ·intro p hp;by_cases e:p=l[n].p
  ·subst e;exact setO_same _ _ _
  ·show setO s.busy l[n].p none p=none;rw[setO_other _ _ _ _ e];exact I.lostB p (by rw[←hlost p e];exact hp)
 ·intro x hx k;rcases List.mem_append.1 hx with hx | hx
  ·exact hmore _ (I.open1 x hx k)
  ·exact(gadd x hx).2.2 k
theorem inv_see {l:List Ev} {n:Nat} {s:Hs} (I:Inv l n s) (h:n < l.length) (hz:seeN l[n] s=0):Inv l (n+1) (seeS n l[n] s):=by
 unfold seeN at hz;by_cases hf:l[n].fault=0
 ·rw[if_neg (by simpa using hf)] at hz;unfold seeS;by_cases ht:l[n].t=1
  ·rw[if_pos ht] at hz;rw[if_pos ht];cases hb:s.busy l[n].p with
   | some o=>rw[hb] at hz;simp at hz
   | none=>
    cases hl:s.lost l[n].p
    ·exact inv_begin I h ht hf hb hl
    ·rw[hb,hl] at hz;simp at hz
  ·rw[if_neg ht] at hz;rw[if_neg ht];cases hb:s.busy l[n].p with
   | none=>rw[hb] at hz;simp at hz
   | some o=>
    show Inv l (n+1) (if l[n].t=2 then _ else if l[n].t=4 then _ else _);by_cases h2:l[n].t=2
    ·rw[if_pos h2];exact inv_end I h hf hb _ _ (.inr (.inl ⟨rfl,rfl⟩))
    ·rw[if_neg h2];by_cases h4:l[n].t=4
     ·rw[if_pos h4];exact inv_end I h hf hb _ _ (.inr (.inr ⟨rfl,rfl⟩))
     ·rw[if_neg h4];have:=inv_end I h hf hb s.lost [] (.inl ⟨rfl,rfl⟩)
      rwa [List.append_nil] at this
 ·rw[if_pos (by simpa using hf)] at hz;exact absurd hz hf
theorem hist_succ (l:List Ev) (n:Nat) (h:n < l.length):hist l (n+1)=seeS n l[n] (hist l n):=by
 show (match l[n]? with | some e=>seeS n e (hist l n) | none=>hist l n)=_;rw[List.getElem?_eq_getElem h]
theorem inv_hist (l:List Ev) (n:Nat) (hn:n≤l.length) (hf:FineH l n):Inv l n (hist l n):=by
 induction n with
 | zero=>exact inv_new l
 | succ n ih=>
  rw[hist_succ l n (by omega)];exact inv_see (ih (by omega) (fun i h hi=>hf i h (by omega))) (by omega) (hf n (by omega) (by omega))
def OpsOf (s:Hs) (L:List Opn):Prop:=
 ∃qs:List Int,qs.Nodup∧(∀q,q∈qs↔(s.busy q).isSome=true)∧L.Perm (s.done++qs.filterMap s.busy)∧L.Pairwise (fun x y=>x.c≤y.c)
theorem mem_pending {s:Hs} {qs:List Int} {x:Opn} (h:x∈qs.filterMap s.busy):∃p,s.busy p=some x:=by
 obtain⟨p,_,hp⟩:=List.mem_filterMap.1 h;exact⟨p,hp⟩
theorem opsOf_good {l:List Ev} {n:Nat} {s:Hs} {L:List Opn} (I:Inv l n s) (h:OpsOf s L):∀x∈L,Good l n x:=by
 obtain⟨qs,_,_,hp,_⟩:=h;intro x hx;rcases List.mem_append.1 ((hp.mem_iff).1 hx) with hx | hx
 ·exact I.good x hx
 ·obtain⟨p,hp⟩:=mem_pending hx;exact(I.goodB p x hp).1
theorem opsOf_apart {l:List Ev} {n:Nat} {s:Hs} {L:List Opn} (I:Inv l n s) (h:OpsOf s L):L.Pairwise Apart:=by
 obtain⟨qs,hn,_,hp,_⟩:=h;refine(hp.pairwise_iff (fun {_ _} h=>h.symm)).2 (List.pairwise_append.2 ⟨I.apart,?_,?_⟩)
 ·refine List.pairwise_filterMap.2 (List.Pairwise.imp ?_ hn);intro p q hpq x hx y hy;exact I.apartBB p q x y hpq hx hy
 ·intro x hx y hy;obtain⟨p,hp⟩:=mem_pending hy;exact I.apartB x hx p y hp
theorem opsOf_rising {l:List Ev} {n:Nat} {s:Hs} {L:List Opn} (I:Inv l n s) (h:OpsOf s L):L.Pairwise (fun x y=>x.c < y.c∧Apart x y):=by
 have h1:=opsOf_apart I h;obtain⟨qs,_,_,_,hs⟩:=h;refine(List.pairwise_and_iff.2 ⟨hs,h1⟩).imp ?_;intro x y ⟨a,b⟩;exact⟨by have:=b.1;omega,b⟩
theorem any_take_false {L:List Opn} {R:Opn→Opn→Prop} (h:L.Pairwise R) (f:Opn→Opn→Bool) (hf:∀x y,R x y→f x y=false) (j:Nat) (hj:j < L.length):(L.take j).any (fun x=>f x L[j])=false:=by
 rw[List.any_eq_false];intro x hx;obtain⟨i,hi,rfl⟩:=List.getElem_of_mem hx;rw[List.getElem_take];have hij:i < j:=by simp at hi;omega
 simp[hf _ _ (List.pairwise_iff_getElem.1 h i j (by omega) hj hij)]
theorem opsOf_fine {l:List Ev} {n:Nat} {s:Hs} {L:List Opn} (I:Inv l n s) (hn:n≤200) (h:OpsOf s L) (j:Nat) (hj:j < L.length):opFaultN (L.take j) L[j]=0:=by
 have hr:=opsOf_rising I h;have hg:=opsOf_good I h;have g:=hg L[j] (List.getElem_mem hj);have g1:=g.lo;have g2:=g.hi;have g3:=g.ret;have g4:=g.fit;obtain⟨i,hi,e1,e2,e3,e4,e5,e6,e7,e8⟩:=g.made;obtain⟨f1,_,_,f4,_⟩:=fault_parts e3;have hin:inB L[j].p L[j].k L[j].a L[j].b L[j].r=true:=by
  rw[e4,e5,e7,e8] at f1;simp[inB] at f1 ⊢;exact⟨f1.1,g.num⟩
 have hrange:rangeB L[j]=true:=by
  unfold rangeB;rw[hin];have:numB L[j].c=true:=by simp[numB];omega
  have:numB L[j].e=true:=by simp[numB];omega
  simp_all
 have hkind:kindB L[j].d=true:=by rw[←e6];exact f4
 have hlast:lastOk (L.take j) L[j]=true:=by
  unfold lastOk
  split
  ·rfl
  ·rename_i y hy
   have hm:=List.mem_of_getLast? hy;obtain⟨m,hm2,hm3⟩:=List.getElem_of_mem hm;have hm4:m < min j L.length:=by rw[←List.length_take];exact hm2
   have hmj:m < j:=by omega
   have:=(List.pairwise_iff_getElem.1 hr m j (by omega) hj hmj).1;rw[←hm3,List.getElem_take];simp[this]
 have horder:orderB (L.take j) L[j]=true:=by
  unfold orderB;rw[hlast];by_cases k:L[j].e= -1
  ·rw[if_pos k];have:L[j].r=0:=by
    rcases g4 with h | h
    ·exact h.2
    ·omega
   simp[g1,this]
  ·rw[if_neg k];have:L[j].c < L[j].e:=by
    rcases g4 with h | h
    ·exact absurd h.1 k
    ·exact h
   simp[g1,this]
 have hshare:(L.take j).any (fun y=>shareB y L[j])=false:=by
  refine any_take_false (opsOf_apart I h) shareB ?_ j hj;intro x y ⟨a1,a2,a3,a4,_⟩;unfold shareB hasB;have b1:(x.c==y.c)=false:=by simpa using a1
  have b2:(x.e==y.c)=false:=by simpa using a3
  have b3:(x.c==y.e)=false:=by simpa using a2
  rw[b1,b2,b3];by_cases k:y.e= -1
  ·simp[k]
  ·have:(x.e==y.e)=false:=by
    rcases a4 with h | h
    ·rw[h];simpa using fun h=>k h.symm
    ·simpa using h
   rw[this];simp
 have hclash:(L.take j).any (fun y=>clashB y L[j])=false:=by
  have hr2:L.Pairwise (fun x y=>clashB x y=false):=by
   refine List.pairwise_iff_getElem.2 fun a b ha hb hab=>?_
   have hr':=List.pairwise_iff_getElem.1 hr a b ha hb hab;have ga:=hg L[a] (List.getElem_mem ha);have gb:=hg L[b] (List.getElem_mem hb);cases k:clashB L[a] L[b]
   ·rfl
   ·exfalso
    simp[clashB] at k;obtain⟨kp,kb⟩:=k;rcases hr'.2.2.2.2.2 kp with h | h
    ·rw[h] at kb;exact absurd kb (by decide)
    ·simp[beforeB] at h;have b1:=gb.fit;have b2:=gb.lo;have b3:=hr'.1;omega
  exact any_take_false hr2 clashB (fun x y h=>h) j hj
 unfold opFaultN;rw[hrange,hkind,horder,hshare,hclash];rfl
end Go.Proofs.YtjpklmighoondaaGreatDoor
