/-
  Short names of laws that the walks use often.
  Chapter 17 in plain Lean: registers by quorums; what is kept whatever is moved.
  Chapter 17 in plain Lean: registers by quorums that meet: what is heard keeps what is kept.
  Plain facts on what may be of an event: numbers alone; nothing of the program is named here.
  Plain facts on what may be of ops: numbers and lists alone; nothing of the program is named here.
  What the small functions on an event do: contracts over the translated program.
  What the functions that judge one event do: contracts over the translated program.
  Events as plain data, and rows of them in memory.
  The history of events as plain data: what is seen, event by event; and that what it makes may be. Nothing of the program is named here.
  What a history makes, sorted by calls, may be: plain facts.
  Chapter 16 in plain Lean: who can talk to whom; it is told both ways; two who each talk to more than half meet.
  Chapters 16 and 17 in plain Lean: the moves of a store, and what they tell.
  What the small functions on ops do: contracts over the translated program.
-/
import Derived.OrdersHeld
import Derived.ProofKit
import Derived.Test.YtjpklmighoondaaGreatDoorProg
import Derived.WalkKit
import Derived.WalkSpells
import Derived.WalkLawsBesides
import Derived.Test.YtjpklmighoondaaGreatDoorGnPZ
namespace Go.Proofs.YtjpklmighoondaaGreatDoor
theorem p1 {α:Type _} (l:List α) (i:Nat) (a:α):l.toArray.setIfInBounds i a=(l.set i a).toArray:=List.setIfInBounds_toArray l i a
theorem p2 {α:Type _} {x:α} {xs:List α} {a:α} :(x::xs).set 0 a=a::xs:=rfl
theorem p3 {α:Type _} {x:α} {xs:List α} {i:Nat} {a:α} :(x::xs).set (i+1) a=x::xs.set i a:=rfl
theorem p4 {α:Type _} {xs:List α} {i:Nat} (h:i < xs.toArray.size):xs.toArray[i]=xs[i]'(by simpa using h):=List.getElem_toArray h
theorem p5 {α:Type _} (a:α) (l:List α) (h:0 < (a::l).length):(a::l)[0]=a:=rfl
theorem p6 {α:Type _} (a:α) (l:List α) (i:Nat) (h:i+1 < (a::l).length):(a::l)[i+1]=l[i]'(Nat.lt_of_succ_lt_succ h):=rfl
theorem tkH {P:Program} {ops:Array Oper} {Q:Exit→Act→World→Prop} {md:Region.Mode} {S:World→Prop} (i:Nat) {oi:Oper} (v:Value) {fuel:Nat} {listed:Array Bool} {a:Act} {w:World} (hi:ops[i]?=some oi)
  (hy:∀w,S w→(execOp a.eval oi).run P w=.ok (.value v) w) (h:wpAnyH P md ops Q S fuel (listed.setIfInBounds i true) (a.put oi.dst v) w)
  (hs:Region.noSelect ops=true:=by kernel_rfl) (hf:Region.free md ops listed i=true:=by kernel_rfl) (hr:(Region.ready md ops listed).contains i=true:=by kernel_rfl)
  (hw:Region.wanted oi (yielded ops a.tmps)=true:=by rfl) (hQ:∀c a w,Q (.panic c) (a.put oi.dst v) w→Q (.panic c) a w:=by exact fun _ _ _ h=>h) (hS:S w:=by assumption):wpAnyH P md ops Q S (fuel+1) listed a w:=
 wpAnyH_take hi hs hf hr hQ (Or.inl ⟨hw,hy⟩) hS h
structure Smp where
 t:Int
 c:Int
def Smp.le (a b:Smp):Prop:=a.t < b.t∨(a.t=b.t∧a.c≤b.c)
def Smp.lt (a b:Smp):Prop:=a.t < b.t∨(a.t=b.t∧a.c < b.c)
instance (a b:Smp):Decidable (a.le b):=by unfold Smp.le;infer_instance
instance (a b:Smp):Decidable (a.lt b):=by unfold Smp.lt;infer_instance
structure Hd where
 s:Smp
 v:Int
structure Ltr where
 c:Int
 key:Int
 rd:Int
 tells:Bool
 h:Hd
structure Ml where
 fr:Int
 to:Int
 l:Ltr
structure Cl where
 busy:Bool
 gone:Bool
 write:Bool
 tells:Bool
 key:Int
 value:Int
 rd:Int
 kept:Hd
 cnt:List Int
structure Sn where
 proc:Int
 typ:Int
 key:Int
 write:Bool
 a:Int
 res:Int
 at_:Smp
structure Sto where
 n:Nat
 k:Nat
 ask:Nat
 tell:Nat
 back:Bool
 links:Int→Int→Bool
 mails:List Ml
 has:Int→Int→Hd
 cl:Int→Cl
 seen:List Sn
def updC (f:Int→Cl) (c:Int) (x:Cl):Int→Cl:=fun d=>if d=c then x else f d
def hd0:Hd:=⟨⟨0,-1⟩,0⟩
def hdN:Hd:=⟨⟨-1,-1⟩,0⟩
def zeroS:Smp:=⟨0,0⟩
def sendL (l:List Ml) (m:Ml):List Ml:=if l.length < 500 then l++ [m] else l
def sendAll (l:List Ml) (n:Nat) (c:Int) (x:Cl):List Ml:=(List.range n).foldl (fun l (j:Nat)=>sendL l ⟨n+c,j,⟨c,x.key,x.rd,x.tells,x.kept⟩⟩) l
def roundC (x:Cl):Cl:= {x with rd:=x.rd+1,cnt:= []}
def roundS (S:Sto) (c:Int) (x:Cl):Sto:= {S with cl:=updC S.cl c (roundC x),mails:=sendAll S.mails S.n c (roundC x)}
def snOf (c:Int) (x:Cl) (typ res:Int) (at_:Smp):Sn:=⟨c,typ,x.key,x.write,if x.write then x.value else 0,res,at_⟩
def beginC (x:Cl) (key:Int) (write:Bool) (value:Int):Cl:= {x with busy:=true,write:=write,tells:=false,key:=key,value:=value,kept:=hdN}
def beginS (S:Sto) (c key:Int) (write:Bool) (value:Int):Sto:=
 roundS {S with seen:=S.seen++ [snOf c (beginC (S.cl c) key write value) 1 0 zeroS]} c (beginC (S.cl c) key write value)
def giveS (S:Sto) (c:Int):Sto:= {S with seen:=S.seen++ [snOf c (S.cl c) 4 0 zeroS],cl:=updC S.cl c {S.cl c with busy:=false,gone:=true}}
def nodeH (own:Hd) (l:Ltr):Hd:=if l.tells=true∧own.s.lt l.h.s then l.h else own
def updH (f:Int→Int→Hd) (j key:Int) (h:Hd):Int→Int→Hd:=fun a b=>if a=j∧b=key then h else f a b
def nodeS (S:Sto) (m:Ml):Sto:=
 {S with has:=updH S.has m.to m.l.key (nodeH (S.has m.to m.l.key) m.l),mails:=sendL S.mails ⟨m.to,m.fr,{m.l with h:=nodeH (S.has m.to m.l.key) m.l}⟩}
def countC (x:Cl) (node:Int) (h:Hd):Cl:= {x with cnt:=x.cnt++ [node],kept:=if x.tells=false∧x.kept.s.lt h.s then h else x.kept}
def tellC (c:Int) (x:Cl):Cl:= {x with kept:=if x.write then⟨⟨x.kept.s.t+1,c⟩,x.value⟩ else x.kept,tells:=true}
def doneS (S:Sto) (c:Int) (x:Cl):Sto:= {S with seen:=S.seen++ [snOf c x 2 (if x.write then 0 else x.kept.v) x.kept.s],cl:=updC S.cl c {x with busy:=false}}
def hearS (S:Sto) (c node:Int) (l:Ltr):Sto:=
 let x:=S.cl c
 if x.busy=true∧l.rd=x.rd∧node∉x.cnt then
  let y:=countC x node l.h
  if y.cnt.length < (if x.tells then S.tell else S.ask) then {S with cl:=updC S.cl c y}
  else if x.tells=false∧(x.write=true∨S.back=true) then roundS S c (tellC c y)
  else doneS S c y
 else S
def takeS (S:Sto) (m:Ml):Sto:=if m.to < S.n then nodeS S m else hearS S (m.to - S.n) m.fr m.l
open Classical in
def cl0:Cl:=⟨false,false,false,false,0,0,0,⟨⟨0,0⟩,0⟩,[]⟩
def sto0 (n k ask tell:Nat) (back:Bool):Sto:=⟨n,k,ask,tell,back,fun _ _=>true,[],fun _ _=>hd0,fun _=>cl0,[]⟩
def numB (n:Int):Bool:=decide (-1000000≤n∧n≤1000000)
def kindB (n:Int):Bool:=decide (1≤n∧n≤12)
def eightB (n:Int):Bool:=decide (0≤n∧n < 8)
def inB (p k a b r:Int):Bool:=eightB p&&eightB k&&numB a&&numB b&&numB r
def faultN (p t k d a b r:Int):Int:=
 if inB p k a b r then (if decide (1≤t∧t≤4)&&kindB d then (if decide (r=0∨t=2) then 0 else 1) else 1) else 2
structure Opn where
 p:Int
 k:Int
 d:Int
 a:Int
 b:Int
 r:Int
 c:Int
 e:Int
def beforeB (x y:Opn):Bool:=decide (0≤x.e)&&decide (x.e < y.c)
def hasB (x:Opn) (t:Int):Bool:=x.c==t||x.e==t
def shareB (x y:Opn):Bool:=hasB x y.c||(y.e != -1&&hasB x y.e)
def clashB (x y:Opn):Bool:=x.p==y.p&& !beforeB x y
def rangeB (x:Opn):Bool:=inB x.p x.k x.a x.b x.r&&numB x.c&&numB x.e
def lastOk (l:List Opn) (x:Opn):Bool:=match l.getLast? with
 | none=>true
 | some y=>decide (y.c < x.c)
def orderB (l:List Opn) (x:Opn):Bool:=decide (0≤x.c)&&lastOk l x&&(if x.e= -1 then x.r==0 else decide (x.c < x.e))
def opFaultN (l:List Opn) (x:Opn):Int:=
 if rangeB x then (if kindB x.d then (if orderB l x then (if l.any (fun y=>shareB y x) then 9 else if l.any (fun y=>clashB y x) then 6 else 0) else 10) else 1) else 2
def Told (l:List Opn) (n:Int):Prop:=
 (40 < l.length∧n=4)∨(l.length≤40∧(∀j,(h:j < l.length)→opFaultN (l.take j) l[j]=0)∧n=0)∨
 (l.length≤40∧∃k,∃h:k < l.length,(∀j,(hj:j < k)→opFaultN (l.take j) (l[j]'(Nat.lt_trans hj h))=0)∧opFaultN (l.take k) l[k]≠0∧n=opFaultN (l.take k) l[k])
theorem told_one {l:List Opn} {n m:Int} (h1:Told l n) (h2:Told l m):n=m:=by
 rcases h1 with ⟨a,rfl⟩ | ⟨a,g,rfl⟩ | ⟨a,k,hk,g,hne,rfl⟩
 ·rcases h2 with ⟨_,rfl⟩ | ⟨b,_⟩ | ⟨b,_⟩
  ·rfl
  ·omega
  ·omega
 ·rcases h2 with ⟨b,_⟩ | ⟨_,_,rfl⟩ | ⟨_,k,hk,_,hne,rfl⟩
  ·omega
  ·rfl
  ·exact absurd (g k hk) hne
 ·rcases h2 with ⟨b,_⟩ | ⟨_,g',rfl⟩ | ⟨_,k',hk',g',hne',rfl⟩
  ·omega
  ·exact absurd (g' k hk) hne
  ·rcases Nat.lt_trichotomy k k' with h | h | h
   ·exact absurd (g' k h) hne
   ·subst h;rfl
   ·exact absurd (g k' h) hne'
open Go.RowKit
set_option maxHeartbeats 400000 in
theorem isNumber_any (n:Int) (w:World):
  Calls Tryz.prog 171 #[.int .i64 n] w fun e w'=>e=.returned (.bool (numB n))∧w'=w:=by
 by_cases h1: -1000000≤n
 ·by_cases h2:n≤1000000
  ·have e:numB n=true:=by simp[numB,h1,h2]
   rw[e];clear e;go_enter Tryz.func171,Tryz.ntmps171
   go_wp2;go_ret;exact⟨rfl,rfl⟩
  ·have e:numB n=false:=by simp[numB,h2]
   rw[e];clear e;go_enter Tryz.func171,Tryz.ntmps171
   go_wp2;go_ret;exact⟨rfl,rfl⟩
 ·have e:numB n=false:=by simp[numB,h1]
  rw[e];clear e;go_enter Tryz.func171,Tryz.ntmps171
  go_wp2;go_ret;exact⟨rfl,rfl⟩
set_option maxHeartbeats 400000 in
theorem isKind_any (n:Int) (w:World):
  Calls Tryz.prog 120 #[.int .i64 n] w fun e w'=>e=.returned (.bool (kindB n))∧w'=w:=by
 by_cases h1:1≤n
 ·by_cases h2:n≤12
  ·have e:kindB n=true:=by simp[kindB,h1,h2]
   rw[e];clear e;go_enter Tryz.func120,Tryz.ntmps120
   go_wp2;go_ret;exact⟨rfl,rfl⟩
  ·have e:kindB n=false:=by simp[kindB,h2]
   rw[e];clear e;go_enter Tryz.func120,Tryz.ntmps120
   go_wp2;go_ret;exact⟨rfl,rfl⟩
 ·have e:kindB n=false:=by simp[kindB,h1]
  rw[e];clear e;go_enter Tryz.func120,Tryz.ntmps120
  go_wp2;go_ret;exact⟨rfl,rfl⟩
set_option maxHeartbeats 1000000 in
theorem inBounds_any (p k a b r:Int) (w:World):
  Calls Tryz.prog 119 #[.int .i64 p,.int .i64 k,.int .i64 a,.int .i64 b,.int .i64 r] w fun e w'=>e=.returned (.bool (inB p k a b r))∧w'=w:=by
 by_cases h1:0≤p
 ·by_cases h2:p < 8
  ·by_cases h3:0≤k
   ·by_cases h4:k < 8
    ·have e:inB p k a b r=(numB a&&numB b&&numB r):=by simp[inB,eightB,h1,h2,h3,h4]
     rw[e];clear e;go_enter Tryz.func119,Tryz.ntmps119
     go_wp2_with (go_at_call 171;refine(isNumber_any _ _).mono ?_;rintro e w' ⟨rfl,rfl⟩)
     all_goals (go_ret;exact⟨by simp_all,rfl⟩)
    ·have e:inB p k a b r=false:=by simp[inB,eightB,h4]
     rw[e];clear e;go_enter Tryz.func119,Tryz.ntmps119
     go_wp2;go_ret;exact⟨rfl,rfl⟩
   ·have e:inB p k a b r=false:=by simp[inB,eightB,h3]
    rw[e];clear e;go_enter Tryz.func119,Tryz.ntmps119
    go_wp2;go_ret;exact⟨rfl,rfl⟩
  ·have e:inB p k a b r=false:=by simp[inB,eightB,h2]
   rw[e];clear e;go_enter Tryz.func119,Tryz.ntmps119
   go_wp2;go_ret;exact⟨rfl,rfl⟩
 ·have e:inB p k a b r=false:=by simp[inB,eightB,h1]
  rw[e];clear e;go_enter Tryz.func119,Tryz.ntmps119
  go_wp2;go_ret;exact⟨rfl,rfl⟩
open Go.RowKit
def toldV (n:Int):Value:=if n=0 then .nilIface else .iface 55 (.int .i64 n)
open Go.RowKit
structure Ev where
 p:Int
 t:Int
 k:Int
 d:Int
 a:Int
 b:Int
 r:Int
def EvAt (w:World) (b off:Nat) (e:Ev):Prop:=
 w.cell? ⟨b,off,none⟩=some (.int .i64 e.p)∧w.cell? ⟨b,off+1,none⟩=some (.int .i64 e.t)∧w.cell? ⟨b,off+2,none⟩=some (.int .i64 e.k)∧w.cell? ⟨b,off+3,none⟩=some (.int .i64 e.d)∧w.cell? ⟨b,off+4,none⟩=some (.int .i64 e.a)∧w.cell? ⟨b,off+5,none⟩=some (.int .i64 e.b)∧w.cell? ⟨b,off+6,none⟩=some (.int .i64 e.r)
def EvsAt (w:World) (b off:Nat) (l:List Ev):Prop:=∀i,(h:i < l.length)→EvAt w b (off+i*7) l[i]
theorem EvAt.below {w w':World} {B b off:Nat} {e:Ev} (h:EvAt w b off e) (hb:b < B) (hn:Below B w w'):EvAt w' b off e:=by
 obtain⟨h0,h1,h2,h3,h4,h5,h6⟩:=h;exact⟨(hn.cell (p:=⟨b,off,none⟩) hb).trans h0,(hn.cell (p:=⟨b,off+1,none⟩) hb).trans h1,(hn.cell (p:=⟨b,off+2,none⟩) hb).trans h2,(hn.cell (p:=⟨b,off+3,none⟩) hb).trans h3,(hn.cell (p:=⟨b,off+4,none⟩) hb).trans h4,(hn.cell (p:=⟨b,off+5,none⟩) hb).trans h5,(hn.cell (p:=⟨b,off+6,none⟩) hb).trans h6⟩
def Ev.fault (e:Ev):Int:=faultN e.p e.t e.k e.d e.a e.b e.r
def Ev.op (e:Ev) (n:Int):Opn:=⟨e.p,e.k,e.d,e.a,e.b,0,n,-1⟩
structure Hs where
 busy:Int→Option Opn
 lost:Int→Bool
 done:List Opn
def Hs.new:Hs:=⟨fun _=>none,fun _=>false,[]⟩
def setO (f:Int→Option Opn) (p:Int) (v:Option Opn):Int→Option Opn:=fun q=>if q=p then v else f q
def setB (f:Int→Bool) (p:Int) (v:Bool):Int→Bool:=fun q=>if q=p then v else f q
def sameB (o:Opn) (e:Ev):Bool:=o.k==e.k&&o.d==e.d&&o.a==e.a&&o.b==e.b
def endO (o:Opn) (r n:Int):Opn:=⟨o.p,o.k,o.d,o.a,o.b,r,o.c,n⟩
def seeN (e:Ev) (s:Hs):Int:=
 if e.fault≠0 then e.fault
 else if e.t=1 then (if (s.busy e.p).isSome||s.lost e.p then 6 else 0)
 else match s.busy e.p with
  | none=>12
  | some o=>if sameB o e then 0 else 12
def seeS (n:Int) (e:Ev) (s:Hs):Hs:=
 if e.t=1 then⟨setO s.busy e.p (some (e.op n)),s.lost,s.done⟩
 else match s.busy e.p with
  | none=>s
  | some o=>
   if e.t=2 then⟨setO s.busy e.p none,s.lost,s.done++ [endO o e.r n]⟩
   else if e.t=4 then⟨setO s.busy e.p none,setB s.lost e.p true,s.done++ [o]⟩
   else⟨setO s.busy e.p none,s.lost,s.done⟩
def hist (l:List Ev):Nat→Hs
 | 0=>Hs.new
 | n+1=>match l[n]? with
  | some e=>seeS n e (hist l n)
  | none=>hist l n
def FineH (l:List Ev) (n:Nat):Prop:=∀i,(h:i < l.length)→i < n→seeN l[i] (hist l i)=0
def Apart (x y:Opn):Prop:=
 x.c≠y.c∧x.c≠y.e∧x.e≠y.c∧(x.e= -1∨x.e≠y.e)∧(x.p=y.p→beforeB x y=true∨beforeB y x=true)
theorem Apart.symm {x y:Opn} (h:Apart x y):Apart y x:=by
 obtain⟨h1,h2,h3,h4,h5⟩:=h;exact⟨Ne.symm h1,Ne.symm h3,Ne.symm h2,by
  rcases h4 with h | h
  ·by_cases e:y.e= -1
   ·exact .inl e
   ·exact .inr (fun k=>e (k.trans h))
  ·exact .inr (Ne.symm h),fun e=>(h5 e.symm).symm⟩
structure Good (l : List Ev) (n : Nat) (x : Opn) : Prop where
 lo:0≤x.c
 hi:x.c < n
 ret:x.e < n
 fit:(x.e= -1∧x.r=0)∨x.c < x.e
 num:numB x.r=true
 made:∃(i:Nat) (h:i < l.length),x.c=i∧l[i].t=1∧l[i].fault=0∧l[i].p=x.p∧l[i].k=x.k∧l[i].d=x.d∧l[i].a=x.a∧l[i].b=x.b
theorem Good.mono {l:List Ev} {n m:Nat} {x:Opn} (h:Good l n x) (hm:n≤m):Good l m x:=
 ⟨h.lo,by have:=h.hi;omega,by have:=h.ret;omega,h.fit,h.num,h.made⟩
structure Inv (l : List Ev) (n : Nat) (s : Hs) : Prop where
 good:∀x∈s.done,Good l n x
 goodB:∀p o,s.busy p=some o→Good l n o∧o.p=p∧o.e= -1∧o.r=0
 apart:s.done.Pairwise Apart
 apartB:∀x∈s.done,∀p o,s.busy p=some o→Apart x o
 apartBB:∀p q o o',p≠q→s.busy p=some o→s.busy q=some o'→Apart o o'
 lostB:∀p,s.lost p=true→s.busy p=none
 open1 : ∀ x ∈ s.done, x.e = -1 → s.lost x.p = true
theorem inv_new (l:List Ev):Inv l 0 Hs.new where
 good x h:=by simp[Hs.new] at h
 goodB p o h:=by simp[Hs.new] at h
 apart:=by simp[Hs.new]
 apartB x h:=by simp[Hs.new] at h
 apartBB p q o o' _ h:=by simp[Hs.new] at h
 lostB p h:=by simp[Hs.new] at h
 open1 x h := by simp [Hs.new] at h
theorem setO_same (f:Int→Option Opn) (p:Int) (v:Option Opn):setO f p v p=v:=by simp[setO]
theorem setO_other (f:Int→Option Opn) (p q:Int) (v:Option Opn) (h:q≠p):setO f p v q=f q:=by simp[setO,h]
theorem apart_new {l:List Ev} {n:Nat} {x:Opn} (e:Ev) (h:Good l n x) (hp:x.p=e.p→x.e≠ -1):Apart x (e.op n):=by
 have h1:=h.lo;have h2:=h.hi;have h3:=h.ret;have h4:=h.fit;refine⟨?_,?_,?_,?_,?_⟩
 ·show x.c≠(n:Int);omega
 ·show x.c≠(-1:Int);omega
 ·show x.e≠(n:Int);omega
 ·by_cases k:x.e= -1
  ·exact .inl k
  ·exact .inr k
 ·intro k;have hne:=hp k
  left
  show (decide (0≤x.e)&&decide (x.e < (n:Int)))=true;have g1:0≤x.e:=by omega
  have g2:x.e < (n:Int):=h3;simp[g1,g2]
theorem fault_parts {e:Ev} (h:e.fault=0):inB e.p e.k e.a e.b e.r=true∧1≤e.t∧e.t≤4∧kindB e.d=true∧(e.r=0∨e.t=2):=by
 unfold Ev.fault faultN at h;cases h1:inB e.p e.k e.a e.b e.r
 ·rw[h1] at h;simp at h
 ·rw[h1] at h;cases h2:(decide (1≤e.t∧e.t≤4)&&kindB e.d)
  ·rw[h2] at h;simp at h
  ·rw[h2] at h;by_cases h3:e.r=0∨e.t=2
   ·simp at h2;exact⟨rfl,h2.1.1,h2.1.2,h2.2,h3⟩
   ·simp[h3] at h
theorem inB_num {p k a b r:Int} (h:inB p k a b r=true):numB r=true:=by
 simp[inB] at h;exact h.2
theorem num_zero:numB 0=true:=rfl
theorem inv_begin {l:List Ev} {n:Nat} {s:Hs} (I:Inv l n s) (h:n < l.length) (ht:l[n].t=1) (hf:l[n].fault=0) (_hb:s.busy l[n].p=none) (hl:s.lost l[n].p=false):
  Inv l (n+1) ⟨setO s.busy l[n].p (some (l[n].op n)),s.lost,s.done⟩:=by
 have gnew:Good l (n+1) (l[n].op n):=⟨by show (0:Int)≤n;omega,by show (n:Int) < (n+1:Nat);omega,by show (-1:Int) < (n+1:Nat);omega,.inl ⟨rfl,rfl⟩,num_zero,⟨n,h,rfl,ht,hf,rfl,rfl,rfl,rfl,rfl⟩⟩;refine⟨fun x hx=>(I.good x hx).mono (by omega),?_,I.apart,?_,?_,?_,I.open1⟩
 ·intro p o ho;dsimp only at ho;by_cases e:p=l[n].p
  ·subst e;rw[setO_same] at ho;obtain rfl:=Option.some.inj ho;exact⟨gnew,rfl,rfl,rfl⟩
  ·rw[setO_other _ _ _ _ e] at ho;obtain⟨g,r⟩:=I.goodB p o ho;exact⟨g.mono (by omega),r⟩
 ·intro x hx p o ho;dsimp only at ho;by_cases e:p=l[n].p
  ·subst e;rw[setO_same] at ho;obtain rfl:=Option.some.inj ho;exact apart_new l[n] (I.good x hx) (fun k hk=>by have:=I.open1 x hx hk;rw[k,hl] at this;exact absurd this (by decide))
  ·rw[setO_other _ _ _ _ e] at ho;exact I.apartB x hx p o ho
 ·have key:∀q o',q≠l[n].p→s.busy q=some o'→Apart o' (l[n].op n):=fun q o' hq ho'=>by
   obtain⟨g,r,_⟩:=I.goodB q o' ho';exact apart_new l[n] g (fun k=>absurd (r.symm.trans k) hq)
  intro p q o o' hpq ho ho';dsimp only at ho ho';by_cases e:p=l[n].p
  ·subst e;rw[setO_same] at ho;obtain rfl:=Option.some.inj ho;rw[setO_other _ _ _ _ (Ne.symm hpq)] at ho';exact(key q o' (Ne.symm hpq) ho').symm
  ·rw[setO_other _ _ _ _ e] at ho;by_cases e':q=l[n].p
   ·subst e';rw[setO_same] at ho';obtain rfl:=Option.some.inj ho';exact key p o e ho
   ·rw[setO_other _ _ _ _ e'] at ho';exact I.apartBB p q o o' hpq ho ho'
 ·intro p hp;by_cases e:p=l[n].p
  ·subst e;rw[hl] at hp;exact absurd hp (by decide)
  ·show setO s.busy l[n].p _ p=none;rw[setO_other _ _ _ _ e];exact I.lostB p hp
theorem apart_end {l:List Ev} {n:Nat} {x o:Opn} (r:Int) (h:Apart x o) (hx:Good l n x) (ho:o.e= -1) (_hc:0≤o.c):Apart x (endO o r n):=by
 obtain⟨h1,h2,h3,h4,h5⟩:=h;have g1:=hx.hi;have g2:=hx.ret;have g3:=hx.lo;refine⟨h1,?_,h3,?_,?_⟩
 ·show x.c≠(n:Int);omega
 ·right;show x.e≠(n:Int);omega
 ·intro k;rcases h5 k with h | h
  ·exact .inl h
  ·exfalso
   simp[beforeB,ho] at h
theorem inv_end {l:List Ev} {n:Nat} {s:Hs} {o:Opn} (I:Inv l n s) (h:n < l.length) (hf:l[n].fault=0) (ho:s.busy l[n].p=some o) (lost:Int→Bool) (add:List Opn)
  (hadd:(add= []∧lost=s.lost)∨(add= [endO o l[n].r n]∧lost=s.lost)∨(add= [o]∧lost=setB s.lost l[n].p true)):
  Inv l (n+1) ⟨setO s.busy l[n].p none,lost,s.done++add⟩:=by
 obtain⟨go,gp,ge,gr⟩:=I.goodB _ _ ho;have hback:∀p o',setO s.busy l[n].p none p=some o'→s.busy p=some o'∧p≠l[n].p:=fun p o' h=>by
  by_cases e:p=l[n].p
  ·subst e;rw[setO_same] at h;cases h
  ·rw[setO_other _ _ _ _ e] at h;exact⟨h,e⟩
 have gend:Good l (n+1) (endO o l[n].r n):=⟨go.lo,by have:=go.hi;show o.c < _;omega,by show (n:Int) < (n+1:Nat);omega,.inr (by have:=go.hi;show o.c < (n:Int);omega),inB_num (fault_parts hf).1,go.made⟩;have gadd:∀x∈add,Good l (n+1) x∧(∀y,Good l n y→Apart y o→Apart y x)∧(x.e= -1→lost x.p=true):=by
  intro x hx;rcases hadd with ⟨rfl,rfl⟩ | ⟨rfl,rfl⟩ | ⟨rfl,rfl⟩
  ·simp at hx
  ·simp at hx;subst hx;refine⟨gend,fun y gy ay=>apart_end _ ay gy ge go.lo,fun k=>?_⟩
   exfalso
   have k':(n:Int)= -1:=k;omega
  ·simp at hx;subst hx;exact⟨go.mono (by omega),fun y _ ay=>ay,fun _=>by simp[setB,gp]⟩
 have hlost:∀p,p≠l[n].p→lost p=s.lost p:=fun p hp=>by
  rcases hadd with ⟨_,rfl⟩ | ⟨_,rfl⟩ | ⟨_,rfl⟩
  ·rfl
  ·rfl
  ·simp[setB,hp]
 have hmore:∀p,s.lost p=true→lost p=true:=fun p hp=>by
  rcases hadd with ⟨_,rfl⟩ | ⟨_,rfl⟩ | ⟨_,rfl⟩
  ·exact hp
  ·exact hp
  ·by_cases e:p=l[n].p<;>simp[setB,e,hp]
 refine⟨?_,?_,?_,?_,?_,?_,?_⟩
 ·intro x hx;rcases List.mem_append.1 hx with hx | hx
  ·exact(I.good x hx).mono (by omega)
  ·exact(gadd x hx).1
 ·intro p o' h;obtain⟨g,r⟩:=I.goodB p o' (hback p o' h).1;exact⟨g.mono (by omega),r⟩
 ·refine List.pairwise_append.2 ⟨I.apart,?_,?_⟩
  ·rcases hadd with ⟨rfl,_⟩ | ⟨rfl,_⟩ | ⟨rfl,_⟩<;>simp
  ·intro x hx y hy;exact(gadd y hy).2.1 x (I.good x hx) (I.apartB x hx _ _ ho)
 ·intro x hx p o' h;obtain⟨h1,h2⟩:=hback p o' h;rcases List.mem_append.1 hx with hx | hx
  ·exact I.apartB x hx p o' h1
  ·exact((gadd x hx).2.1 o' (I.goodB p o' h1).1 (I.apartBB p _ o' o h2 h1 ho)).symm
 ·intro p q a b hpq ha hb;exact I.apartBB p q a b hpq (hback p a ha).1 (hback q b hb).1
 ·intro p hp;by_cases e:p=l[n].p
  ·subst e;exact setO_same _ _ _
  ·show setO s.busy l[n].p none p=none;rw[setO_other _ _ _ _ e];exact I.lostB p (by rw[←hlost p e];exact hp)
 ·intro x hx k;rcases List.mem_append.1 hx with hx | hx
  ·exact hmore _ (I.open1 x hx k)
  ·exact(gadd x hx).2.2 k
theorem inv_see {l:List Ev} {n:Nat} {s:Hs} (I:Inv l n s) (h:n < l.length) (hz:seeN l[n] s=0):Inv l (n+1) (seeS n l[n] s):=by
 unfold seeN at hz;by_cases hf:l[n].fault=0
 ·rw[if_neg (by simpa using hf)] at hz;unfold seeS;by_cases ht:l[n].t=1
  ·rw[if_pos ht] at hz;rw[if_pos ht];cases hb:s.busy l[n].p with
   | some o=>rw[hb] at hz;simp at hz
   | none=>
    cases hl:s.lost l[n].p
    ·exact inv_begin I h ht hf hb hl
    ·rw[hb,hl] at hz;simp at hz
  ·rw[if_neg ht] at hz;rw[if_neg ht];cases hb:s.busy l[n].p with
   | none=>rw[hb] at hz;simp at hz
   | some o=>
    show Inv l (n+1) (if l[n].t=2 then _ else if l[n].t=4 then _ else _);by_cases h2:l[n].t=2
    ·rw[if_pos h2];exact inv_end I h hf hb _ _ (.inr (.inl ⟨rfl,rfl⟩))
    ·rw[if_neg h2];by_cases h4:l[n].t=4
     ·rw[if_pos h4];exact inv_end I h hf hb _ _ (.inr (.inr ⟨rfl,rfl⟩))
     ·rw[if_neg h4];have:=inv_end I h hf hb s.lost [] (.inl ⟨rfl,rfl⟩)
      rwa [List.append_nil] at this
 ·rw[if_pos (by simpa using hf)] at hz;exact absurd hz hf
theorem hist_succ (l:List Ev) (n:Nat) (h:n < l.length):hist l (n+1)=seeS n l[n] (hist l n):=by
 show (match l[n]? with | some e=>seeS n e (hist l n) | none=>hist l n)=_;rw[List.getElem?_eq_getElem h]
theorem inv_hist (l:List Ev) (n:Nat) (hn:n≤l.length) (hf:FineH l n):Inv l n (hist l n):=by
 induction n with
 | zero=>exact inv_new l
 | succ n ih=>
  rw[hist_succ l n (by omega)];exact inv_see (ih (by omega) (fun i h hi=>hf i h (by omega))) (by omega) (hf n (by omega) (by omega))
def OpsOf (s:Hs) (L:List Opn):Prop:=
 ∃qs:List Int,qs.Nodup∧(∀q,q∈qs↔(s.busy q).isSome=true)∧L.Perm (s.done++qs.filterMap s.busy)∧L.Pairwise (fun x y=>x.c≤y.c)
theorem mem_pending {s:Hs} {qs:List Int} {x:Opn} (h:x∈qs.filterMap s.busy):∃p,s.busy p=some x:=by
 obtain⟨p,_,hp⟩:=List.mem_filterMap.1 h;exact⟨p,hp⟩
theorem opsOf_apart {l:List Ev} {n:Nat} {s:Hs} {L:List Opn} (I:Inv l n s) (h:OpsOf s L):L.Pairwise Apart:=by
 obtain⟨qs,hn,_,hp,_⟩:=h;refine(hp.pairwise_iff (fun {_ _} h=>h.symm)).2 (List.pairwise_append.2 ⟨I.apart,?_,?_⟩)
 ·refine List.pairwise_filterMap.2 (List.Pairwise.imp ?_ hn);intro p q hpq x hx y hy;exact I.apartBB p q x y hpq hx hy
 ·intro x hx y hy;obtain⟨p,hp⟩:=mem_pending hy;exact I.apartB x hx p y hp
theorem opsOf_rising {l:List Ev} {n:Nat} {s:Hs} {L:List Opn} (I:Inv l n s) (h:OpsOf s L):L.Pairwise (fun x y=>x.c < y.c∧Apart x y):=by
 have h1:=opsOf_apart I h;obtain⟨qs,_,_,_,hs⟩:=h;refine(List.pairwise_and_iff.2 ⟨hs,h1⟩).imp ?_;intro x y ⟨a,b⟩;exact⟨by have:=b.1;omega,b⟩
def linkedB (what n who a b:Int):Bool:=
 if a=b then true
 else if what=0 then true
 else if what=1 then decide (a < n / 2)==decide (b < n / 2)
 else if what=2 then (decide (a < n / 2)==decide (b < n / 2))||decide (a=n / 2)||decide (b=n / 2)
 else if what=3 then decide (min (if a - b < 0 then -(a - b) else a - b) (n - (if a - b < 0 then -(a - b) else a - b))≤(n / 2+1) / 2)
 else decide (a≠who)&&decide (b≠who)
def asNode (n:Nat) (i:Int):Int:=if (n:Int)≤i then (i - n)%n else i
def cutL (n k:Nat) (what who:Int):Int→Int→Bool:=fun a b=>decide (0≤a∧a < n+k)&&decide (0≤b∧b < n+k)&&linkedB what n who (asNode n a) (asNode n b)
def busyN (S:Sto):Nat:=(List.range S.k).countP fun (j:Nat)=>(S.cl j).busy
def freeE (S:Sto) (c:Int):Int:=
 if c < 0∨(S.k:Int)≤c then 2
 else if (S.cl c).busy=true∨(S.cl c).gone=true then 6
 else if 120 < S.seen.length+2+busyN S then 4 else 0
def beginE (S:Sto) (c key:Int) (write:Bool) (value:Int):Int:=
 if key < 0∨7 < key∨numB value=false∨(value≠0∧write=false) then 2 else freeE S c
def giveE (S:Sto) (c:Int):Int:=if c < 0∨(S.k:Int)≤c then 2 else if (S.cl c).busy=false then 6 else 0
def takeE (S:Sto) (i:Int):Int:=if i < 0∨(S.mails.length:Int)≤i then 8 else match S.mails[i.toNat]? with
 | none=>8
 | some m=>if S.links m.fr m.to=true then 0 else 6
def delivS (S:Sto) (i:Int):Sto:=match S.mails[i.toNat]? with
 | none=>S
 | some m=>takeS {S with mails:=S.mails.eraseIdx i.toNat} m
def dropE (S:Sto) (i:Int):Int:=if i < 0∨(S.mails.length:Int)≤i then 8 else 0
def doubE (S:Sto) (i:Int):Int:=if i < 0∨(S.mails.length:Int)≤i then 8 else if 500≤S.mails.length then 4 else 0
def doubS (S:Sto) (i:Int):Sto:=match S.mails[i.toNat]? with
 | none=>S
 | some m=> {S with mails:=sendL S.mails m}
def cutE (S:Sto) (what n who:Int):Int:=if n < 1∨7 < n then 4 else if what=4∧(who < 0∨n≤who) then 2 else if n≠S.n then 3 else 0
def ruleOf (m:Mvs):Int:=if 7≤m.what∧m.what≤10 then m.what - 7 else 4
def playE (S:Sto) (m:Mvs):Int:=
 if m.what=0 then beginE S m.a m.b false m.c
 else if m.what=1 then beginE S m.a m.b true m.c
 else if m.what=2 then takeE S m.a
 else if m.what=3 then dropE S m.a
 else if m.what=4 then doubE S m.a
 else if m.what=5 then giveE S m.a
 else if m.what=6 then 0
 else cutE S (ruleOf m) m.a m.b
def playS (S:Sto) (m:Mvs):Sto:=
 if playE S m≠0 then S
 else if m.what=0 then beginS S m.a m.b false m.c
 else if m.what=1 then beginS S m.a m.b true m.c
 else if m.what=2 then delivS S m.a
 else if m.what=3 then {S with mails:=S.mails.eraseIdx m.a.toNat}
 else if m.what=4 then doubS S m.a
 else if m.what=5 then giveS S m.a
 else if m.what=6 then {S with links:=fun _ _=>true}
 else {S with links:=cutL S.n S.k (ruleOf m) m.b}
def runS (S:Sto) (l:List Mvs):Sto:=l.foldl playS S
open Go.RowKit
theorem belJ {w W w1:World} (h:Below w.heap.size w W) (hb:Below W.heap.size W w1):Below w.heap.size w w1:=h.trans (hb.mono h.size)
theorem belA {w W:World} (h:Below w.heap.size w W) (o:Obj):Below w.heap.size w (W.alloc o):=h.alloc h.size o
def Opn.agg (x:Opn):Value:=.agg #[.int .i64 x.p,.int .i64 x.k,.int .i64 x.d,.int .i64 x.a,.int .i64 x.b,.int .i64 x.r,.int .i64 x.c,.int .i64 x.e]
def Opn.obj (x:Opn):Obj:=.cells #[.int .i64 x.p,.int .i64 x.k,.int .i64 x.d,.int .i64 x.a,.int .i64 x.b,.int .i64 x.r,.int .i64 x.c,.int .i64 x.e] 157
set_option maxHeartbeats 400000 in
theorem before_any (x y:Opn) (w:World):Calls Tryz.prog 86 #[x.agg,y.agg] w fun e w'=>e=.returned (.bool (beforeB x y))∧Below w.heap.size w w':=by
 unfold Opn.agg;by_cases h1:0≤x.e
 ·by_cases h2:x.e < y.c
  ·have e:beforeB x y=true:=by simp[beforeB,h1,h2]
   rw[e];clear e;go_enter Tryz.func86,Tryz.ntmps86
   go_wp2;go_ret;exact⟨rfl,belA (belA (Below.refl _ _) _) _⟩
  ·have e:beforeB x y=false:=by simp[beforeB,h2]
   rw[e];clear e;go_enter Tryz.func86,Tryz.ntmps86
   go_wp2;go_ret;exact⟨rfl,belA (belA (Below.refl _ _) _) _⟩
 ·have e:beforeB x y=false:=by simp[beforeB,h1]
  rw[e];clear e;go_enter Tryz.func86,Tryz.ntmps86
  go_wp2;go_ret;exact⟨rfl,belA (belA (Below.refl _ _) _) _⟩
set_option maxHeartbeats 400000 in
theorem hasTime_any (x:Opn) (t:Int) (w:World):Calls Tryz.prog 245 #[x.agg,.int .i64 t] w fun e w'=>e=.returned (.bool (hasB x t))∧w'=w.alloc x.obj:=by
 unfold Opn.agg Opn.obj;cases h1:x.c==t
 ·cases h2:x.e==t
  ·have e:hasB x t=false:=by simp[hasB,h1,h2]
   rw[e];clear e;go_enter Tryz.func245,Tryz.ntmps245
   go_wp2;go_ret;exact⟨rfl,rfl⟩
  ·have e:hasB x t=true:=by simp[hasB,h1,h2]
   rw[e];clear e;go_enter Tryz.func245,Tryz.ntmps245
   go_wp2;go_ret;exact⟨rfl,rfl⟩
 ·have e:hasB x t=true:=by simp[hasB,h1]
  rw[e];clear e;go_enter Tryz.func245,Tryz.ntmps245
  go_wp2;go_ret;exact⟨rfl,rfl⟩
set_option maxHeartbeats 400000 in
theorem share_any (x y:Opn) (w:World):Calls Tryz.prog 202 #[x.agg,y.agg] w fun e w'=>e=.returned (.bool (shareB x y))∧Below w.heap.size w w':=by
 cases h1:hasB x y.c
 ·cases h2:y.e != -1
  ·have e:shareB x y=false:=by simp[shareB,h1,h2]
   rw[e];clear e;have H1:Hid (hasB x y.c=false):=h1;clear h1;unfold Opn.agg;go_enter Tryz.func202,Tryz.ntmps202
   go_wp2_with fail
   refine(hasTime_any x y.c _).mono ?_;rw[H1.out];rintro e w1 ⟨rfl,rfl⟩;unfold Opn.obj;go_wp2;go_ret;exact⟨rfl,belA (belA (belA (Below.refl _ _) _) _) _⟩
  ·have e:shareB x y=hasB x y.e:=by simp[shareB,h1,h2]
   rw[e];clear e;have H1:Hid (hasB x y.c=false):=h1;clear h1;unfold Opn.agg;go_enter Tryz.func202,Tryz.ntmps202
   go_wp2_with fail
   refine(hasTime_any x y.c _).mono ?_;rw[H1.out];rintro e w1 ⟨rfl,rfl⟩;unfold Opn.obj;go_wp2_with fail
   refine(hasTime_any x y.e _).mono ?_;rintro e w1 ⟨rfl,rfl⟩;unfold Opn.obj;go_wp2;go_ret;exact⟨rfl,belA (belA (belA (belA (Below.refl _ _) _) _) _) _⟩
 ·have e:shareB x y=true:=by simp[shareB,h1]
  rw[e];clear e;have H1:Hid (hasB x y.c=true):=h1;clear h1;unfold Opn.agg;go_enter Tryz.func202,Tryz.ntmps202
  go_wp2_with fail
  refine(hasTime_any x y.c _).mono ?_;rw[H1.out];rintro e w1 ⟨rfl,rfl⟩;unfold Opn.obj;go_wp2;go_ret;exact⟨rfl,belA (belA (belA (Below.refl _ _) _) _) _⟩
end Go.Proofs.YtjpklmighoondaaGreatDoor
