/-
  Short names of laws that the walks use often.
  Chapter 17 in plain Lean: registers by quorums; what is kept whatever is moved.
  Chapter 17 in plain Lean: what is kept by every move of registers by quorums that meet.
  Chapter 17 in plain Lean: registers by quorums that meet: each move keeps what is kept.
-/
import Derived.OrdersHeld
import Derived.ProofKit
namespace Go.Proofs.YtjpklmighoondaaGreatDoor
theorem p1 {α:Type _} (l:List α) (i:Nat) (a:α):l.toArray.setIfInBounds i a=(l.set i a).toArray:=List.setIfInBounds_toArray l i a
theorem p2 {α:Type _} {x:α} {xs:List α} {a:α} :(x::xs).set 0 a=a::xs:=rfl
theorem p3 {α:Type _} {x:α} {xs:List α} {i:Nat} {a:α} :(x::xs).set (i+1) a=x::xs.set i a:=rfl
theorem p4 {α:Type _} {xs:List α} {i:Nat} (h:i < xs.toArray.size):xs.toArray[i]=xs[i]'(by simpa using h):=List.getElem_toArray h
theorem p5 {α:Type _} (a:α) (l:List α) (h:0 < (a::l).length):(a::l)[0]=a:=rfl
theorem p6 {α:Type _} (a:α) (l:List α) (i:Nat) (h:i+1 < (a::l).length):(a::l)[i+1]=l[i]'(Nat.lt_of_succ_lt_succ h):=rfl
theorem tkH {P:Program} {ops:Array Oper} {Q:Exit→Act→World→Prop} {md:Region.Mode} {S:World→Prop} (i:Nat) {oi:Oper} (v:Value) {fuel:Nat} {listed:Array Bool} {a:Act} {w:World} (hi:ops[i]?=some oi)
  (hy:∀w,S w→(execOp a.eval oi).run P w=.ok (.value v) w) (h:wpAnyH P md ops Q S fuel (listed.setIfInBounds i true) (a.put oi.dst v) w)
  (hs:Region.noSelect ops=true:=by kernel_rfl) (hf:Region.free md ops listed i=true:=by kernel_rfl) (hr:(Region.ready md ops listed).contains i=true:=by kernel_rfl)
  (hw:Region.wanted oi (yielded ops a.tmps)=true:=by rfl) (hQ:∀c a w,Q (.panic c) (a.put oi.dst v) w→Q (.panic c) a w:=by exact fun _ _ _ h=>h) (hS:S w:=by assumption):wpAnyH P md ops Q S (fuel+1) listed a w:=
 wpAnyH_take hi hs hf hr hQ (Or.inl ⟨hw,hy⟩) hS h
structure Smp where
 t:Int
 c:Int
def Smp.le (a b:Smp):Prop:=a.t < b.t∨(a.t=b.t∧a.c≤b.c)
def Smp.lt (a b:Smp):Prop:=a.t < b.t∨(a.t=b.t∧a.c < b.c)
instance (a b:Smp):Decidable (a.le b):=by unfold Smp.le;infer_instance
instance (a b:Smp):Decidable (a.lt b):=by unfold Smp.lt;infer_instance
theorem Smp.ext' {a b:Smp} (h1:a.t=b.t) (h2:a.c=b.c):a=b:=by cases a;cases b;simp at h1 h2;rw[h1,h2]
theorem Smp.le_refl (a:Smp):a.le a:=.inr ⟨rfl,Int.le_refl _⟩
theorem Smp.le_trans {a b c:Smp} (h:a.le b) (h':b.le c):a.le c:=by unfold Smp.le at*;omega
theorem Smp.lt_le {a b:Smp} (h:a.lt b):a.le b:=by unfold Smp.le Smp.lt at*;omega
theorem Smp.not_le {a b:Smp} :¬a.le b↔b.lt a:=by unfold Smp.le Smp.lt;omega
theorem Smp.not_lt {a b:Smp} :¬a.lt b↔b.le a:=by unfold Smp.le Smp.lt;omega
theorem Smp.lt_irrefl (a:Smp):¬a.lt a:=by unfold Smp.lt;omega
theorem Smp.lt_of_le_lt {a b c:Smp} (h:a.le b) (h':b.lt c):a.lt c:=by unfold Smp.le Smp.lt at*;omega
theorem Smp.anti {a b:Smp} (h:a.le b) (h':b.le a):a=b:=by unfold Smp.le at*;exact Smp.ext' (by omega) (by omega)
theorem Smp.eq_or_lt {a b:Smp} (h:a.le b):a=b∨a.lt b:=by
 by_cases e:b.le a
 ·exact .inl (Smp.anti h e)
 ·exact .inr (Smp.not_le.1 e)
structure Hd where
 s:Smp
 v:Int
structure Ltr where
 c:Int
 key:Int
 rd:Int
 tells:Bool
 h:Hd
structure Ml where
 fr:Int
 to:Int
 l:Ltr
structure Cl where
 busy:Bool
 gone:Bool
 write:Bool
 tells:Bool
 key:Int
 value:Int
 rd:Int
 kept:Hd
 cnt:List Int
structure Sn where
 proc:Int
 typ:Int
 key:Int
 write:Bool
 a:Int
 res:Int
 at_:Smp
structure Sto where
 n:Nat
 k:Nat
 ask:Nat
 tell:Nat
 back:Bool
 links:Int→Int→Bool
 mails:List Ml
 has:Int→Int→Hd
 cl:Int→Cl
 seen:List Sn
def updC (f:Int→Cl) (c:Int) (x:Cl):Int→Cl:=fun d=>if d=c then x else f d
theorem updC_same (f:Int→Cl) (c:Int) (x:Cl):updC f c x c=x:=if_pos rfl
theorem updC_ne (f:Int→Cl) {c d:Int} (x:Cl) (h:d≠c):updC f c x d=f d:=if_neg h
def hd0:Hd:=⟨⟨0,-1⟩,0⟩
def hdN:Hd:=⟨⟨-1,-1⟩,0⟩
def zeroS:Smp:=⟨0,0⟩
def sendL (l:List Ml) (m:Ml):List Ml:=if l.length < 500 then l++ [m] else l
def sendAll (l:List Ml) (n:Nat) (c:Int) (x:Cl):List Ml:=(List.range n).foldl (fun l (j:Nat)=>sendL l ⟨n+c,j,⟨c,x.key,x.rd,x.tells,x.kept⟩⟩) l
def roundC (x:Cl):Cl:= {x with rd:=x.rd+1,cnt:= []}
def roundS (S:Sto) (c:Int) (x:Cl):Sto:= {S with cl:=updC S.cl c (roundC x),mails:=sendAll S.mails S.n c (roundC x)}
def snOf (c:Int) (x:Cl) (typ res:Int) (at_:Smp):Sn:=⟨c,typ,x.key,x.write,if x.write then x.value else 0,res,at_⟩
def beginC (x:Cl) (key:Int) (write:Bool) (value:Int):Cl:= {x with busy:=true,write:=write,tells:=false,key:=key,value:=value,kept:=hdN}
def beginS (S:Sto) (c key:Int) (write:Bool) (value:Int):Sto:=
 roundS {S with seen:=S.seen++ [snOf c (beginC (S.cl c) key write value) 1 0 zeroS]} c (beginC (S.cl c) key write value)
def giveS (S:Sto) (c:Int):Sto:= {S with seen:=S.seen++ [snOf c (S.cl c) 4 0 zeroS],cl:=updC S.cl c {S.cl c with busy:=false,gone:=true}}
def nodeH (own:Hd) (l:Ltr):Hd:=if l.tells=true∧own.s.lt l.h.s then l.h else own
def updH (f:Int→Int→Hd) (j key:Int) (h:Hd):Int→Int→Hd:=fun a b=>if a=j∧b=key then h else f a b
def nodeS (S:Sto) (m:Ml):Sto:=
 {S with has:=updH S.has m.to m.l.key (nodeH (S.has m.to m.l.key) m.l),mails:=sendL S.mails ⟨m.to,m.fr,{m.l with h:=nodeH (S.has m.to m.l.key) m.l}⟩}
def countC (x:Cl) (node:Int) (h:Hd):Cl:= {x with cnt:=x.cnt++ [node],kept:=if x.tells=false∧x.kept.s.lt h.s then h else x.kept}
def tellC (c:Int) (x:Cl):Cl:= {x with kept:=if x.write then⟨⟨x.kept.s.t+1,c⟩,x.value⟩ else x.kept,tells:=true}
def doneS (S:Sto) (c:Int) (x:Cl):Sto:= {S with seen:=S.seen++ [snOf c x 2 (if x.write then 0 else x.kept.v) x.kept.s],cl:=updC S.cl c {x with busy:=false}}
def hearS (S:Sto) (c node:Int) (l:Ltr):Sto:=
 let x:=S.cl c
 if x.busy=true∧l.rd=x.rd∧node∉x.cnt then
  let y:=countC x node l.h
  if y.cnt.length < (if x.tells then S.tell else S.ask) then {S with cl:=updC S.cl c y}
  else if x.tells=false∧(x.write=true∨S.back=true) then roundS S c (tellC c y)
  else doneS S c y
 else S
def takeS (S:Sto) (m:Ml):Sto:=if m.to < S.n then nodeS S m else hearS S (m.to - S.n) m.fr m.l
structure Tw where
 key:Int
 s:Smp
 v:Int
 c:Int
 bg:Nat
structure Rc where
 bg:Nat
 ok:Nat
 c:Int
 key:Int
 write:Bool
 s:Smp
 v:Int
structure Gho where
 p:Int→Smp→Option Nat
 sn:Int→Int→Smp
 bg:Int→Nat
 T:List Tw
 R:List Rc
def quoB (n tell:Nat) (f:Int→Smp) (s:Smp):Prop:=tell≤(List.range n).countP fun (j:Nat)=>decide (s.le (f j))
theorem quoB.mono {n tell:Nat} {f g:Int→Smp} {s s':Smp} (h:quoB n tell f s) (hs:s'.le s) (hg:∀j,(f j).le (g j)):quoB n tell g s':=by
 refine Nat.le_trans h (List.countP_mono_left fun j _ hj=>?_);exact decide_eq_true (Smp.le_trans hs (Smp.le_trans (of_decide_eq_true hj) (hg j)))
def Sto.st (S:Sto) (key:Int):Int→Smp:=fun j=>(S.has j key).s
theorem nodup_len {α:Type} [DecidableEq α]:∀{l m:List α},l.Nodup→(∀x∈l,x∈m)→l.length≤m.length
 | [],_,_,_=>Nat.zero_le _
 | a::l,m,hn,hs=>by
  rw[List.nodup_cons] at hn;have h1:=nodup_len (m:=m.erase a) hn.2 fun x hx=>(List.mem_erase_of_ne (fun (e:x=a)=>hn.1 (by rw[←e];exact hx))).2 (hs x (List.mem_cons_of_mem _ hx))
  have h2:=List.length_erase_of_mem (hs a List.mem_cons_self);have h3:0 < m.length:=List.length_pos_of_mem (hs a List.mem_cons_self);simp only[List.length_cons];omega
theorem quo_meets {n tell ask:Nat} {f:Int→Smp} {s:Smp} {cnt:List Int} (h:quoB n tell f s) (hc:n < ask+tell) (hl:ask≤cnt.length) (hn:cnt.Nodup) (hin:∀j∈cnt,0≤j∧j < n):∃j∈cnt,s.le (f j):=by
 apply Classical.byContradiction
 intro hno;have hno':∀j∈cnt,¬s.le (f j):=fun j hj h=>hno ⟨j,hj,h⟩
 have hq:(List.range n).countP (fun (j:Nat)=>decide (s.le (f j)))=((List.range n).filter fun (j:Nat)=>decide (s.le (f j))).length:=List.countP_eq_length_filter;unfold quoB at h;rw[hq] at h;have hle:=nodup_len (l:=cnt++((List.range n).filter fun (j:Nat)=>decide (s.le (f j))).map (fun (j:Nat)=>(j:Int))) (m:=(List.range n).map (fun (j:Nat)=>(j:Int))) ?_ ?_
 ·simp at hle;omega
 ·rw[List.nodup_append];refine⟨hn,?_,?_⟩
  ·have hnd:((List.range n).filter fun (j:Nat)=>decide (s.le (f j))).Nodup:=List.Pairwise.filter _ List.nodup_range;exact List.pairwise_map.2 (hnd.imp fun hne e=>hne (by omega))
  ·intro a ha b hb e;subst e;obtain⟨j,hj,rfl⟩:=List.mem_map.1 hb;exact hno' _ ha (of_decide_eq_true (List.mem_filter.1 hj).2)
 ·intro x hx;rcases List.mem_append.1 hx with hx | hx
  ·obtain⟨h1,h2⟩:=hin x hx;exact List.mem_map.2 ⟨x.toNat,List.mem_range.2 (by omega),by omega⟩
  ·obtain⟨j,hj,rfl⟩:=List.mem_map.1 hx;exact List.mem_map.2 ⟨j,(List.mem_filter.1 hj).1,rfl⟩
theorem quo_of_cnt {n tell:Nat} {f:Int→Smp} {s:Smp} {cnt:List Int} (hl:tell≤cnt.length) (hn:cnt.Nodup) (hin:∀j∈cnt,0≤j∧j < n) (h:∀j∈cnt,s.le (f j)):quoB n tell f s:=by
 unfold quoB;rw[List.countP_eq_length_filter];refine Nat.le_trans hl ?_;have:=nodup_len (l:=cnt) (m:=((List.range n).filter fun (j:Nat)=>decide (s.le (f j))).map (fun (j:Nat)=>(j:Int))) hn ?_
 ·simpa using this
 ·intro x hx;obtain⟨h1,h2⟩:=hin x hx;refine List.mem_map.2 ⟨x.toNat,List.mem_filter.2 ⟨List.mem_range.2 (by omega),?_⟩,by omega⟩;have:((x.toNat:Nat):Int)=x:=by omega
  rw[this];exact decide_eq_true (h x hx)
def VOk (T:List Tw) (key:Int) (h:Hd):Prop:=(h.s=⟨0,-1⟩∧h.v=0)∨∃e∈T,e.key=key∧e.s=h.s∧e.v=h.v
theorem VOk.mono {T T':List Tw} {key:Int} {h:Hd} (hv:VOk T key h) (hT:∀e∈T,e∈T'):VOk T' key h:=hv.imp id fun⟨e,he,h1⟩=>⟨e,hT e he,h1⟩
structure MailOk (S : Sto) (G : Gho) (m : Ml) : Prop where
 cl:0≤m.l.c
 rd:m.l.rd≤(S.cl m.l.c).rd
 way:(0≤m.to∧m.to < S.n∧m.fr=S.n+m.l.c)∨(m.to=S.n+m.l.c∧0≤m.fr∧m.fr < S.n)
 val:m.l.tells=true∨S.n≤m.to→VOk G.T m.l.key m.l.h
 cur:(S.cl m.l.c).busy=true→m.l.rd=(S.cl m.l.c).rd→m.l.key=(S.cl m.l.c).key∧m.l.tells=(S.cl m.l.c).tells∧
  (m.to < S.n→(S.cl m.l.c).tells=true→m.l.h=(S.cl m.l.c).kept)∧
  (S.n≤m.to→(S.cl m.l.c).tells=false→(G.sn m.l.c m.fr).le m.l.h.s)∧
  (S.n≤m.to→(S.cl m.l.c).tells=true→(S.cl m.l.c).kept.s.le (S.st (S.cl m.l.c).key m.fr))
structure ClOk (S : Sto) (G : Gho) (c : Int) (x : Cl) : Prop where
 lo:0≤c
 bg:G.bg c < S.seen.length
 inv:S.seen[G.bg c]?=some (snOf c x 1 0 zeroS)
 past:∀r∈G.R,r.c=c→r.ok < G.bg c
 nd:x.cnt.Nodup
 inn:∀j∈x.cnt,0≤j∧j < S.n
 asnap:x.tells=false→∀s L,G.p x.key s=some L→L≤G.bg c→quoB S.n S.tell (G.sn c) s
 amin:x.tells=false→∀j,(G.sn c j).le (S.st x.key j)
 acnt:x.tells=false→∀j∈x.cnt,(G.sn c j).le x.kept.s
 aval:x.tells=false→x.cnt= []∧x.kept=hdN∨VOk G.T x.key x.kept
 tp:x.tells=true→∀s L,G.p x.key s=some L→L≤G.bg c→s.le x.kept.s∧(x.write=true→s≠x.kept.s)
 tcnt:x.tells=true→∀j∈x.cnt,x.kept.s.le (S.st x.key j)
 tval:x.tells=true→VOk G.T x.key x.kept
 tw:x.tells=true→x.write=true→(⟨x.key,x.kept.s,x.value,c,G.bg c⟩:Tw)∈G.T∧x.kept.v=x.value
structure TwOk (S : Sto) (G : Gho) (e : Tw) : Prop where
 hi:1≤e.s.t
 c:e.s.c=e.c
 lo:0≤e.c
 bg:e.bg < S.seen.length
 inv:S.seen[e.bg]?=some ⟨e.c,1,e.key,true,e.v,0,zeroS⟩
 late:∀L,G.p e.key e.s=some L→e.bg < L
 end_ : (∃ r ∈ G.R, r.write = true ∧ r.bg = e.bg ∧ r.c = e.c ∧ r.key = e.key ∧ r.s = e.s ∧ r.v = e.v) ∨ (S.cl e.c).gone = true ∨ ((S.cl e.c).busy = true ∧ (S.cl e.c).tells = true ∧ (S.cl e.c).write = true ∧ (S.cl e.c).key = e.key ∧ (S.cl e.c).kept.s = e.s ∧ G.bg e.c = e.bg)
structure RcOk (S : Sto) (G : Gho) (r : Rc) : Prop where
 bg:r.bg < r.ok
 ok:r.ok < S.seen.length
 inv:S.seen[r.bg]?=some ⟨r.c,1,r.key,r.write,if r.write then r.v else 0,0,zeroS⟩
 at_:S.seen[r.ok]?=some ⟨r.c,2,r.key,r.write,if r.write then r.v else 0,if r.write then 0 else r.v,r.s⟩
 set_:r.write=true∨S.back=true→∃L,G.p r.key r.s=some L∧L≤r.ok
 new:∀s L,G.p r.key s=some L→L≤r.bg→s.le r.s∧(r.write=true→s≠r.s)
 val:VOk G.T r.key ⟨r.s,r.v⟩
 tw:r.write=true→(⟨r.key,r.s,r.v,r.c,r.bg⟩:Tw)∈G.T
structure SInv (S : Sto) (G : Gho) : Prop where
 ask:1≤S.ask
 tell:1≤S.tell
 cross:S.n < S.ask+S.tell
 p1:∀key s L,G.p key s=some L→quoB S.n S.tell (S.st key) s∧L≤S.seen.length
 p2:∀key s,quoB S.n S.tell (S.st key) s→∃L,G.p key s=some L
 p3:∀key s s' L',s.le s'→G.p key s'=some L'→∃L,G.p key s=some L∧L≤L'
 mails:∀m∈S.mails,MailOk S G m
 idle:∀c,(S.cl c).busy=true→ClOk S G c (S.cl c)
 gone:∀c,(S.cl c).gone=true→(S.cl c).busy=false
 has:∀j key,VOk G.T key (S.has j key)
 T:∀e∈G.T,TwOk S G e
 one:∀e∈G.T,∀e'∈G.T,e.key=e'.key→e.s=e'.s→e=e'
 bgone:∀e∈G.T,∀e'∈G.T,e.bg=e'.bg→e=e'
 R:∀r∈G.R,RcOk S G r
structure ExtS (S S' : Sto) (G G' : Gho) : Prop where
 n:S'.n=S.n
 ask:S'.ask=S.ask
 tell:S'.tell=S.tell
 back:S'.back=S.back
 has:∀key j,(S.st key j).le (S'.st key j)
 T:∀e∈G.T,e∈G'.T
 R:∀r∈G.R,r∈G'.R
 p:∀key s L,G'.p key s=some L→G.p key s=some L∨S.seen.length≤L
 pk:∀key s L,G.p key s=some L→G'.p key s=some L
 len:S.seen.length≤S'.seen.length
 seen:∀i,i < S.seen.length→S'.seen[i]?=S.seen[i]?
section
variable {S S' : Sto} {G G' : Gho}
theorem MailOk.step (E:ExtS S S' G G') {m:Ml} (h:MailOk S G m) (hrd:(S.cl m.l.c).rd≤(S'.cl m.l.c).rd)
  (hc:(S'.cl m.l.c).busy=true→(S.cl m.l.c).rd=(S'.cl m.l.c).rd→(S.cl m.l.c).busy=true∧(S'.cl m.l.c).key=(S.cl m.l.c).key∧(S'.cl m.l.c).tells=(S.cl m.l.c).tells∧((S.cl m.l.c).tells=true→(S'.cl m.l.c).kept=(S.cl m.l.c).kept)∧G'.sn m.l.c=G.sn m.l.c):MailOk S' G' m:=by
 refine⟨h.cl,Int.le_trans h.rd hrd,by rw[E.n];exact h.way,fun hv=>(h.val (by rw[E.n] at hv;exact hv)).mono E.T,fun hb hr=>?_⟩;have h1:=h.rd;have hr':(S.cl m.l.c).rd=(S'.cl m.l.c).rd:=by omega
 obtain⟨c1,c2,c3,c4,c5⟩:=hc hb hr';obtain⟨d1,d2,d3,d4,d5⟩:=h.cur c1 (by omega);rw[E.n,c2,c3,c5];refine⟨d1,d2,fun a b=>by rw[c4 b];exact d3 a b,d4,fun a b=>?_⟩;rw[c4 b];exact Smp.le_trans (d5 a b) (E.has _ _)
theorem ClOk.step (E:ExtS S S' G G') {c:Int} {x:Cl} (h:ClOk S G c x) (hsn:G'.sn c=G.sn c) (hbg:G'.bg c=G.bg c) (hR:∀r∈G'.R,r.c=c→r∈G.R):ClOk S' G' c x:=by
 have hb:=h.bg;have old:∀s L,G'.p x.key s=some L→L≤G'.bg c→G.p x.key s=some L∧L≤G.bg c:=fun s L hp hl=>by
  rw[hbg] at hl;rcases E.p _ s L hp with e | e
  ·exact⟨e,hl⟩
  ·omega
 refine⟨h.lo,by rw[hbg];exact Nat.lt_of_lt_of_le hb E.len,by rw[hbg,E.seen _ hb];exact h.inv,fun r hr e=>by rw[hbg];exact h.past r (hR r hr e) e,h.nd,by rw[E.n];exact h.inn,fun t s L hp hl=>?_,fun t j=>?_,fun t j hj=>?_,fun t=>(h.aval t).imp id fun v=>v.mono E.T,fun t s L hp hl=>?_,fun t j hj=>?_,fun t=>(h.tval t).mono E.T,fun t w=>?_⟩
 ·obtain⟨a,b⟩:=old s L hp hl;rw[E.n,E.tell,hsn];exact h.asnap t s L a b
 ·rw[hsn];exact Smp.le_trans (h.amin t j) (E.has _ _)
 ·rw[hsn];exact h.acnt t j hj
 ·obtain⟨a,b⟩:=old s L hp hl;exact h.tp t s L a b
 ·exact Smp.le_trans (h.tcnt t j hj) (E.has _ _)
 ·rw[hbg];exact⟨E.T _ (h.tw t w).1,(h.tw t w).2⟩
theorem TwOk.step (E:ExtS S S' G G') {e:Tw} (h:TwOk S G e)
  (hend:(S.cl e.c).gone=true∨((S.cl e.c).busy=true∧(S.cl e.c).tells=true∧(S.cl e.c).write=true∧(S.cl e.c).key=e.key∧(S.cl e.c).kept.s=e.s∧G.bg e.c=e.bg)→
   (∃r∈G'.R,r.write=true∧r.bg=e.bg∧r.c=e.c∧r.key=e.key∧r.s=e.s∧r.v=e.v)∨(S'.cl e.c).gone=true∨((S'.cl e.c).busy=true∧(S'.cl e.c).tells=true∧(S'.cl e.c).write=true∧(S'.cl e.c).key=e.key∧(S'.cl e.c).kept.s=e.s∧G'.bg e.c=e.bg)):TwOk S' G' e:=by
 have hb:=h.bg;refine⟨h.hi,h.c,h.lo,Nat.lt_of_lt_of_le hb E.len,by rw[E.seen _ hb];exact h.inv,fun L hp=>?_,?_⟩
 ·rcases E.p _ _ L hp with e | e
  ·exact h.late L e
  ·omega
 ·rcases h.end_ with ⟨r,hr,h1⟩ | h1
  ·exact .inl ⟨r,E.R r hr,h1⟩
  ·exact hend h1
theorem RcOk.step (E:ExtS S S' G G') {r:Rc} (h:RcOk S G r):RcOk S' G' r:=by
 have h1:=h.bg;have h2:=h.ok;refine⟨h1,Nat.lt_of_lt_of_le h2 E.len,by rw[E.seen _ (by omega)];exact h.inv,by rw[E.seen _ h2];exact h.at_,fun hw=>?_,fun s L hp hl=>?_,h.val.mono E.T,fun hw=>E.T _ (h.tw hw)⟩
 ·rw[E.back] at hw;obtain⟨L,a,b⟩:=h.set_ hw;exact⟨L,E.pk _ _ _ a,b⟩
 ·rcases E.p _ _ L hp with e | e
  ·exact h.new s L e hl
  ·omega
end
theorem p_stays {S S':Sto} {G:Gho} (h:SInv S G) (hn:S'.n=S.n) (ht:S'.tell=S.tell) (hh:S'.has=S.has) (hl:S.seen.length≤S'.seen.length):
  (∀key s L,G.p key s=some L→quoB S'.n S'.tell (S'.st key) s∧L≤S'.seen.length)∧(∀key s,quoB S'.n S'.tell (S'.st key) s→∃L,G.p key s=some L):=by
 have e:∀key,S'.st key=S.st key:=fun key=>by unfold Sto.st;rw[hh]
 refine⟨fun key s L hp=>?_,fun key s hq=>?_⟩
 ·rw[hn,ht,e];exact⟨(h.p1 key s L hp).1,Nat.le_trans (h.p1 key s L hp).2 hl⟩
 ·rw[hn,ht,e] at hq;exact h.p2 key s hq
theorem mem_sendL {l:List Ml} {m x:Ml} (h:x∈sendL l m):x∈l∨x=m:=by
 unfold sendL at h
 split at h
 ·rcases List.mem_append.1 h with h | h
  ·exact .inl h
  ·exact .inr (List.mem_singleton.1 h)
 ·exact .inl h
theorem mem_sendAll {l:List Ml} {n:Nat} {c:Int} {x:Cl} {m:Ml} (h:m∈sendAll l n c x):m∈l∨∃j:Nat,j < n∧m=⟨n+c,j,⟨c,x.key,x.rd,x.tells,x.kept⟩⟩:=by
 unfold sendAll at h;have key:∀(js:List Nat) (l:List Ml),m∈js.foldl (fun l (j:Nat)=>sendL l ⟨n+c,j,⟨c,x.key,x.rd,x.tells,x.kept⟩⟩) l→m∈l∨∃j∈js,m=⟨n+c,j,⟨c,x.key,x.rd,x.tells,x.kept⟩⟩:=by
  intro js
  induction js with
  | nil=>intro l h;exact .inl h
  | cons j js ih=>
   intro l h;rcases ih _ h with h | ⟨i,hi,e⟩
   ·rcases mem_sendL h with h | h
    ·exact .inl h
    ·exact .inr ⟨j,List.mem_cons_self,h⟩
   ·exact .inr ⟨i,List.mem_cons_of_mem _ hi,e⟩
 rcases key _ _ h with h | ⟨j,hj,e⟩
 ·exact .inl h
 ·exact .inr ⟨j,List.mem_range.1 hj,e⟩
theorem SInv.less {S:Sto} {G:Gho} (h:SInv S G) {ms:List Ml} (hm:∀m∈ms,m∈S.mails) (lk:Int→Int→Bool):SInv {S with mails:=ms,links:=lk} G:=by
 have E:ExtS S {S with mails:=ms,links:=lk} G G:=⟨rfl,rfl,rfl,rfl,fun _ _=>Smp.le_refl _,fun _ h=>h,fun _ h=>h,fun _ _ _ h=>.inl h,fun _ _ _ h=>h,Nat.le_refl _,fun _ _=>rfl⟩;refine⟨h.ask,h.tell,h.cross,h.p1,h.p2,h.p3,fun m hm'=>(h.mails m (hm m hm')).step E (Int.le_refl _) fun hb _=>⟨hb,rfl,rfl,fun _=>rfl,rfl⟩,fun c hc=>(h.idle c hc).step E rfl rfl (fun _ h _=>h),h.gone,h.has,fun e he=>(h.T e he).step E fun h=>.inr h,h.one,h.bgone,fun r hr=>(h.R r hr).step E⟩
theorem ext_seen {l:List Sn} {x:Sn} {i:Nat} (h:i < l.length):(l++ [x])[i]?=l[i]?:=List.getElem?_append_left h
def updI {α:Type} (f:Int→α) (c:Int) (x:α):Int→α:=fun d=>if d=c then x else f d
theorem updI_same {α:Type} (f:Int→α) (c:Int) (x:α):updI f c x c=x:=if_pos rfl
theorem updI_ne {α:Type} (f:Int→α) {c d:Int} (x:α) (h:d≠c):updI f c x d=f d:=if_neg h
theorem mail_fresh {S:Sto} {G:Gho} {c:Int} {j:Nat} {x:Cl} (h0:0≤c) (hj:j < S.n) (hcl:S.cl c=x) (hv:x.tells=true→VOk G.T x.key x.kept):MailOk S G ⟨S.n+c,j,⟨c,x.key,x.rd,x.tells,x.kept⟩⟩:=by
 have no:¬((S.n:Int)≤(j:Int)):=by omega
 refine⟨h0,?_,.inl ⟨Int.natCast_nonneg _,Int.ofNat_lt.2 hj,rfl⟩,fun hx=>?_,fun _ _=>?_⟩
 ·simp only[hcl];exact Int.le_refl _
 ·rcases hx with hx | hx
  ·exact hv hx
  ·exact absurd hx no
 ·simp only[hcl];exact⟨trivial,trivial,fun _ _=>trivial,fun hx=>absurd hx no,fun hx=>absurd hx no⟩
theorem SInv.begin_ {S:Sto} {G:Gho} (h:SInv S G) {c:Int} (h0:0≤c) (hb:(S.cl c).busy=false) (hg:(S.cl c).gone=false) (key:Int) (write:Bool) (value:Int):
  SInv (beginS S c key write value) {G with sn:=updI G.sn c (S.st key),bg:=updI G.bg c S.seen.length} :=by
 have E:ExtS S (beginS S c key write value) G {G with sn:=updI G.sn c (S.st key),bg:=updI G.bg c S.seen.length} :=
  ⟨rfl,rfl,rfl,rfl,fun _ _=>Smp.le_refl _,fun _ h=>h,fun _ h=>h,fun _ _ _ h=>.inl h,fun _ _ _ h=>h,by simp[beginS,roundS],fun i hi=>by simp only[beginS,roundS];exact ext_seen hi⟩
 have hcl:(beginS S c key write value).cl c=roundC (beginC (S.cl c) key write value):=updC_same _ _ _;have hne:∀d,d≠c→(beginS S c key write value).cl d=S.cl d:=fun d hd=>updC_ne _ _ hd
 obtain⟨q1,q2⟩:=p_stays (S':=beginS S c key write value) h rfl rfl rfl E.len;refine⟨h.ask,h.tell,h.cross,q1,q2,h.p3,fun m hm=>?_,fun d hd=>?_,fun d hd=>?_,h.has,fun e he=>(h.T e he).step E fun hx=>?_,h.one,h.bgone,fun r hr=>(h.R r hr).step E⟩
 ·rcases mem_sendAll hm with hm | ⟨j,hj,rfl⟩
  ·by_cases e:m.l.c=c
   ·refine(h.mails m hm).step E ?_ fun _ hr=>?_
    ·rw[e,hcl];show _≤(S.cl c).rd+1;omega
    ·rw[e,hcl] at hr;have:(S.cl c).rd=(S.cl c).rd+1:=hr;omega
   ·refine(h.mails m hm).step E (by rw[hne _ e];exact Int.le_refl _) fun hb' _=>?_
    rw[hne _ e] at hb' ⊢;exact⟨hb',rfl,rfl,fun _=>rfl,updI_ne _ _ e⟩
  ·exact mail_fresh (S:=beginS S c key write value) h0 hj hcl (fun ht=>by cases ht)
 ·by_cases e:d=c
  ·subst e;rw[hcl];refine⟨h0,?_,?_,fun r hr _=>?_,List.nodup_nil,fun j hj=>absurd hj (by simp[roundC]),fun _ s L hp hl=>?_,fun _ j=>?_,fun _ j hj=>absurd hj (by simp[roundC]),fun _=>.inl ⟨rfl,rfl⟩,fun ht=>(by cases ht),fun ht=>(by cases ht),fun ht=>(by cases ht),fun ht=>(by cases ht)⟩
   ·show updI G.bg d S.seen.length d < _;rw[updI_same];simp[beginS,roundS]
   ·show _[updI G.bg d S.seen.length d]?=_;rw[updI_same];simp only[beginS,roundS];rw[List.getElem?_append_right (Nat.le_refl _),Nat.sub_self];rfl
   ·show _ < updI G.bg d S.seen.length d;rw[updI_same];exact(h.R r hr).ok
   ·show quoB S.n S.tell (updI G.sn d (S.st key) d) s;rw[updI_same];exact(h.p1 key s L hp).1
   ·show (updI G.sn d (S.st key) d j).le _;rw[updI_same];exact Smp.le_refl _
  ·rw[hne _ e] at hd ⊢;exact(h.idle d hd).step E (updI_ne _ _ e) (updI_ne _ _ e) (fun _ h _=>h)
 ·by_cases e:d=c
  ·subst e;rw[hcl] at hd;have:(S.cl d).gone=true:=hd;rw[hg] at this;cases this
  ·rw[hne _ e] at hd ⊢;exact h.gone d hd
 ·by_cases ec:e.c=c
  ·rw[ec,hb,hg] at hx;rcases hx with hx | hx
   ·cases hx
   ·cases hx.1
  ·rw[hne _ ec];show _∨_∨(_∧_∧_∧_∧_∧updI G.bg c S.seen.length e.c=_);rw[updI_ne _ _ ec];exact .inr hx
theorem SInv.give {S:Sto} {G:Gho} (h:SInv S G) {c:Int} :SInv (giveS S c) G:=by
 have E:ExtS S (giveS S c) G G:=⟨rfl,rfl,rfl,rfl,fun _ _=>Smp.le_refl _,fun _ h=>h,fun _ h=>h,fun _ _ _ h=>.inl h,fun _ _ _ h=>h,by simp[giveS],fun i hi=>by simp only[giveS];exact ext_seen hi⟩;have hcl:(giveS S c).cl c= {S.cl c with busy:=false,gone:=true} :=updC_same _ _ _;have hne:∀d,d≠c→(giveS S c).cl d=S.cl d:=fun d hd=>updC_ne _ _ hd
 obtain⟨q1,q2⟩:=p_stays (S':=giveS S c) h rfl rfl rfl E.len;refine⟨h.ask,h.tell,h.cross,q1,q2,h.p3,fun m hm=>?_,fun d hd=>?_,fun d hd=>?_,h.has,fun e he=>(h.T e he).step E fun hx=>?_,h.one,h.bgone,fun r hr=>(h.R r hr).step E⟩
 ·by_cases e:m.l.c=c
  ·refine(h.mails m hm).step E ?_ fun hb _=>?_
   ·rw[e,hcl];exact Int.le_refl _
   ·rw[e,hcl] at hb;cases hb
  ·refine(h.mails m hm).step E (by rw[hne _ e];exact Int.le_refl _) fun hb' _=>?_
   rw[hne _ e] at hb' ⊢;exact⟨hb',rfl,rfl,fun _=>rfl,rfl⟩
 ·by_cases e:d=c
  ·subst e;rw[hcl] at hd;cases hd
  ·rw[hne _ e] at hd ⊢;exact(h.idle d hd).step E rfl rfl (fun _ h _=>h)
 ·by_cases e:d=c
  ·subst e;rw[hcl]
  ·rw[hne _ e] at hd ⊢;exact h.gone d hd
 ·by_cases ec:e.c=c
  ·rw[ec,hcl];exact .inr (.inl rfl)
  ·rw[hne _ ec];exact .inr hx
end Go.Proofs.YtjpklmighoondaaGreatDoor
