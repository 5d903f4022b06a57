/-
  Chapter 17 in plain Lean: what is seen of registers by quorums, as events: they may be, and the ops that they make.
  Chapter 17 in plain Lean: whatever is moved: what is seen can have taken place one by one; nothing is older than it may be; stamps.
  Chapter 16 in plain Lean: who can talk to whom; it is told both ways; two who each talk to more than half meet.
  Chapters 16 and 17 in plain Lean: the moves of a store, and what they tell.
-/
import Derived.Test.YtjpklmighoondaaGreatDoorAbUZ
import Derived.Test.YtjpklmighoondaaGreatDoorGnPZ
namespace Go.Proofs.YtjpklmighoondaaGreatDoor
def evS (x:Sn):Ev:=⟨x.proc,x.typ,x.key,if x.write then 2 else 1,x.a,0,x.res⟩
theorem hist_app (l m:List Ev):∀n,n≤l.length→hist (l++m) n=hist l n
 | 0,_=>rfl
 | n+1,h=>by
  unfold hist;rw[List.getElem?_append_left (by omega),hist_app l m n (by omega)]
theorem hist_snoc (l:List Ev) (x:Ev):hist (l++ [x]) (l.length+1)=seeS l.length x (hist l l.length):=by
 show (match (l++ [x])[l.length]? with | some e=>seeS l.length e (hist (l++ [x]) l.length) | none=>hist (l++ [x]) l.length)=_;rw[List.getElem?_append_right (Nat.le_refl _),Nat.sub_self];simp only[List.getElem?_cons_zero];rw[hist_app l [x] l.length (Nat.le_refl _)]
theorem fine_snoc {l:List Ev} {x:Ev} (h:FineH l l.length) (hx:seeN x (hist l l.length)=0):FineH (l++ [x]) (l.length+1):=fun i hi hn=>by
 rw[hist_app l [x] i (by omega)];by_cases e:i < l.length
 ·rw[List.getElem_append_left e];exact h i e e
 ·obtain rfl:i=l.length:=by omega
  rw[List.getElem_append_right (Nat.le_refl _)]
  simpa using hx
def opC (c:Int) (x:Cl) (b:Nat):Opn:=⟨c,x.key,if x.write then 2 else 1,if x.write then x.value else 0,0,0,b,-1⟩
structure RcOp (r : Rc) (x : Opn) : Prop where
 bg:(r.bg:Int)=x.c
 ok:(r.ok:Int)=x.e
 key:r.key=x.k
 d:x.d=if r.write then 2 else 1
 v:r.v=if r.write then x.a else x.r
 r0:r.write=true→x.r=0
structure TwOp (t : Tw) (x : Opn) : Prop where
 bg:x.c=(t.bg:Int)
 d:x.d=2
 key:x.k=t.key
 a:x.a=t.v
def histS (S:Sto):Hs:=hist (S.seen.map evS) S.seen.length
structure SHist (S : Sto) (G : Gho) : Prop where
 fine:FineH (S.seen.map evS) S.seen.length
 busy:∀c,(S.cl c).busy=true→(histS S).busy c=some (opC c (S.cl c) (G.bg c))
 idle:∀c,(S.cl c).busy=false→(histS S).busy c=none
 lost:∀c,(histS S).lost c=(S.cl c).gone
 kinds:∀x∈(histS S).done,x.d=1∨x.d=2
 done:∀x∈(histS S).done,0≤x.e→∃r∈G.R,RcOp r x
 told:∀t∈G.T,(∃x∈(histS S).done,TwOp t x)∨((S.cl t.c).busy=true∧G.bg t.c=t.bg)
 nums:∀t∈G.T,numB t.v=true
 cls:∀c,(S.cl c).busy=true→eightB c=true∧eightB (S.cl c).key=true∧numB (S.cl c).value=true
 okc:∀(i:Nat) x,S.seen[i]?=some x→x.typ=2→∃r∈G.R,r.ok=i
 lone:∀c,(S.cl c).busy=true→∀(j:Nat) x,G.bg c < j→S.seen[j]?=some x→x.proc≠c
 loneR:∀r∈G.R,∀(j:Nat) x,r.bg < j→j < r.ok→S.seen[j]?=some x→x.proc≠r.c
theorem SHist.same {S S':Sto} {G G':Gho} (h:SHist S G) (h1:S'.seen=S.seen) (h2:∀c,(S'.cl c).busy=(S.cl c).busy∧(S'.cl c).gone=(S.cl c).gone∧(S'.cl c).write=(S.cl c).write∧(S'.cl c).key=(S.cl c).key∧(S'.cl c).value=(S.cl c).value) (h3:G'.bg=G.bg) (h4:G'.R=G.R)
  (h5:∀t∈G'.T,t∈G.T∨((S.cl t.c).busy=true∧G.bg t.c=t.bg∧numB t.v=true)):SHist S' G':=by
 have e:histS S'=histS S:=by unfold histS;rw[h1]
 refine⟨by rw[h1];exact h.fine,fun c hc=>?_,fun c hc=>?_,fun c=>?_,by rw[e];exact h.kinds,by rw[e,h4];exact h.done,fun t ht=>?_,fun t ht=>?_,fun c hc=>?_,by rw[h1,h4];exact h.okc,fun c hc=>by rw[h1,h3];exact h.lone c (by rw[←(h2 c).1];exact hc),by rw[h1,h4];exact h.loneR⟩
 ·obtain⟨a1,a2,a3,a4,a5⟩:=h2 c;rw[e,h3,h.busy c (by rw[←a1];exact hc)];unfold opC;rw[a3,a4,a5]
 ·rw[e];exact h.idle c (by rw[←(h2 c).1];exact hc)
 ·rw[e,(h2 c).2.1];exact h.lost c
 ·rw[e,h3,(h2 t.c).1];rcases h5 t ht with ht | ht
  ·exact h.told t ht
  ·exact .inr ⟨ht.1,ht.2.1⟩
 ·rcases h5 t ht with ht | ht
  ·exact h.nums t ht
  ·exact ht.2.2
 ·obtain⟨a1,a2,a3,a4,a5⟩:=h2 c;rw[a4,a5];exact h.cls c (by rw[←a1];exact hc)
theorem fault_ok {x:Sn} (h1:eightB x.proc=true) (h2:eightB x.key=true) (h3:numB x.a=true) (h4:numB x.res=true) (h5:1≤x.typ∧x.typ≤4) (h6:x.res=0∨x.typ=2):(evS x).fault=0:=by
 unfold Ev.fault faultN evS;have hin:inB x.proc x.key x.a 0 x.res=true:=by
  have h0:numB 0=true:=rfl;simp[inB,h1,h2,h3,h4,h0]
 have hk:kindB (if x.write then 2 else 1)=true:=by cases x.write<;>rfl
 simp only[hin,hk,if_true,decide_eq_true h5,decide_eq_true h6,Bool.and_self]
theorem histS_snoc {S:Sto} {S':Sto} {x:Sn} (h:S'.seen=S.seen++ [x]):histS S'=seeS S.seen.length (evS x) (histS S):=by
 unfold histS;rw[h,List.map_append,List.length_append];have:=hist_snoc (S.seen.map evS) (evS x);rw[List.length_map] at this;exact this
theorem fineS_snoc {S:Sto} {S':Sto} {x:Sn} (h:S'.seen=S.seen++ [x]) (hf:FineH (S.seen.map evS) S.seen.length) (hx:seeN (evS x) (histS S)=0):FineH (S'.seen.map evS) S'.seen.length:=by
 rw[h,List.map_append,List.length_append];have:=fine_snoc (l:=S.seen.map evS) (x:=evS x) (by rw[List.length_map];exact hf) (by rw[List.length_map];exact hx);rw[List.length_map] at this;exact this
theorem num_if {b:Bool} {v:Int} (h:numB v=true):numB (if b then v else 0)=true:=by cases b<;>simp[h,num_zero]
theorem snoc_at {l:List Sn} {y x:Sn} {i:Nat} (h:(l++ [y])[i]?=some x):l[i]?=some x∨(i=l.length∧x=y):=by
 by_cases e:i < l.length
 ·rw[List.getElem?_append_left e] at h;exact .inl h
 ·rw[List.getElem?_append_right (by omega)] at h;have:i - l.length=0:=by
   have:=(List.getElem?_eq_some_iff.1 h).1;simp at this;omega
  rw[this] at h;exact .inr ⟨by omega,(Option.some.inj h).symm⟩
theorem snoc_lt {l:List Sn} {y x:Sn} {i:Nat} (h:(l++ [y])[i]?=some x):i < l.length+1:=by
 have:=(List.getElem?_eq_some_iff.1 h).1
 simpa using this
theorem SHist.begin_ {S:Sto} {G:Gho} (h:SHist S G) (hI:SInv S G) {c key value:Int} {write:Bool} (hc:eightB c=true) (hk:eightB key=true) (hv:numB value=true) (hb:(S.cl c).busy=false) (hg:(S.cl c).gone=false):
  SHist (beginS S c key write value) {G with sn:=updI G.sn c (S.st key),bg:=updI G.bg c S.seen.length} :=by
 have hs:(beginS S c key write value).seen=S.seen++ [snOf c (beginC (S.cl c) key write value) 1 0 zeroS]:=rfl;have hcl:(beginS S c key write value).cl c=roundC (beginC (S.cl c) key write value):=updC_same _ _ _;have hne:∀d,d≠c→(beginS S c key write value).cl d=S.cl d:=fun d hd=>updC_ne _ _ hd
 have hi:=h.idle c hb;have hl:=(h.lost c).trans hg;have hf:(evS (snOf c (beginC (S.cl c) key write value) 1 0 zeroS)).fault=0:=fault_ok hc hk (num_if hv) num_zero (by show 1≤(1:Int)∧(1:Int)≤4;decide) (.inl rfl);have hsee:seeN (evS (snOf c (beginC (S.cl c) key write value) 1 0 zeroS)) (histS S)=0:=by
  unfold seeN;rw[if_neg (fun e=>e hf)];show (if (1:Int)=1 then (if ((histS S).busy c).isSome||(histS S).lost c then (6:Int) else 0) else _)=0;rw[if_pos rfl,hi,hl];rfl
 have he:histS (beginS S c key write value)=⟨setO (histS S).busy c (some (opC c (beginC (S.cl c) key write value) S.seen.length)),(histS S).lost,(histS S).done⟩:=by
  rw[histS_snoc hs];rfl
 refine⟨fineS_snoc hs h.fine hsee,fun d hd=>?_,fun d hd=>?_,fun d=>?_,by rw[he];exact h.kinds,by rw[he];exact h.done,fun t ht=>?_,h.nums,fun d hd=>?_,fun i x hx ht=>?_,fun d hd j x hj hx=>?_,fun r hr j x h5 h6 hx=>?_⟩
 ·rw[he];show setO _ c _ d=some (opC d _ (updI G.bg c S.seen.length d));by_cases e:d=c
  ·subst e;rw[setO_same,updI_same,hcl];rfl
  ·rw[setO_other _ _ _ _ e,updI_ne _ _ e];rw[hne _ e] at hd ⊢;exact h.busy d hd
 ·rw[he];show setO _ c _ d=none;by_cases e:d=c
  ·subst e;rw[hcl] at hd;cases hd
  ·rw[setO_other _ _ _ _ e];rw[hne _ e] at hd;exact h.idle d hd
 ·rw[he];show (histS S).lost d=_;by_cases e:d=c
  ·subst e;rw[hcl];exact h.lost d
  ·rw[hne _ e];exact h.lost d
 ·rw[he];rcases h.told t ht with hx | hx
  ·exact .inl hx
  ·right
   have e:t.c≠c:=fun e=>by rw[e,hb] at hx;cases hx.1
   rw[hne _ e];exact⟨hx.1,by show updI G.bg c S.seen.length t.c=t.bg;rw[updI_ne _ _ e];exact hx.2⟩
 ·by_cases e:d=c
  ·subst e;rw[hcl];exact⟨hc,hk,hv⟩
  ·rw[hne _ e] at hd ⊢;exact h.cls d hd
 ·rw[hs] at hx;rcases snoc_at hx with hx | ⟨_,rfl⟩
  ·exact h.okc i x hx ht
  ·exact absurd ht (by show ¬((1:Int)=2);decide)
 ·rw[hs] at hx;by_cases e:d=c
  ·subst e;have:updI G.bg d S.seen.length d < j:=hj;rw[updI_same] at this;have:=snoc_lt hx;omega
  ·have hj':updI G.bg c S.seen.length d < j:=hj;rw[updI_ne _ _ e] at hj';rw[hne _ e] at hd;rcases snoc_at hx with hx | ⟨_,rfl⟩
   ·exact h.lone d hd j x hj' hx
   ·exact fun e'=>e e'.symm
 ·rw[hs] at hx;rcases snoc_at hx with hx | ⟨e,_⟩
  ·exact h.loneR r hr j x h5 h6 hx
  ·have:=(hI.R r hr).ok;omega
theorem told_own {S:Sto} {G:Gho} (h:SInv S G) {t:Tw} (ht:t∈G.T) (hb:(S.cl t.c).busy=true) (hbg:G.bg t.c=t.bg):TwOp t (opC t.c (S.cl t.c) (G.bg t.c)):=by
 have hx:=h.idle t.c hb;have h1:=(h.T t ht).inv;rw[←hbg,hx.inv] at h1;have h2:=Option.some.inj h1;have k1:(S.cl t.c).key=t.key:=congrArg Sn.key h2;have k2:(S.cl t.c).write=true:=congrArg Sn.write h2;have k3:(if (S.cl t.c).write then (S.cl t.c).value else 0)=t.v:=congrArg Sn.a h2;exact⟨by rw[←hbg];rfl,by unfold opC;rw[k2];rfl,k1,k3⟩
theorem SHist.give {S:Sto} {G:Gho} (h:SHist S G) (hi:SInv S G) {c:Int} (hb:(S.cl c).busy=true):SHist (giveS S c) G:=by
 have hs:(giveS S c).seen=S.seen++ [snOf c (S.cl c) 4 0 zeroS]:=rfl;have hcl:(giveS S c).cl c= {S.cl c with busy:=false,gone:=true} :=updC_same _ _ _;have hne:∀d,d≠c→(giveS S c).cl d=S.cl d:=fun d hd=>updC_ne _ _ hd
 have hbu:=h.busy c hb;obtain⟨c1,c2,c3⟩:=h.cls c hb;have hf:(evS (snOf c (S.cl c) 4 0 zeroS)).fault=0:=fault_ok c1 c2 (num_if c3) num_zero (by show 1≤(4:Int)∧(4:Int)≤4;decide) (.inl rfl);have hsm:sameB (opC c (S.cl c) (G.bg c)) (evS (snOf c (S.cl c) 4 0 zeroS))=true:=by cases hw:(S.cl c).write<;>simp[sameB,opC,evS,snOf,hw]
 have hsee:seeN (evS (snOf c (S.cl c) 4 0 zeroS)) (histS S)=0:=by
  unfold seeN;rw[if_neg (fun e=>e hf),if_neg (by show ¬((4:Int)=1);decide)];show (match (histS S).busy c with | none=>(12:Int) | some o=>if sameB o _ then 0 else 12)=0;rw[hbu];simp only;rw[if_pos hsm]
 have he:histS (giveS S c)=⟨setO (histS S).busy c none,setB (histS S).lost c true,(histS S).done++ [opC c (S.cl c) (G.bg c)]⟩:=by
  rw[histS_snoc hs];unfold seeS;rw[if_neg (by show ¬((4:Int)=1);decide)];show (match (histS S).busy c with | none=>histS S | some o=>_)=_;rw[hbu];rfl
 refine⟨fineS_snoc hs h.fine hsee,fun d hd=>?_,fun d hd=>?_,fun d=>?_,fun x hx=>?_,fun x hx hx0=>?_,fun t ht=>?_,h.nums,fun d hd=>?_,fun i x hx ht=>?_,fun d hd j x hj hx=>?_,fun r hr j x h5 h6 hx=>?_⟩
 ·have e:d≠c:=fun e=>by subst e;rw[hcl] at hd;cases hd
  rw[he];show setO _ c _ d=_;rw[setO_other _ _ _ _ e];rw[hne _ e] at hd ⊢;exact h.busy d hd
 ·rw[he];show setO _ c _ d=none;by_cases e:d=c
  ·subst e;exact setO_same _ _ _
  ·rw[setO_other _ _ _ _ e];rw[hne _ e] at hd;exact h.idle d hd
 ·rw[he];show setB _ c _ d=_;by_cases e:d=c
  ·subst e;rw[hcl];simp[setB]
  ·rw[hne _ e];simp[setB,e];exact h.lost d
 ·rw[he] at hx;rcases List.mem_append.1 hx with hx | hx
  ·exact h.kinds x hx
  ·obtain rfl:=List.mem_singleton.1 hx;cases hw:(S.cl c).write<;>simp[opC,hw]
 ·rw[he] at hx;rcases List.mem_append.1 hx with hx | hx
  ·exact h.done x hx hx0
  ·obtain rfl:=List.mem_singleton.1 hx;exact absurd hx0 (by show ¬(0≤(-1:Int));decide)
 ·rw[he];rcases h.told t ht with ⟨x,hx,hx2⟩ | hx
  ·exact .inl ⟨x,List.mem_append_left _ hx,hx2⟩
  ·by_cases e:t.c=c
   ·left
    have:=told_own hi ht hx.1 hx.2;rw[e] at this;exact⟨_,List.mem_append_right _ (List.mem_singleton.2 rfl),this⟩
   ·right
    rw[hne _ e];exact hx
 ·have e:d≠c:=fun e=>by subst e;rw[hcl] at hd;cases hd
  rw[hne _ e] at hd ⊢;exact h.cls d hd
 ·rw[hs] at hx;rcases snoc_at hx with hx | ⟨_,rfl⟩
  ·exact h.okc i x hx ht
  ·exact absurd ht (by show ¬((4:Int)=2);decide)
 ·have e:d≠c:=fun e=>by subst e;rw[hcl] at hd;cases hd
  rw[hne _ e] at hd;rw[hs] at hx;rcases snoc_at hx with hx | ⟨_,rfl⟩
  ·exact h.lone d hd j x hj hx
  ·exact fun e'=>e e'.symm
 ·rw[hs] at hx;rcases snoc_at hx with hx | ⟨e,_⟩
  ·exact h.loneR r hr j x h5 h6 hx
  ·have:=(hi.R r hr).ok;omega
theorem SHist.done_ {S:Sto} {G:Gho} (h:SHist S G) (hi:SInv S G) {c:Int} {y:Cl} (hb:(S.cl c).busy=true) (e3:y.key=(S.cl c).key) (e6:y.write=(S.cl c).write) (e9:y.value=(S.cl c).value) (e7:y.gone=(S.cl c).gone) (hv:VOk G.T y.key y.kept):
  SHist (doneS S c y) {G with R:=G.R++ [(⟨G.bg c,S.seen.length,c,y.key,y.write,y.kept.s,if y.write then y.value else y.kept.v⟩:Rc)]} :=by
 have hs:(doneS S c y).seen=S.seen++ [snOf c y 2 (if y.write then 0 else y.kept.v) y.kept.s]:=rfl;have hcl:(doneS S c y).cl c= {y with busy:=false} :=updC_same _ _ _;have hne:∀d,d≠c→(doneS S c y).cl d=S.cl d:=fun d hd=>updC_ne _ _ hd
 have hbu:=h.busy c hb;obtain⟨c1,c2,c3⟩:=h.cls c hb;have hnv:numB y.kept.v=true:=by
  rcases hv with ⟨_,e⟩ | ⟨t,ht,_,_,e⟩
  ·rw[e];exact num_zero
  ·rw[←e];exact h.nums t ht
 have hres:numB (if y.write then 0 else y.kept.v)=true:=by cases y.write<;>simp[hnv,num_zero]
 have hf:(evS (snOf c y 2 (if y.write then 0 else y.kept.v) y.kept.s)).fault=0:=fault_ok c1 (by show eightB y.key=true;rw[e3];exact c2) (num_if (by rw[e9];exact c3)) hres (by show 1≤(2:Int)∧(2:Int)≤4;decide) (.inr rfl);have hop:opC c (S.cl c) (G.bg c)=opC c y (G.bg c):=by unfold opC;rw[e3,e6,e9]
 have hsm:sameB (opC c y (G.bg c)) (evS (snOf c y 2 (if y.write then 0 else y.kept.v) y.kept.s))=true:=by cases hw:y.write<;>simp[sameB,opC,evS,snOf,hw]
 have hsee:seeN (evS (snOf c y 2 (if y.write then 0 else y.kept.v) y.kept.s)) (histS S)=0:=by
  unfold seeN;rw[if_neg (fun e=>e hf),if_neg (by show ¬((2:Int)=1);decide)];show (match (histS S).busy c with | none=>(12:Int) | some o=>if sameB o _ then 0 else 12)=0;rw[hbu,hop];simp only;rw[if_pos hsm]
 have he:histS (doneS S c y)=⟨setO (histS S).busy c none,(histS S).lost,(histS S).done++ [endO (opC c y (G.bg c)) (if y.write then 0 else y.kept.v) S.seen.length]⟩:=by
  rw[histS_snoc hs];unfold seeS;rw[if_neg (by show ¬((2:Int)=1);decide)];show (match (histS S).busy c with | none=>histS S | some o=>_)=_;rw[hbu,hop];rfl
 have hgone:(S.cl c).gone=false:=by
  cases e:(S.cl c).gone with
  | false=>rfl
  | true=>rw[hi.gone c e] at hb;cases hb
 refine⟨fineS_snoc hs h.fine hsee,fun d hd=>?_,fun d hd=>?_,fun d=>?_,fun x hx=>?_,fun x hx hx0=>?_,fun t ht=>?_,h.nums,fun d hd=>?_,fun i x hx ht=>?_,fun d hd j x hj hx=>?_,fun r hr j x h5 h6 hx=>?_⟩
 ·have e:d≠c:=fun e=>by subst e;rw[hcl] at hd;cases hd
  rw[he];show setO _ c _ d=_;rw[setO_other _ _ _ _ e];rw[hne _ e] at hd ⊢;exact h.busy d hd
 ·rw[he];show setO _ c _ d=none;by_cases e:d=c
  ·subst e;exact setO_same _ _ _
  ·rw[setO_other _ _ _ _ e];rw[hne _ e] at hd;exact h.idle d hd
 ·rw[he];show (histS S).lost d=_;by_cases e:d=c
  ·subst e;rw[hcl];show _=y.gone;rw[e7];exact h.lost d
  ·rw[hne _ e];exact h.lost d
 ·rw[he] at hx;rcases List.mem_append.1 hx with hx | hx
  ·exact h.kinds x hx
  ·obtain rfl:=List.mem_singleton.1 hx;cases hw:y.write<;>simp[opC,endO,hw]
 ·rw[he] at hx;rcases List.mem_append.1 hx with hx | hx
  ·obtain⟨r,hr,hr2⟩:=h.done x hx hx0;exact⟨r,List.mem_append_left _ hr,hr2⟩
  ·obtain rfl:=List.mem_singleton.1 hx;refine⟨_,List.mem_append_right _ (List.mem_singleton.2 rfl),rfl,rfl,rfl,rfl,?_,fun hw=>?_⟩
   ·cases hw:y.write<;>simp[opC,endO,hw]
   ·have hw':y.write=true:=hw;show (if y.write then (0:Int) else y.kept.v)=0;rw[hw'];rfl
 ·rw[he];rcases h.told t ht with ⟨x,hx,hx2⟩ | hx
  ·exact .inl ⟨x,List.mem_append_left _ hx,hx2⟩
  ·by_cases e:t.c=c
   ·left
    have:=told_own hi ht hx.1 hx.2;rw[e,hop] at this;exact⟨_,List.mem_append_right _ (List.mem_singleton.2 rfl),this.bg,this.d,this.key,this.a⟩
   ·right
    rw[hne _ e];exact hx
 ·have e:d≠c:=fun e=>by subst e;rw[hcl] at hd;cases hd
  rw[hne _ e] at hd ⊢;exact h.cls d hd
 ·rw[hs] at hx;rcases snoc_at hx with hx | ⟨rfl,_⟩
  ·obtain⟨r,hr,e⟩:=h.okc i x hx ht;exact⟨r,List.mem_append_left _ hr,e⟩
  ·exact⟨_,List.mem_append_right _ (List.mem_singleton.2 rfl),rfl⟩
 ·have e:d≠c:=fun e=>by subst e;rw[hcl] at hd;cases hd
  rw[hne _ e] at hd;rw[hs] at hx;rcases snoc_at hx with hx | ⟨_,rfl⟩
  ·exact h.lone d hd j x hj hx
  ·exact fun e'=>e e'.symm
 ·rw[hs] at hx;rcases List.mem_append.1 hr with hr | hr
  ·rcases snoc_at hx with hx | ⟨e,_⟩
   ·exact h.loneR r hr j x h5 h6 hx
   ·have:=(hi.R r hr).ok;omega
  ·obtain rfl:=List.mem_singleton.1 hr;rcases snoc_at hx with hx | ⟨e,_⟩
   ·exact h.lone c hb j x h5 hx
   ·have:j < S.seen.length:=h6;omega
def SAll (S:Sto):Prop:=∃G,SInv S G∧SHist S G
theorem SAll.less {S:Sto} (h:SAll S) {ms:List Ml} (hm:∀m∈ms,m∈S.mails) (lk:Int→Int→Bool):SAll {S with mails:=ms,links:=lk} :=by
 obtain⟨G,h1,h2⟩:=h;exact⟨G,h1.less hm lk,h2.same rfl (fun _=>⟨rfl,rfl,rfl,rfl,rfl⟩) rfl rfl fun t ht=>.inl ht⟩
theorem SAll.begin_ {S:Sto} (h:SAll S) {c key value:Int} {write:Bool} (hc:eightB c=true) (hk:eightB key=true) (hv:numB value=true) (hb:(S.cl c).busy=false) (hg:(S.cl c).gone=false):SAll (beginS S c key write value):=by
 obtain⟨G,h1,h2⟩:=h;exact⟨_,h1.begin_ (by simp[eightB] at hc;exact hc.1) hb hg key write value,h2.begin_ h1 hc hk hv hb hg⟩
theorem SAll.give {S:Sto} (h:SAll S) {c:Int} (hb:(S.cl c).busy=true):SAll (giveS S c):=by
 obtain⟨G,h1,h2⟩:=h;exact⟨G,h1.give,h2.give h1 hb⟩
theorem updC_parts {f:Int→Cl} {c:Int} {y:Cl} (h:y.busy=(f c).busy∧y.gone=(f c).gone∧y.write=(f c).write∧y.key=(f c).key∧y.value=(f c).value) (d:Int):
  (updC f c y d).busy=(f d).busy∧(updC f c y d).gone=(f d).gone∧(updC f c y d).write=(f d).write∧(updC f c y d).key=(f d).key∧(updC f c y d).value=(f d).value:=by
 by_cases e:d=c
 ·subst e;rw[updC_same];exact h
 ·rw[updC_ne _ _ e];exact⟨rfl,rfl,rfl,rfl,rfl⟩
theorem SAll.take {S:Sto} (h:SAll S) {m:Ml} (hm:m∈S.mails) {ms:List Ml} (hms:∀x∈ms,x∈S.mails):SAll (takeS {S with mails:=ms} m):=by
 obtain⟨G,h1,h2⟩:=h;have hk:=h1.mails m hm;have i1:=h1.less hms S.links;have i2:SHist {S with mails:=ms} G:=h2.same rfl (fun _=>⟨rfl,rfl,rfl,rfl,rfl⟩) rfl rfl fun t ht=>.inl ht
 have hk':MailOk {S with mails:=ms} G m:=⟨hk.cl,hk.rd,hk.way,hk.val,hk.cur⟩;generalize ({S with mails:=ms} :Sto)=S1 at i1 i2 hk' ⊢;clear h1 h2 hk hms hm;unfold takeS
 split
 ·rename_i e
  exact⟨_,i1.node hk' e,i2.same rfl (fun _=>⟨rfl,rfl,rfl,rfl,rfl⟩) rfl rfl fun t ht=>.inl ht⟩
 ·rename_i e
  have hto:=Int.not_lt.1 e;obtain⟨w1,w2,w3⟩:m.to=S1.n+m.l.c∧0≤m.fr∧m.fr < S1.n:=by
   rcases hk'.way with e | e
   ·omega
   ·exact e
  have ec:m.to - S1.n=m.l.c:=by omega
  rw[ec];unfold hearS;simp only;by_cases hc:(S1.cl m.l.c).busy=true∧m.l.rd=(S1.cl m.l.c).rd∧m.fr∉(S1.cl m.l.c).cnt
  ·rw[if_pos hc];obtain⟨hb,hr,hn⟩:=hc;obtain⟨d1,d2,d3,d4,d5⟩:=hk'.cur hb hr;have hx:=i1.idle m.l.c hb;have hv:VOk G.T (S1.cl m.l.c).key m.l.h:=by rw[←d1];exact hk'.val (.inr hto)
   obtain⟨hy,hyv⟩:=hx.count i1 ⟨w2,w3⟩ hn hv (d4 hto) (d5 hto);have hkt:(S1.cl m.l.c).tells=true→(countC (S1.cl m.l.c) m.fr m.l.h).kept=(S1.cl m.l.c).kept:=fun e=>by simp[countC,e]
   by_cases hl:(countC (S1.cl m.l.c) m.fr m.l.h).cnt.length < (if (S1.cl m.l.c).tells=true then S1.tell else S1.ask)
   ·rw[if_pos hl];exact⟨G,i1.some_ hb hy hb rfl rfl rfl hkt rfl rfl,i2.same rfl (updC_parts ⟨rfl,rfl,rfl,rfl,rfl⟩) rfl rfl fun t ht=>.inl ht⟩
   ·rw[if_neg hl];by_cases ht:(S1.cl m.l.c).tells=false∧((S1.cl m.l.c).write=true∨S1.back=true)
    ·rw[if_pos ht];rw[ht.1,if_neg (by decide)] at hl;refine⟨_,i1.tells hb ht.1 hy hb rfl ht.1 rfl (hyv ht.1) (Nat.le_of_not_lt hl),i2.same rfl (updC_parts ⟨rfl,rfl,rfl,rfl,rfl⟩) rfl rfl fun t ht'=>?_⟩;simp only at ht'
     split at ht'
     ·rcases List.mem_cons.1 ht' with rfl | ht'
      ·exact .inr ⟨hb,rfl,(i2.cls _ hb).2.2⟩
      ·exact .inl ht'
     ·exact .inl ht'
    ·rw[if_neg ht];have hkk:(S1.cl m.l.c).tells=false→(S1.cl m.l.c).write=false∧S1.back=false:=fun e=>by
      have hno:¬((S1.cl m.l.c).write=true∨S1.back=true):=fun e'=>ht ⟨e,e'⟩
      constructor
      ·cases ew:(S1.cl m.l.c).write with
       | true=>exact absurd (.inl ew) hno
       | false=>rfl
      ·cases ew:S1.back with
       | true=>exact absurd (.inr ew) hno
       | false=>rfl
     refine⟨_,i1.done hb hy rfl rfl hkt rfl rfl rfl hyv (Nat.le_of_not_lt hl) hkk,i2.done_ i1 hb rfl rfl rfl rfl ?_⟩;cases et:(S1.cl m.l.c).tells with
     | true=>exact hy.tval et
     | false=>exact hyv et
  ·rw[if_neg hc];exact⟨G,i1,i2⟩
theorem sall0 {n k ask tell:Nat} (back:Bool) (h1:1≤ask) (h2:1≤tell) (h3:tell≤n) (h4:n < ask+tell):SAll (sto0 n k ask tell back):=by
 have hq:∀key s,quoB n tell ((sto0 n k ask tell back).st key) s↔s.le ⟨0,-1⟩:=fun key s=>by
  unfold quoB;show tell≤(List.range n).countP (fun _=>decide (s.le ⟨0,-1⟩))↔_;by_cases e:s.le ⟨0,-1⟩
  ·simp[e,h3]
  ·simp[e];omega
 refine⟨⟨fun _ s=>if s.le ⟨0,-1⟩ then some 0 else none,fun _ _=>⟨0,0⟩,fun _=>0,[],[]⟩,⟨h1,h2,h4,fun key s L hp=>?_,fun key s hs=>?_,fun key s s' L' hs hp=>?_,fun m hm=>absurd hm (by simp[sto0]),fun c hc=>(by cases hc),fun c hc=>(by cases hc),fun _ _=>.inl ⟨rfl,rfl⟩,fun e he=>absurd he (by simp),fun e he=>absurd he (by simp),fun e he=>absurd he (by simp),fun r hr=>absurd hr (by simp)⟩,
  ⟨fun i hi=>absurd hi (by simp[sto0]),fun c hc=>(by cases hc),fun _ _=>rfl,fun _=>rfl,fun x hx=>absurd hx (by simp[histS,hist,sto0,Hs.new]),fun x hx=>absurd hx (by simp[histS,hist,sto0,Hs.new]),fun t ht=>absurd ht (by simp),fun t ht=>absurd ht (by simp),fun c hc=>(by cases hc),fun i x hx=>absurd hx (by simp[sto0]),fun c hc=>(by cases hc),fun r hr=>absurd hr (by simp)⟩⟩
 ·simp only at hp
  split at hp
  ·rename_i e
   cases hp;exact⟨(hq key s).2 e,Nat.le_refl _⟩
  ·cases hp
 ·exact⟨0,if_pos ((hq key s).1 hs)⟩
 ·simp only at hp ⊢
  split at hp
  ·rename_i e
   cases hp;exact⟨0,if_pos (Smp.le_trans hs e),Nat.le_refl _⟩
  ·cases hp
theorem abd_ops {S:Sto} (h:SAll S) (hb:S.back=true) {L:List Opn} (hL:OpsOf (histS S) L):
  ∃ord,OrdK L.length (fun i=>(L.getD i ⟨0,0,0,0,0,0,0,0⟩).c) (fun i=>(L.getD i ⟨0,0,0,0,0,0,0,0⟩).e) (fun i=>(L.getD i ⟨0,0,0,0,0,0,0,0⟩).k)
   (fun i=>if (L.getD i ⟨0,0,0,0,0,0,0,0⟩).d=2 then (L.getD i ⟨0,0,0,0,0,0,0,0⟩).a else (L.getD i ⟨0,0,0,0,0,0,0,0⟩).r) (fun i=>decide ((L.getD i ⟨0,0,0,0,0,0,0,0⟩).d=2)) ord:=by
 obtain⟨G,h1,h2⟩:=h;have hI:Inv (S.seen.map evS) S.seen.length (histS S):=inv_hist _ _ (by simp) h2.fine;have hr:=opsOf_rising hI hL;have hg:∀i (hi:i < L.length),L.getD i ⟨0,0,0,0,0,0,0,0⟩=L[i]:=fun i hi=>by rw[List.getD_eq_getElem?_getD,List.getElem?_eq_getElem hi];rfl
 obtain⟨qs,_,hqs,hperm,_⟩:=hL;have hin:∀x∈L,x∈(histS S).done∨∃p,(histS S).busy p=some x:=fun x hx=>by
  rcases List.mem_append.1 (hperm.mem_iff.1 hx) with hx | hx
  ·exact .inl hx
  ·exact .inr (mem_pending hx)
 refine abd_order h1 ⟨hb,fun i hi he=>?_,fun t ht=>?_,fun i j hi hj hc=>?_⟩
 ·simp only[hg i hi] at he ⊢;rcases hin _ (List.getElem_mem hi) with hx | ⟨p,hx⟩
  ·obtain⟨r,hr',hop⟩:=h2.done _ hx he;refine⟨r,hr',hop.bg,hop.ok,hop.key,?_,?_⟩
   ·rw[hop.d];cases r.write<;>rfl
   ·have hv:=hop.v;rw[hop.d];cases hw:r.write with
    | true=>rw[hw] at hv;simpa using hv
    | false=>rw[hw] at hv;simpa using hv
  ·have:=(hI.goodB p _ hx).2.2.1;omega
 ·have hx:∃x∈L,TwOp t x:=by
   rcases h2.told t ht with ⟨x,hx,hx2⟩ | ⟨hx,hx2⟩
   ·exact⟨x,hperm.mem_iff.2 (List.mem_append_left _ hx),hx2⟩
   ·have hbz:=h2.busy t.c hx;refine⟨_,hperm.mem_iff.2 (List.mem_append_right _ (List.mem_filterMap.2 ⟨t.c,(hqs t.c).2 (by rw[hbz];rfl),hbz⟩)),told_own h1 ht hx hx2⟩
  obtain⟨x,hx,hx2⟩:=hx;obtain⟨i,hi,rfl⟩:=List.mem_iff_getElem.1 hx;refine⟨i,hi,?_⟩;simp only[hg i hi];exact⟨hx2.bg,by rw[hx2.d];rfl,hx2.key,by rw[hx2.d,if_pos rfl];exact hx2.a⟩
 ·simp only[hg i hi,hg j hj] at hc;rcases Nat.lt_trichotomy i j with e | e | e
  ·have:=(List.pairwise_iff_getElem.1 hr i j hi hj e).1;omega
  ·exact e
  ·have:=(List.pairwise_iff_getElem.1 hr j i hj hi e).1;omega
def linkedB (what n who a b:Int):Bool:=
 if a=b then true
 else if what=0 then true
 else if what=1 then decide (a < n / 2)==decide (b < n / 2)
 else if what=2 then (decide (a < n / 2)==decide (b < n / 2))||decide (a=n / 2)||decide (b=n / 2)
 else if what=3 then decide (min (if a - b < 0 then -(a - b) else a - b) (n - (if a - b < 0 then -(a - b) else a - b))≤(n / 2+1) / 2)
 else decide (a≠who)&&decide (b≠who)
def asNode (n:Nat) (i:Int):Int:=if (n:Int)≤i then (i - n)%n else i
def cutL (n k:Nat) (what who:Int):Int→Int→Bool:=fun a b=>decide (0≤a∧a < n+k)&&decide (0≤b∧b < n+k)&&linkedB what n who (asNode n a) (asNode n b)
def busyN (S:Sto):Nat:=(List.range S.k).countP fun (j:Nat)=>(S.cl j).busy
def freeE (S:Sto) (c:Int):Int:=
 if c < 0∨(S.k:Int)≤c then 2
 else if (S.cl c).busy=true∨(S.cl c).gone=true then 6
 else if 120 < S.seen.length+2+busyN S then 4 else 0
def beginE (S:Sto) (c key:Int) (write:Bool) (value:Int):Int:=
 if key < 0∨7 < key∨numB value=false∨(value≠0∧write=false) then 2 else freeE S c
def giveE (S:Sto) (c:Int):Int:=if c < 0∨(S.k:Int)≤c then 2 else if (S.cl c).busy=false then 6 else 0
def takeE (S:Sto) (i:Int):Int:=if i < 0∨(S.mails.length:Int)≤i then 8 else match S.mails[i.toNat]? with
 | none=>8
 | some m=>if S.links m.fr m.to=true then 0 else 6
def delivS (S:Sto) (i:Int):Sto:=match S.mails[i.toNat]? with
 | none=>S
 | some m=>takeS {S with mails:=S.mails.eraseIdx i.toNat} m
def dropE (S:Sto) (i:Int):Int:=if i < 0∨(S.mails.length:Int)≤i then 8 else 0
def doubE (S:Sto) (i:Int):Int:=if i < 0∨(S.mails.length:Int)≤i then 8 else if 500≤S.mails.length then 4 else 0
def doubS (S:Sto) (i:Int):Sto:=match S.mails[i.toNat]? with
 | none=>S
 | some m=> {S with mails:=sendL S.mails m}
def cutE (S:Sto) (what n who:Int):Int:=if n < 1∨7 < n then 4 else if what=4∧(who < 0∨n≤who) then 2 else if n≠S.n then 3 else 0
def ruleOf (m:Mvs):Int:=if 7≤m.what∧m.what≤10 then m.what - 7 else 4
def playE (S:Sto) (m:Mvs):Int:=
 if m.what=0 then beginE S m.a m.b false m.c
 else if m.what=1 then beginE S m.a m.b true m.c
 else if m.what=2 then takeE S m.a
 else if m.what=3 then dropE S m.a
 else if m.what=4 then doubE S m.a
 else if m.what=5 then giveE S m.a
 else if m.what=6 then 0
 else cutE S (ruleOf m) m.a m.b
def playS (S:Sto) (m:Mvs):Sto:=
 if playE S m≠0 then S
 else if m.what=0 then beginS S m.a m.b false m.c
 else if m.what=1 then beginS S m.a m.b true m.c
 else if m.what=2 then delivS S m.a
 else if m.what=3 then {S with mails:=S.mails.eraseIdx m.a.toNat}
 else if m.what=4 then doubS S m.a
 else if m.what=5 then giveS S m.a
 else if m.what=6 then {S with links:=fun _ _=>true}
 else {S with links:=cutL S.n S.k (ruleOf m) m.b}
def runS (S:Sto) (l:List Mvs):Sto:=l.foldl playS S
def SameP (S S':Sto):Prop:=S'.n=S.n∧S'.k=S.k∧S'.ask=S.ask∧S'.tell=S.tell∧S'.back=S.back
theorem SameP.refl (S:Sto):SameP S S:=⟨rfl,rfl,rfl,rfl,rfl⟩
theorem SameP.trans {S S' S'':Sto} (h:SameP S S') (h':SameP S' S''):SameP S S'':=⟨h'.1.trans h.1,h'.2.1.trans h.2.1,h'.2.2.1.trans h.2.2.1,h'.2.2.2.1.trans h.2.2.2.1,h'.2.2.2.2.trans h.2.2.2.2⟩
theorem hear_same (S:Sto) (c node:Int) (l:Ltr):SameP S (hearS S c node l):=by
 unfold hearS;simp only;repeat' split
 all_goals exact .refl S
theorem take_same (S:Sto) (m:Ml):SameP S (takeS S m):=by
 unfold takeS
 split
 ·exact .refl S
 ·exact hear_same S _ _ _
theorem deliv_same (S:Sto) (i:Int):SameP S (delivS S i):=by
 unfold delivS
 split
 ·exact .refl S
 ·exact take_same {S with mails:=S.mails.eraseIdx i.toNat} _
theorem play_same (S:Sto) (m:Mvs):SameP S (playS S m):=by
 unfold playS;repeat' split
 all_goals first | exact .refl S | exact deliv_same S _ | skip
 unfold doubS
 split<;>exact .refl S
theorem free_parts {S:Sto} {c:Int} (h:freeE S c=0):0≤c∧c < S.k∧(S.cl c).busy=false∧(S.cl c).gone=false:=by
 unfold freeE at h
 split at h
 ·cases h
 ·split at h
  ·cases h
  ·rename_i h1 h2
   refine⟨by omega,by omega,?_,?_⟩
   ·cases e:(S.cl c).busy with
    | false=>rfl
    | true=>exact absurd (.inl e) h2
   ·cases e:(S.cl c).gone with
    | false=>rfl
    | true=>exact absurd (.inr e) h2
theorem begin_parts {S:Sto} {c key value:Int} {write:Bool} (h:beginE S c key write value=0):eightB key=true∧numB value=true∧freeE S c=0:=by
 unfold beginE at h
 split at h
 ·cases h
 ·rename_i h1
  refine⟨by simp[eightB];omega,?_,h⟩;cases e:numB value with
  | true=>rfl
  | false=>exact absurd (.inr (.inr (.inl e))) h1
theorem SAll.beginM {S:Sto} (h:SAll S) (hk:S.k≤8) {c key value:Int} {write:Bool} (he:beginE S c key write value=0):SAll (beginS S c key write value):=by
 obtain⟨h1,h2,h3⟩:=begin_parts he;obtain⟨a1,a2,a3,a4⟩:=free_parts h3;exact h.begin_ (by simp[eightB];omega) h1 h2 a3 a4
theorem SAll.play {S:Sto} (h:SAll S) (hk:S.k≤8) (m:Mvs):SAll (playS S m):=by
 unfold playS;by_cases he:playE S m≠0
 ·rw[if_pos he];exact h
 ·rw[if_neg he];have he:playE S m=0:=Classical.byContradiction he;unfold playE at he;by_cases e0:m.what=0
  ·rw[if_pos e0] at he ⊢;exact h.beginM hk he
  rw[if_neg e0] at he ⊢;by_cases e1:m.what=1
  ·rw[if_pos e1] at he ⊢;exact h.beginM hk he
  rw[if_neg e1] at he ⊢;by_cases e2:m.what=2
  ·rw[if_pos e2];unfold delivS
   split
   ·exact h
   ·rename_i x hx
    exact h.take (List.mem_of_getElem? hx) fun y hy=>List.mem_of_mem_eraseIdx hy
  rw[if_neg e2] at he ⊢;by_cases e3:m.what=3
  ·rw[if_pos e3];exact h.less (fun y hy=>List.mem_of_mem_eraseIdx hy) S.links
  rw[if_neg e3] at he ⊢;by_cases e4:m.what=4
  ·rw[if_pos e4];unfold doubS
   split
   ·exact h
   ·rename_i x hx
    refine h.less (fun y hy=>?_) S.links;rcases mem_sendL hy with hy | rfl
    ·exact hy
    ·exact List.mem_of_getElem? hx
  rw[if_neg e4] at he ⊢;by_cases e5:m.what=5
  ·rw[if_pos e5] at he ⊢;refine h.give ?_;unfold giveE at he
   split at he
   ·cases he
   ·split at he
    ·cases he
    ·rename_i h1
     cases e:(S.cl m.a).busy with
     | true=>rfl
     | false=>exact absurd e h1
  rw[if_neg e5]
  split
  ·exact h.less (fun y hy=>hy) _
  ·exact h.less (fun y hy=>hy) _
theorem SAll.run:∀(l:List Mvs) {S:Sto},SAll S→S.k≤8→SAll (runS S l)∧SameP S (runS S l)
 | [],S,h,_=>⟨h,.refl S⟩
 | m::l,S,h,hk=>by
  have h1:=play_same S m;obtain⟨a,b⟩:=SAll.run l (h.play hk m) (by rw[h1.2.1];exact hk);exact⟨a,h1.trans b⟩
end Go.Proofs.YtjpklmighoondaaGreatDoor
