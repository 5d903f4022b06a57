/-
  A run of ops in plain Lean: the states of the keys behind each, which op is fine, what a run tells.
  The search in plain Lean: from state to state, what is done told by the order in which it was done.
  What an order shows, in plain Lean; the search's order shows it, and whatever order shows it, the search can go along it.
  What inOrder of package event does.
  What opFault and CheckOps of package event do.
-/
import Derived.Test.YtjpklmighoondaaGreatDoorSetBY
import Derived.Laws.OwnMore
import Derived.Deep.RegionLaw
import Derived.Deep.QuietTactic
import Derived.BigQuiet
import Derived.Test.YtjpklmighoondaaGreatDoorPlainHY
import Derived.Test.YtjpklmighoondaaGreatDoorRowSY
import Derived.Test.YtjpklmighoondaaGreatDoorFieldsQY
import Derived.Deep.RegionWith
namespace Go.Proofs.YtjpklmighoondaaGreatDoor
open Go.RowKit
def setK {α:Type} (S:Int→α) (q:Int) (st:α):Int→α:=fun p=>if p=q then st else S p
theorem setK_same {α:Type} (S:Int→α) (q:Int) (st:α):setK S q st q=st:=by simp[setK]
theorem setK_other {α:Type} (S:Int→α) (q:Int) (st:α) (p:Int) (h:p≠q):setK S q st p=S p:=by simp[setK,h]
def opFine (o:Int) (S:Int→List Int) (op:Opn):Bool:=
 match stepM o (S op.k) op.d op.a op.b with
 | none=>false
 | some (_,r)=>decide (op.e < 0)||(op.r==r)
def after (o:Int) (S:Int→List Int) (op:Opn):Int→List Int:=
 match stepM o (S op.k) op.d op.a op.b with
 | none=>S
 | some (st',_)=>setK S op.k st'
def opOf (ops:List Opn) (n:Int):Option Opn:=if 0≤n then ops[n.toNat]? else none
def sAt (o:Int) (ops:List Opn) (ord:List Int):Nat→Int→List Int
 | 0=>fun _=>startL o
 | k+1=>match (ord[k]?).bind (opOf ops) with
  | none=>sAt o ops ord k
  | some op=>after o (sAt o ops ord k) op
def fineAt (o:Int) (ops:List Opn) (ord:List Int) (k:Nat):Bool:=
 match (ord[k]?).bind (opOf ops) with
 | none=>false
 | some op=>opFine o (sAt o ops ord k) op
theorem stepM_len_le {o k a b:Int} {st st':List Int} {r:Int} (h:stepM o st k a b=some (st',r)):st'.length≤max 1 (st.length+1):=by
 cases hk:knowsB o k
 ·rw[stepM_unknown hk] at h;cases h
 ·by_cases h1:oneB o=true∧st.length≠1
  ·rw[stepM_len h1.1 h1.2] at h;cases h
  ·have hone:oneB o=true→∃x,st= [x]:=fun e=>by
    have:st.length=1:=by
     by_cases h:st.length=1
     ·exact h
     ·exact absurd ⟨e,h⟩ h1
    exact List.length_eq_one_iff.1 this
   rcases knows_object hk with rfl | rfl | rfl | rfl | rfl | rfl
   ·obtain⟨x,rfl⟩:=hone rfl;rw[stepM_reg hk] at h;simp at h;rw[←h.1];simp
   ·obtain⟨x,rfl⟩:=hone rfl;rw[stepM_cnt hk] at h;simp at h;rw[←h.1];simp
   ·rw[stepM_set hk] at h;have h:=congrArg Prod.fst (Option.some.inj h);subst h;unfold setM
    split
    ·simp;omega
    ·split
     ·simp;omega
     ·split<;>simp<;>omega
   ·rw[stepM_que hk] at h;have h:=congrArg Prod.fst (Option.some.inj h);subst h;unfold queM
    split
    ·simp
    ·split<;>simp<;>omega
   ·rw[stepM_sta hk] at h;have h:=congrArg Prod.fst (Option.some.inj h);subst h;unfold staM
    split
    ·simp
    ·split<;>simp<;>omega
   ·obtain⟨x,rfl⟩:=hone rfl;rw[stepM_mut hk] at h;obtain⟨y,_,hy⟩:=Option.map_eq_some_iff.1 h;have h:=congrArg Prod.fst hy;simp at h;rw[←h];simp
theorem setM_rises {st:List Int} {k a:Int} (hs:st.Pairwise (· < ·)):(setM st k a).1.Pairwise (· < ·):=by
 by_cases h6:k=6∧st.contains a=false
 ·rw[setM_put h6.1 h6.2];have hn:a∉st:=by simpa using h6.2
  show (insL st (placeOf st a) a).Pairwise _;rw[←put_ins hs hn];exact putL_rises hs hn
 ·by_cases h7:k=7∧st.contains a=true
  ·rw[setM_drop h7.1 h7.2];have hn:a∈st:=by simpa using h7.2
   show (delL st (placeOf st a)).Pairwise _;rw[←filter_del hs hn];exact hs.filter _
  ·unfold setM;rw[if_neg h6,if_neg h7]
   split<;>exact hs
theorem sAt_len (o:Int) (ops:List Opn) (ord:List Int):∀(k:Nat) (q:Int),(sAt o ops ord k q).length≤k+1
 | 0,q=>by simp[sAt,startL];split<;>simp
 | k+1,q=>by
  have ih:=sAt_len o ops ord k;unfold sAt;cases (ord[k]?).bind (opOf ops) with
  | none=>have:=ih q;simp only;omega
  | some op=>
   simp only[after];cases hst:stepM o (sAt o ops ord k op.k) op.d op.a op.b with
   | none=>have:=ih q;simp only;omega
   | some p=>
    obtain⟨st',r⟩:=p;have h1:=stepM_len_le hst;have h2:=ih op.k;by_cases e:q=op.k
    ·subst e;simp only[setK_same];omega
    ·simp only[setK_other _ _ _ _ e];have:=ih q;omega
theorem sAt_rises (ops:List Opn) (ord:List Int):∀(k:Nat) (q:Int),(sAt 3 ops ord k q).Pairwise (· < ·)
 | 0,q=>by simp[sAt,startL,oneB]
 | k+1,q=>by
  have ih:=sAt_rises ops ord k;unfold sAt;cases (ord[k]?).bind (opOf ops) with
  | none=>exact ih q
  | some op=>
   simp only[after];cases hst:stepM 3 (sAt 3 ops ord k op.k) op.d op.a op.b with
   | none=>exact ih q
   | some p=>
    obtain⟨st',r⟩:=p;by_cases e:q=op.k
    ·subst e;simp only[setK_same];cases hk:knowsB 3 op.d with
     | false=>rw[stepM_unknown hk] at hst;cases hst
     | true=>
      rw[stepM_set hk] at hst;have h:=congrArg Prod.fst (Option.some.inj hst);simp only at h;rw[←h];exact setM_rises (ih op.k)
    ·simp only[setK_other _ _ _ _ e];exact ih q
theorem sAt_succ {o:Int} {ops:List Opn} {ord:List Int} {k:Nat} {op:Opn} (h:(ord[k]?).bind (opOf ops)=some op):sAt o ops ord (k+1)=after o (sAt o ops ord k) op:=by
 rw[sAt,h]
theorem fineAt_some {o:Int} {ops:List Opn} {ord:List Int} {k:Nat} {op:Opn} (h:(ord[k]?).bind (opOf ops)=some op):fineAt o ops ord k=opFine o (sAt o ops ord k) op:=by
 rw[fineAt,h]
def op0:Opn:=⟨0,0,0,0,0,0,0,0⟩
def opN (ops:List Opn) (n:Nat):Opn:=ops.getD n op0
theorem opN_at {ops:List Opn} {n:Nat} (h:n < ops.length):opN ops n=ops[n]:=by simp[opN,h]
structure Sr where
 o:Int
 ops:List Opn
 ah:Opn→Opn→Bool
 bud:Nat
 nm:List Nat→(Int→List Int)→List UInt8
def overB (ops:List Opn) (ord:List Nat):Bool:=(List.range ops.length).all fun n=>decide ((opN ops n).e < 0)||ord.contains n
def freeB (c:Sr) (ord:List Nat) (n:Nat):Bool:=
 !ord.contains n&&(List.range c.ops.length).all fun a=>a==n|| !c.ah (opN c.ops a) (opN c.ops n)||ord.contains a
def tellN (c:Sr) (S:Int→List Int) (n:Nat):Option (List Int):=
 match stepM c.o (S (opN c.ops n).k) (opN c.ops n).d (opN c.ops n).a (opN c.ops n).b with
 | none=>none
 | some (st,r)=>if decide ((opN c.ops n).e < 0)||(opN c.ops n).r==r then some st else none
def stepN (c:Sr) (S:Int→List Int) (ord:List Nat) (n:Nat):Option (List Int):=if freeB c ord n then tellN c S n else none
structure Res where
 code:Nat
 ord:List Nat
 ent:List (List UInt8)
def loopM (c:Sr) (vis:(Int→List Int)→List Nat→List (List UInt8)→Res) (S:Int→List Int) (ord:List Nat):List Nat→List (List UInt8)→Res
 | [],ent=>⟨2,ord,ent⟩
 | n::r,ent=>match stepN c S ord n with
  | none=>loopM c vis S ord r ent
  | some st=>
   let x:=vis (setK S (opN c.ops n).k st) (ord++ [n]) ent
   if x.code=2 then loopM c vis S ord r x.ent else x
def visitM (c:Sr):Nat→(Int→List Int)→List Nat→List (List UInt8)→Res
 | 0,_,ord,ent=>⟨2,ord,ent⟩
 | f+1,S,ord,ent=>
  if overB c.ops ord then⟨1,ord,ent⟩
  else if ent.contains (c.nm ord S) then⟨2,ord,ent⟩
  else if ent.length=c.bud then⟨3,ord,ent⟩
  else loopM c (visitM c f) S ord (List.range c.ops.length) (c.nm ord S::ent)
def searchM (c:Sr):Res:=visitM c (c.ops.length+1) (fun _=>startL c.o) [] []
inductive Reach (c : Sr) : List Nat → (Int → List Int) → Prop
 | start:Reach c [] (fun _=>startL c.o)
 | step {ord S n st} :Reach c ord S→n < c.ops.length→stepN c S ord n=some st→Reach c (ord++ [n]) (setK S (opN c.ops n).k st)
theorem stepN_free {c:Sr} {S:Int→List Int} {ord:List Nat} {n:Nat} {st:List Int} (h:stepN c S ord n=some st):freeB c ord n=true∧tellN c S n=some st:=by
 unfold stepN at h
 split at h
 ·exact⟨by assumption,h⟩
 ·cases h
theorem free_not {c:Sr} {ord:List Nat} {n:Nat} (h:freeB c ord n=true):n∉ord:=by
 simp only[freeB,Bool.and_eq_true] at h
 simpa using h.1
theorem reach_range {c:Sr} {ord:List Nat} {S:Int→List Int} (h:Reach c ord S):∀n∈ord,n < c.ops.length:=by
 induction h with
 | start=>simp
 | step h hn hs ih=>
  intro m hm;rcases List.mem_append.1 hm with hm | hm
  ·exact ih m hm
  ·rw[List.mem_singleton.1 hm];exact hn
theorem reach_nodup {c:Sr} {ord:List Nat} {S:Int→List Int} (h:Reach c ord S):ord.Nodup:=by
 induction h with
 | start=>simp
 | step h hn hs ih=>
  refine List.nodup_append.2 ⟨ih,by simp,?_⟩;intro a ha b hb e;rw[List.mem_singleton.1 hb] at e;exact free_not (stepN_free hs).1 (e▸ha)
theorem sub_length:∀(l m:List Nat),l.Nodup→(∀x∈l,x∈m)→l.length≤m.length
 | [],m,_,_=>by simp
 | a::l,m,h,hs=>by
  have ha:a∈m:=hs a (by simp);have hn:=List.nodup_cons.1 h;have:=sub_length l (m.erase a) hn.2 (fun x hx=>(List.mem_erase_of_ne (fun (e:x=a)=>hn.1 (by rw[←e];exact hx))).2 (hs x (List.mem_cons_of_mem _ hx)));rw[List.length_erase_of_mem ha] at this;have:=List.length_pos_of_mem ha;simp only[List.length_cons];omega
theorem nodup_length {n:Nat} {l:List Nat} (hl:l.Nodup) (hx:∀x∈l,x < n):l.length≤n:=by
 have h:=sub_length l (List.range n) hl (fun x h=>List.mem_range.2 (hx x h))
 simpa using h
theorem reach_length {c:Sr} {ord:List Nat} {S:Int→List Int} (h:Reach c ord S):ord.length≤c.ops.length:=nodup_length (reach_nodup h) (reach_range h)
theorem loop_valid {c:Sr} {vis:(Int→List Int)→List Nat→List (List UInt8)→Res} {S:Int→List Int} {ord:List Nat} (hR:Reach c ord S)
  (hv:∀S' ord' ent,Reach c ord' S'→(vis S' ord' ent).code=1→∃S'',Reach c (vis S' ord' ent).ord S''∧overB c.ops (vis S' ord' ent).ord=true):
  ∀(r:List Nat) (ent:List (List UInt8)),(∀n∈r,n < c.ops.length)→(loopM c vis S ord r ent).code=1→∃S'',Reach c (loopM c vis S ord r ent).ord S''∧overB c.ops (loopM c vis S ord r ent).ord=true
 | [],ent,_,h=>by simp[loopM] at h
 | n::r,ent,hr,h=>by
  unfold loopM at h ⊢;cases hs:stepN c S ord n with
  | none=>
   rw[hs] at h;exact loop_valid hR hv r ent (fun m hm=>hr m (List.mem_cons_of_mem _ hm)) h
  | some st=>
   rw[hs] at h;simp only at h ⊢
   split
   ·rename_i hc
    rw[if_pos hc] at h;exact loop_valid hR hv r _ (fun m hm=>hr m (List.mem_cons_of_mem _ hm)) h
   ·rename_i hc
    rw[if_neg hc] at h;exact hv _ _ _ (hR.step (hr n (by simp)) hs) h
theorem visit_valid {c:Sr} :∀(f:Nat) (S:Int→List Int) (ord:List Nat) (ent:List (List UInt8)),Reach c ord S→(visitM c f S ord ent).code=1→∃S'',Reach c (visitM c f S ord ent).ord S''∧overB c.ops (visitM c f S ord ent).ord=true
 | 0,S,ord,ent,hR,h=>by simp[visitM] at h
 | f+1,S,ord,ent,hR,h=>by
  unfold visitM at h ⊢
  split
  ·rename_i ho
   exact⟨S,hR,ho⟩
  ·rename_i ho
   rw[if_neg ho] at h
   split
   ·rename_i h2
    rw[if_pos h2] at h;simp at h
   ·rename_i h2
    rw[if_neg h2] at h
    split
    ·rename_i h3
     rw[if_pos h3] at h;simp at h
    ·rename_i h3
     rw[if_neg h3] at h;exact loop_valid hR (fun S' ord' ent' hR' h'=>visit_valid f S' ord' ent' hR' h') _ _ (fun m hm=>List.mem_range.1 hm) h
theorem loop_code {c:Sr} {vis:(Int→List Int)→List Nat→List (List UInt8)→Res} {S:Int→List Int} {ord:List Nat}
  (hv:∀S' ord' ent,(vis S' ord' ent).code=1∨(vis S' ord' ent).code=2∨(vis S' ord' ent).code=3):
  ∀(r:List Nat) (ent:List (List UInt8)),(loopM c vis S ord r ent).code=1∨(loopM c vis S ord r ent).code=2∨(loopM c vis S ord r ent).code=3
 | [],ent=>by simp[loopM]
 | n::r,ent=>by
  unfold loopM;cases hs:stepN c S ord n with
  | none=>exact loop_code hv r ent
  | some st=>
   simp only
   split
   ·exact loop_code hv r _
   ·exact hv _ _ _
theorem visit_code {c:Sr} :∀(f:Nat) (S:Int→List Int) (ord:List Nat) (ent:List (List UInt8)),(visitM c f S ord ent).code=1∨(visitM c f S ord ent).code=2∨(visitM c f S ord ent).code=3
 | 0,S,ord,ent=>by simp[visitM]
 | f+1,S,ord,ent=>by
  unfold visitM
  split
  ·simp
  ·split
   ·simp
   ·split
    ·simp
    ·exact loop_code (visit_code f) _ _
theorem loop_bud {c:Sr} {vis:(Int→List Int)→List Nat→List (List UInt8)→Res} {S:Int→List Int} {ord:List Nat}
  (hv:∀S' ord' ent,ent.length≤c.bud→(vis S' ord' ent).ent.length≤c.bud):
  ∀(r:List Nat) (ent:List (List UInt8)),ent.length≤c.bud→(loopM c vis S ord r ent).ent.length≤c.bud
 | [],ent,h=>by simpa [loopM] using h
 | n::r,ent,h=>by
  unfold loopM;cases hs:stepN c S ord n with
  | none=>exact loop_bud hv r ent h
  | some st=>
   simp only
   split
   ·exact loop_bud hv r _ (hv _ _ _ h)
   ·exact hv _ _ _ h
theorem visit_bud {c:Sr} :∀(f:Nat) (S:Int→List Int) (ord:List Nat) (ent:List (List UInt8)),ent.length≤c.bud→(visitM c f S ord ent).ent.length≤c.bud
 | 0,S,ord,ent,h=>by simpa [visitM] using h
 | f+1,S,ord,ent,h=>by
  unfold visitM
  split
  ·exact h
  ·split
   ·exact h
   ·split
    ·exact h
    ·rename_i h3
     exact loop_bud (visit_bud f) _ _ (by simp only[List.length_cons];omega)
def iL (ord:List Nat):List Int:=ord.map fun n:Nat=>(n:Int)
theorem iL_length (ord:List Nat):(iL ord).length=ord.length:=by simp[iL]
theorem iL_append (a b:List Nat):iL (a++b)=iL a++iL b:=by simp[iL]
def opI (ops:List Opn) (n:Int):Opn:=opN ops n.toNat
structure ShowsM (o : Int) (ops : List Opn) (ord : List Int) : Prop where
 range:∀n∈ord,0≤n∧n < ops.length
 once:ord.Nodup
 whole:∀n,n < ops.length→0≤(opN ops n).e→(n:Int)∈ord
 timely:∀j,(hj:j < ord.length)→∀i,(hi:i < j)→beforeB (opI ops ord[j]) (opI ops (ord[i]'(Nat.lt_trans hi hj)))=false
 fine:∀j,j < ord.length→fineAt o ops ord j=true
theorem sAt_append {o:Int} {ops:List Opn} {ord x:List Int} :∀k,k≤ord.length→sAt o ops (ord++x) k=sAt o ops ord k
 | 0,_=>rfl
 | k+1,h=>by
  have ih:=sAt_append (o:=o) (ops:=ops) (ord:=ord) (x:=x) k (by omega);unfold sAt;rw[List.getElem?_append_left (by omega),ih]
theorem fineAt_append {o:Int} {ops:List Opn} {ord x:List Int} {k:Nat} (h:k < ord.length):fineAt o ops (ord++x) k=fineAt o ops ord k:=by
 unfold fineAt;rw[List.getElem?_append_left h,sAt_append k (by omega)]
theorem opOf_nat {ops:List Opn} {n:Nat} (h:n < ops.length):opOf ops (n:Int)=some (opN ops n):=by simp[opOf,opN,h]
theorem tell_step {c:Sr} {S:Int→List Int} {n:Nat} {st:List Int} (h:tellN c S n=some st):∃r,stepM c.o (S (opN c.ops n).k) (opN c.ops n).d (opN c.ops n).a (opN c.ops n).b=some (st,r)∧((opN c.ops n).e < 0∨(opN c.ops n).r=r):=by
 unfold tellN at h
 split at h
 ·cases h
 ·rename_i st' r hs
  split at h
  ·rename_i hc
   cases h;refine⟨r,hs,?_⟩
   simpa using hc
  ·cases h
theorem tell_after {c:Sr} {S:Int→List Int} {n:Nat} {st:List Int} (h:tellN c S n=some st):opFine c.o S (opN c.ops n)=true∧after c.o S (opN c.ops n)=setK S (opN c.ops n).k st:=by
 obtain⟨r,hs,hr⟩:=tell_step h;unfold opFine after;rw[hs];refine⟨?_,rfl⟩;rcases hr with hr | hr
 ·simp[hr]
 ·simp[hr]
theorem reach_run {c:Sr} {ord:List Nat} {S:Int→List Int} (h:Reach c ord S):S=sAt c.o c.ops (iL ord) ord.length∧∀j,j < ord.length→fineAt c.o c.ops (iL ord) j=true:=by
 induction h with
 | start=>exact⟨rfl,fun j hj=>by simp at hj⟩
 | @step ord S n st h hn hs ih=>
  obtain⟨e,hf⟩:=ih;have ht:=tell_after (stepN_free hs).2;have hat:((iL ord++iL [n])[ord.length]?).bind (opOf c.ops)=some (opN c.ops n):=by
   rw[List.getElem?_append_right (by rw[iL_length];omega),iL_length,Nat.sub_self]
   simpa [iL] using opOf_nat hn
  rw[iL_append];refine⟨?_,fun j hj=>?_⟩
  ·rw[List.length_append,List.length_singleton,sAt_succ hat,sAt_append _ (by rw[iL_length];omega),←e,ht.2]
  ·rw[List.length_append,List.length_singleton] at hj;by_cases hjl:j < ord.length
   ·rw[fineAt_append (by rw[iL_length];exact hjl)];exact hf j hjl
   ·have:j=ord.length:=by omega
    subst this;rw[fineAt_some hat,sAt_append _ (by rw[iL_length];omega),←e];exact ht.1
theorem free_ahead {c:Sr} {ord:List Nat} {n:Nat} (h:freeB c ord n=true):∀a,a < c.ops.length→a≠n→c.ah (opN c.ops a) (opN c.ops n)=true→a∈ord:=by
 intro a ha hne hah;simp only[freeB,Bool.and_eq_true,List.all_eq_true] at h;have:=h.2 a (List.mem_range.2 ha);simp[hne,hah] at this;exact this
theorem reach_timely {c:Sr} {ord:List Nat} {S:Int→List Int} (h:Reach c ord S):∀j,(hj:j < ord.length)→∀i,(hi:i < j)→c.ah (opN c.ops ord[j]) (opN c.ops (ord[i]'(Nat.lt_trans hi hj)))=false:=by
 induction h with
 | start=>intro j hj;simp at hj
 | @step ord S n st h hn hs ih=>
  intro j hj i hi;have hl:(ord++ [n]).length=ord.length+1:=by simp
  have hnot:=free_not (stepN_free hs).1;have hr:=reach_range h;have hi2:i < ord.length:=by omega
  have ei:(ord++ [n])[i]'(by omega)=ord[i]:=List.getElem_append_left hi2;by_cases hj2:j < ord.length
  ·have ej:(ord++ [n])[j]'hj=ord[j]:=List.getElem_append_left hj2;rw[ei,ej];exact ih j hj2 i hi
  ·have hj3:j=ord.length:=by omega
   subst hj3;have ej:(ord++ [n])[ord.length]'hj=n:=by simp
   rw[ei,ej]
   -- what was done earlier was free then:n would have been ahead of it
   cases hb:c.ah (opN c.ops n) (opN c.ops ord[i]) with
   | false=>rfl
   | true=>
    exfalso
    have key:∀{ord:List Nat} {S:Int→List Int},Reach c ord S→∀i,(hi:i < ord.length)→c.ah (opN c.ops n) (opN c.ops ord[i])=true→n∈ord:=by
     intro ord S h
     induction h with
     | start=>intro i hi;simp at hi
     | @step ord S m st h hm hs ih=>
      intro i hi hb;by_cases hil:i < ord.length
      ·have e:(ord++ [m])[i]'hi=ord[i]:=List.getElem_append_left hil;rw[e] at hb;exact List.mem_append.2 (.inl (ih i hil hb))
      ·have:i=ord.length:=by simp at hi;omega
       subst this;have e:(ord++ [m])[ord.length]'hi=m:=by simp
       rw[e] at hb;by_cases hne:n=m
       ·simp[hne]
       ·exact List.mem_append.2 (.inl (free_ahead (stepN_free hs).1 n hn hne hb))
    exact hnot (key h i hi2 hb)
theorem reach_shows {c:Sr} {ord:List Nat} {S:Int→List Int} (h:Reach c ord S) (ho:overB c.ops ord=true) (hah:c.ah=beforeB):ShowsM c.o c.ops (iL ord) where
 range:=by
  intro n hn;obtain⟨m,hm,rfl⟩:=List.mem_map.1 hn;have:=reach_range h m hm;exact⟨by omega,by omega⟩
 once:=by
  have:=reach_nodup h;unfold iL;exact List.Pairwise.map _ (fun a b hab e=>hab (by omega)) this
 whole:=by
  intro n hn he;simp only[overB,List.all_eq_true] at ho;have:=ho n (List.mem_range.2 hn);simp at this;rcases this with h1 | h1
  ·omega
  ·exact List.mem_map.2 ⟨n,h1,rfl⟩
 timely:=by
  intro j hj i hi;have hj':j < ord.length:=by rw[iL_length] at hj;exact hj
  have:=reach_timely h j hj' i hi;rw[hah] at this
  simpa [iL,opI] using this
 fine:=fun j hj=>(reach_run h).2 j (by rw[iL_length] at hj;exact hj)
open Go.RowKit
theorem lastOk_nil (x:Opn):lastOk [] x=true:=rfl
theorem lastOk_pos (l:List Opn) (x:Opn) (h:0 < l.length):lastOk l x=decide ((l[l.length - 1]'(by omega)).c < x.c):=by
 unfold lastOk;rw[List.getLast?_eq_getElem?,List.getElem?_eq_getElem (by omega)]
def timesB (x:Opn):Bool:=if x.e= -1 then x.r==0 else decide (x.c < x.e)
theorem orderB_neg (l:List Opn) (x:Opn) (h:x.c < 0):orderB l x=false:=by
 have e:decide (0≤x.c)=false:=by simp;omega
 unfold orderB;rw[e];rfl
theorem orderB_last (l:List Opn) (x:Opn) (h:lastOk l x=false):orderB l x=false:=by simp[orderB,h]
theorem orderB_times (l:List Opn) (x:Opn) (h:¬x.c < 0) (h2:lastOk l x=true):orderB l x=timesB x:=by
 have e:decide (0≤x.c)=true:=by simp;omega
 unfold orderB timesB;rw[e,h2];rfl
set_option maxHeartbeats 1000000 in
theorem inOrder_neg (l:List Opn) (x:Opn) (b off cap:Nat) (w:World) (h:x.c < 0):
  Calls Tryz.prog 200 #[.slice (some ⟨b,off,none⟩) l.length cap,x.agg] w fun e w'=>e=.returned (.bool false)∧Below w.heap.size w w':=by
 have hd:decide (x.c < 0)=true:=by simp[h]
 unfold Opn.agg;go_enter Tryz.func200,Tryz.ntmps200
 go_wp2_with fail
 go_quiet (fail)
 go_wp2;go_ret;exact⟨rfl,below_drewN (belA (Below.refl _ _) _) _⟩
set_option maxHeartbeats 1000000 in
theorem inOrder_first (x:Opn) (b off cap:Nat) (w:World) (h:¬x.c < 0):
  Calls Tryz.prog 200 #[.slice (some ⟨b,off,none⟩) 0 cap,x.agg] w fun e w'=>e=.returned (.bool (timesB x))∧Below w.heap.size w w':=by
 have hd:decide (x.c < 0)=false:=by simp;omega
 cases he:x.e== -1
 ·have e:timesB x=decide (x.c < x.e):=by unfold timesB;rw[if_neg (by simpa using he)]
  rw[e];clear e;unfold Opn.agg;go_enter Tryz.func200,Tryz.ntmps200
  go_wp2_with fail
  go_quiet (fail)
  go_wp2;all_goals (go_ret;exact⟨by simp_all,below_drewN (belA (Below.refl _ _) _) _⟩)
 ·have e:timesB x=(x.r==0):=by unfold timesB;rw[if_pos (by simpa using he)]
  rw[e];clear e;unfold Opn.agg;go_enter Tryz.func200,Tryz.ntmps200
  go_wp2_with fail
  go_quiet (fail)
  go_wp2;all_goals (go_ret;exact⟨by simp_all,below_drewN (belA (Below.refl _ _) _) _⟩)
set_option maxHeartbeats 1000000 in
theorem inOrder_late (x:Opn) (m b off cap:Nat) (prev:Int) (w:World) (h:¬x.c < 0) (hm:m≤60) (hb:b < w.heap.size) (hp:w.cell? ⟨b,off+m*8+6,none⟩=some (.int .i64 prev)) (hl:x.c≤prev):
  Calls Tryz.prog 200 #[.slice (some ⟨b,off,none⟩) (m+1) cap,x.agg] w fun e w'=>e=.returned (.bool false)∧Below w.heap.size w w':=by
 have hd:decide (x.c < 0)=false:=by simp;omega
 have hd2:decide (x.c≤prev)=true:=by simp[hl]
 unfold Opn.agg;go_enter Tryz.func200,Tryz.ntmps200
 go_wp2_with fail
 go_quiet (fail)
 go_wp2;go_ret;exact⟨rfl,below_drewN (belA (Below.refl _ _) _) _⟩
set_option maxHeartbeats 1000000 in
theorem inOrder_next (x:Opn) (m b off cap:Nat) (prev:Int) (w:World) (h:¬x.c < 0) (hm:m≤60) (hb:b < w.heap.size) (hp:w.cell? ⟨b,off+m*8+6,none⟩=some (.int .i64 prev)) (hl:¬x.c≤prev):
  Calls Tryz.prog 200 #[.slice (some ⟨b,off,none⟩) (m+1) cap,x.agg] w fun e w'=>e=.returned (.bool (timesB x))∧Below w.heap.size w w':=by
 have hd:decide (x.c < 0)=false:=by simp;omega
 have hd2:decide (x.c≤prev)=false:=by simp;omega
 cases he:x.e== -1
 ·have e:timesB x=decide (x.c < x.e):=by unfold timesB;rw[if_neg (by simpa using he)]
  rw[e];clear e;unfold Opn.agg;go_enter Tryz.func200,Tryz.ntmps200
  go_wp2_with fail
  go_quiet (fail)
  go_wp2;all_goals (go_ret;exact⟨by simp_all,below_drewN (belA (Below.refl _ _) _) _⟩)
 ·have e:timesB x=(x.r==0):=by unfold timesB;rw[if_pos (by simpa using he)]
  rw[e];clear e;unfold Opn.agg;go_enter Tryz.func200,Tryz.ntmps200
  go_wp2_with fail
  go_quiet (fail)
  go_wp2;all_goals (go_ret;exact⟨by simp_all,below_drewN (belA (Below.refl _ _) _) _⟩)
theorem inOrder_any (l:List Opn) (x:Opn) (b off cap:Nat) (w:World) (hlen:l.length≤60) (hl:OpsAt w b off l) (hb:b < w.heap.size):
  Calls Tryz.prog 200 #[.slice (some ⟨b,off,none⟩) l.length cap,x.agg] w fun e w'=>e=.returned (.bool (orderB l x))∧Below w.heap.size w w':=by
 by_cases h:x.c < 0
 ·rw[orderB_neg l x h];exact inOrder_neg l x b off cap w h
 ·by_cases h0:l.length=0
  ·have e:l= []:=List.length_eq_zero_iff.1 h0;subst e;rw[orderB_times [] x h (lastOk_nil x)];exact inOrder_first x b off cap w h
  ·obtain⟨m,hm⟩:∃m,l.length=m+1:=⟨l.length - 1,by omega⟩;have hp:=(hl m (by omega)).2.2.2.2.2.2.1;have hlast:=lastOk_pos l x (by omega);have e2:(l[l.length - 1]'(by omega)).c=(l[m]'(by omega)).c:=by congr 1;simp[hm]
   rw[e2] at hlast;by_cases hle:x.c≤(l[m]'(by omega)).c
   ·rw[orderB_last l x (by rw[hlast];simp;omega),hm];exact inOrder_late x m b off cap _ w h (by omega) hb hp hle
   ·rw[orderB_times l x h (by rw[hlast];simp;omega),hm];exact inOrder_next x m b off cap _ w h (by omega) hb hp hle
open Go.RowKit
theorem opFaultN_range (l:List Opn) (x:Opn) (h:rangeB x=false):opFaultN l x=2:=by simp[opFaultN,h]
theorem opFaultN_kind (l:List Opn) (x:Opn) (h:rangeB x=true) (h2:kindB x.d=false):opFaultN l x=1:=by simp[opFaultN,h,h2]
theorem opFaultN_order (l:List Opn) (x:Opn) (h:rangeB x=true) (h2:kindB x.d=true) (h3:orderB l x=false):opFaultN l x=10:=by simp[opFaultN,h,h2,h3]
theorem opFaultN_twice (l:List Opn) (x:Opn) (h:rangeB x=true) (h2:kindB x.d=true) (h3:orderB l x=true) (h4:l.any (fun y=>shareB y x)=true):opFaultN l x=9:=by unfold opFaultN;rw[h,h2,h3,h4];rfl
theorem opFaultN_rest (l:List Opn) (x:Opn) (h:rangeB x=true) (h2:kindB x.d=true) (h3:orderB l x=true) (h4:l.any (fun y=>shareB y x)=false):opFaultN l x=if l.any (fun y=>clashB y x) then 6 else 0:=by unfold opFaultN;rw[h,h2,h3,h4];rfl
theorem opAt_new (w:World) (x:Opn):OpAt (w.alloc (.cells #[.int .i64 x.p,.int .i64 x.k,.int .i64 x.d,.int .i64 x.a,.int .i64 x.b,.int .i64 x.r,.int .i64 x.c,.int .i64 x.e] 157)) w.heap.size 0 x:=
 ⟨by simp,by simp,by simp,by simp,by simp,by simp,by simp,by simp⟩
set_option maxHeartbeats 1000000 in
theorem opFault_range (x:Opn) (v:Value) (w:World) (h:rangeB x=false):
  Calls Tryz.prog 138 #[v,x.agg] w fun e w'=>e=.returned (.int .i64 2)∧Below w.heap.size w w':=by
 unfold Opn.agg;cases h1:inB x.p x.k x.a x.b x.r
 ·go_enter Tryz.func138,Tryz.ntmps138
  go_wp2_with (go_at_call 119;refine(inBounds_any _ _ _ _ _ _).mono ?_;rintro e w' ⟨rfl,rfl⟩)
  go_ret;exact⟨rfl,belA (Below.refl _ _) _⟩
 ·cases h2:numB x.c
  ·go_enter Tryz.func138,Tryz.ntmps138
   go_wp2_with (first | (go_at_call 119;refine(inBounds_any _ _ _ _ _ _).mono ?_;rintro e w' ⟨rfl,rfl⟩) | (go_at_call 171;refine(isNumber_any _ _).mono ?_;rintro e w' ⟨rfl,rfl⟩))
   go_ret;exact⟨rfl,belA (Below.refl _ _) _⟩
  ·have h3:numB x.e=false:=by simpa [rangeB,h1,h2] using h
   clear h;go_enter Tryz.func138,Tryz.ntmps138
   go_wp2_with (first | (go_at_call 119;refine(inBounds_any _ _ _ _ _ _).mono ?_;rintro e w' ⟨rfl,rfl⟩) | (go_at_call 171;refine(isNumber_any _ _).mono ?_;rintro e w' ⟨rfl,rfl⟩))
   go_ret;exact⟨rfl,belA (Below.refl _ _) _⟩
set_option maxHeartbeats 2000000 in
theorem opFault_any (l:List Opn) (x:Opn) (b off cap:Nat) (w:World) (hlen:l.length≤60) (hl:OpsAt w b off l) (hb:b < w.heap.size):
  Calls Tryz.prog 138 #[.slice (some ⟨b,off,none⟩) l.length cap,x.agg] w fun e w'=>e=.returned (.int .i64 (opFaultN l x))∧Below w.heap.size w w':=by
 cases hr:rangeB x
 ·rw[opFaultN_range l x hr];exact opFault_range x _ w hr
 ·have hr':=hr;simp only[rangeB,Bool.and_eq_true] at hr';obtain⟨⟨h1,h2⟩,h3⟩:=hr';have HN:=opAt_new w x;have hbel:Below w.heap.size w (w.alloc (.cells #[.int .i64 x.p,.int .i64 x.k,.int .i64 x.d,.int .i64 x.a,.int .i64 x.b,.int .i64 x.r,.int .i64 x.c,.int .i64 x.e] 157)):=belA (Below.refl _ _) _;have hl1:=hl.below hb hbel;have hb1:b < (w.alloc (.cells #[.int .i64 x.p,.int .i64 x.k,.int .i64 x.d,.int .i64 x.a,.int .i64 x.b,.int .i64 x.r,.int .i64 x.c,.int .i64 x.e] 157)).heap.size:=by simp;omega
  have hlt:w.heap.size < (w.alloc (.cells #[.int .i64 x.p,.int .i64 x.k,.int .i64 x.d,.int .i64 x.a,.int .i64 x.b,.int .i64 x.r,.int .i64 x.c,.int .i64 x.e] 157)).heap.size:=by simp
  cases hk:kindB x.d
  ·rw[opFaultN_kind l x hr hk];unfold Opn.agg;clear HN hl1 hb1 hlt hbel;go_enter Tryz.func138,Tryz.ntmps138
   go_wp2_with (first | (go_at_call 119;refine(inBounds_any _ _ _ _ _ _).mono ?_;rintro e w' ⟨rfl,rfl⟩) | (go_at_call 171;refine(isNumber_any _ _).mono ?_;rintro e w' ⟨rfl,rfl⟩) | (go_at_call 120;refine(isKind_any _ _).mono ?_;rintro e w' ⟨rfl,rfl⟩))
   go_ret;exact⟨rfl,belA (Below.refl _ _) _⟩
  ·cases ho:orderB l x
   ·rw[opFaultN_order l x hr hk ho];have HI:=inOrder_any l x b off cap _ hlen hl1 hb1;rw[ho] at HI;have HI:=hideIt HI;unfold Opn.agg;clear HN hl1 hb1 hlt hbel;go_enter Tryz.func138,Tryz.ntmps138
    go_wp2_with (first | (go_at_call 119;refine(inBounds_any _ _ _ _ _ _).mono ?_;rintro e w' ⟨rfl,rfl⟩) | (go_at_call 171;refine(isNumber_any _ _).mono ?_;rintro e w' ⟨rfl,rfl⟩) | (go_at_call 120;refine(isKind_any _ _).mono ?_;rintro e w' ⟨rfl,rfl⟩))
    refine HI.out.mono ?_;rintro e w1 ⟨rfl,hb2⟩;go_wp2;go_ret;exact⟨rfl,belJ (belA (Below.refl _ _) _) hb2⟩
   ·have HI:=inOrder_any l x b off cap _ hlen hl1 hb1;rw[ho] at HI;have HI:=hideIt HI;have HN:=hideIt HN;have HL:=hideIt hl1;cases ht:l.any (fun y=>shareB y x)
    ·obtain⟨n,hc,HV⟩:∃c:Bool,l.any (fun y=>clashB y x)=c∧Hid (opFaultN l x=if c then 6 else 0):=⟨_,rfl,opFaultN_rest l x hr hk ho ht⟩;rw[HV.out];have HT:Hid (l.any (fun y=>shareB y x)=false):=ht;have HC:Hid (l.any (fun y=>clashB y x)=n):=hc;clear ht hl1 hl ho hc;unfold Opn.agg;go_enter Tryz.func138,Tryz.ntmps138
     go_wp2_with (first | (go_at_call 119;refine(inBounds_any _ _ _ _ _ _).mono ?_;rintro e w' ⟨rfl,rfl⟩) | (go_at_call 171;refine(isNumber_any _ _).mono ?_;rintro e w' ⟨rfl,rfl⟩) | (go_at_call 120;refine(isKind_any _ _).mono ?_;rintro e w' ⟨rfl,rfl⟩))
     refine HI.out.mono ?_;rintro e w1 ⟨rfl,hb2⟩;have hb2':=hb2.size;go_wp2_with fail
     refine(contains47 l x b off cap w.heap.size w1 hlen (HL.out.below hb1 hb2) (by omega) (HN.out.below hlt hb2)).mono ?_;rw[HT.out];rintro e w2 ⟨rfl,hb3⟩;have hb3':=hb3.size;go_wp2_with fail
     refine(contains49 l x b off cap w.heap.size w2 hlen ((HL.out.below hb1 hb2).below (by omega) hb3) (by omega) ((HN.out.below hlt hb2).below (by omega) hb3)).mono ?_;rw[HC.out];rintro e w3 ⟨rfl,hb4⟩;go_wp2;all_goals
      go_ret;refine⟨?_,belJ (belJ (belJ hbel hb2) hb3) hb4⟩
      simp_all
    ·rw[opFaultN_twice l x hr hk ho ht];have HT:Hid (l.any (fun y=>shareB y x)=true):=ht;clear ht hl1 hl ho;unfold Opn.agg;go_enter Tryz.func138,Tryz.ntmps138
     go_wp2_with (first | (go_at_call 119;refine(inBounds_any _ _ _ _ _ _).mono ?_;rintro e w' ⟨rfl,rfl⟩) | (go_at_call 171;refine(isNumber_any _ _).mono ?_;rintro e w' ⟨rfl,rfl⟩) | (go_at_call 120;refine(isKind_any _ _).mono ?_;rintro e w' ⟨rfl,rfl⟩))
     refine HI.out.mono ?_;rintro e w1 ⟨rfl,hb2⟩;have hb2':=hb2.size;go_wp2_with fail
     refine(contains47 l x b off cap w.heap.size w1 hlen (HL.out.below hb1 hb2) (by omega) (HN.out.below hlt hb2)).mono ?_;rw[HT.out];rintro e w2 ⟨rfl,hb3⟩;go_wp2;go_ret;exact⟨rfl,belJ (belJ hbel hb2) hb3⟩
end Go.Proofs.YtjpklmighoondaaGreatDoor
