/-
  The search in plain Lean: from state to state, what is done told by the order in which it was done.
  What an order shows, in plain Lean; the search's order shows it, and whatever order shows it, the search can go along it.
  Chapter 17 in plain Lean: the ops that are made of what is seen are shown by an order, as chapter 3 says.
  What inOrder of package event does.
-/
import Derived.Test.YtjpklmighoondaaGreatDoorCallWZ
import Derived.Test.YtjpklmighoondaaGreatDoorAbVZ
import Derived.Test.YtjpklmighoondaaGreatDoorWalkCZ
import Derived.Deep.QuietTactic
import Derived.BigQuiet
namespace Go.Proofs.YtjpklmighoondaaGreatDoor
def op0:Opn:=⟨0,0,0,0,0,0,0,0⟩
def opN (ops:List Opn) (n:Nat):Opn:=ops.getD n op0
theorem opN_at {ops:List Opn} {n:Nat} (h:n < ops.length):opN ops n=ops[n]:=by simp[opN,h]
structure Sr where
 o:Int
 ops:List Opn
 ah:Opn→Opn→Bool
 bud:Nat
 nm:List Nat→(Int→List Int)→List UInt8
def overB (ops:List Opn) (ord:List Nat):Bool:=(List.range ops.length).all fun n=>decide ((opN ops n).e < 0)||ord.contains n
def freeB (c:Sr) (ord:List Nat) (n:Nat):Bool:=
 !ord.contains n&&(List.range c.ops.length).all fun a=>a==n|| !c.ah (opN c.ops a) (opN c.ops n)||ord.contains a
def tellN (c:Sr) (S:Int→List Int) (n:Nat):Option (List Int):=
 match stepM c.o (S (opN c.ops n).k) (opN c.ops n).d (opN c.ops n).a (opN c.ops n).b with
 | none=>none
 | some (st,r)=>if decide ((opN c.ops n).e < 0)||(opN c.ops n).r==r then some st else none
def stepN (c:Sr) (S:Int→List Int) (ord:List Nat) (n:Nat):Option (List Int):=if freeB c ord n then tellN c S n else none
structure Res where
 code:Nat
 ord:List Nat
 ent:List (List UInt8)
def loopM (c:Sr) (vis:(Int→List Int)→List Nat→List (List UInt8)→Res) (S:Int→List Int) (ord:List Nat):List Nat→List (List UInt8)→Res
 | [],ent=>⟨2,ord,ent⟩
 | n::r,ent=>match stepN c S ord n with
  | none=>loopM c vis S ord r ent
  | some st=>
   let x:=vis (setK S (opN c.ops n).k st) (ord++ [n]) ent
   if x.code=2 then loopM c vis S ord r x.ent else x
def visitM (c:Sr):Nat→(Int→List Int)→List Nat→List (List UInt8)→Res
 | 0,_,ord,ent=>⟨2,ord,ent⟩
 | f+1,S,ord,ent=>
  if overB c.ops ord then⟨1,ord,ent⟩
  else if ent.contains (c.nm ord S) then⟨2,ord,ent⟩
  else if ent.length=c.bud then⟨3,ord,ent⟩
  else loopM c (visitM c f) S ord (List.range c.ops.length) (c.nm ord S::ent)
def searchM (c:Sr):Res:=visitM c (c.ops.length+1) (fun _=>startL c.o) [] []
inductive Reach (c : Sr) : List Nat → (Int → List Int) → Prop
 | start:Reach c [] (fun _=>startL c.o)
 | step {ord S n st} :Reach c ord S→n < c.ops.length→stepN c S ord n=some st→Reach c (ord++ [n]) (setK S (opN c.ops n).k st)
theorem stepN_free {c:Sr} {S:Int→List Int} {ord:List Nat} {n:Nat} {st:List Int} (h:stepN c S ord n=some st):freeB c ord n=true∧tellN c S n=some st:=by
 unfold stepN at h
 split at h
 ·exact⟨by assumption,h⟩
 ·cases h
theorem free_not {c:Sr} {ord:List Nat} {n:Nat} (h:freeB c ord n=true):n∉ord:=by
 simp only[freeB,Bool.and_eq_true] at h
 simpa using h.1
theorem reach_range {c:Sr} {ord:List Nat} {S:Int→List Int} (h:Reach c ord S):∀n∈ord,n < c.ops.length:=by
 induction h with
 | start=>simp
 | step h hn hs ih=>
  intro m hm;rcases List.mem_append.1 hm with hm | hm
  ·exact ih m hm
  ·rw[List.mem_singleton.1 hm];exact hn
theorem reach_nodup {c:Sr} {ord:List Nat} {S:Int→List Int} (h:Reach c ord S):ord.Nodup:=by
 induction h with
 | start=>simp
 | step h hn hs ih=>
  refine List.nodup_append.2 ⟨ih,by simp,?_⟩;intro a ha b hb e;rw[List.mem_singleton.1 hb] at e;exact free_not (stepN_free hs).1 (e▸ha)
theorem sub_length:∀(l m:List Nat),l.Nodup→(∀x∈l,x∈m)→l.length≤m.length
 | [],m,_,_=>by simp
 | a::l,m,h,hs=>by
  have ha:a∈m:=hs a (by simp);have hn:=List.nodup_cons.1 h;have:=sub_length l (m.erase a) hn.2 (fun x hx=>(List.mem_erase_of_ne (fun (e:x=a)=>hn.1 (by rw[←e];exact hx))).2 (hs x (List.mem_cons_of_mem _ hx)));rw[List.length_erase_of_mem ha] at this;have:=List.length_pos_of_mem ha;simp only[List.length_cons];omega
theorem nodup_length {n:Nat} {l:List Nat} (hl:l.Nodup) (hx:∀x∈l,x < n):l.length≤n:=by
 have h:=sub_length l (List.range n) hl (fun x h=>List.mem_range.2 (hx x h))
 simpa using h
theorem reach_length {c:Sr} {ord:List Nat} {S:Int→List Int} (h:Reach c ord S):ord.length≤c.ops.length:=nodup_length (reach_nodup h) (reach_range h)
theorem loop_code {c:Sr} {vis:(Int→List Int)→List Nat→List (List UInt8)→Res} {S:Int→List Int} {ord:List Nat}
  (hv:∀S' ord' ent,(vis S' ord' ent).code=1∨(vis S' ord' ent).code=2∨(vis S' ord' ent).code=3):
  ∀(r:List Nat) (ent:List (List UInt8)),(loopM c vis S ord r ent).code=1∨(loopM c vis S ord r ent).code=2∨(loopM c vis S ord r ent).code=3
 | [],ent=>by simp[loopM]
 | n::r,ent=>by
  unfold loopM;cases hs:stepN c S ord n with
  | none=>exact loop_code hv r ent
  | some st=>
   simp only
   split
   ·exact loop_code hv r _
   ·exact hv _ _ _
theorem visit_code {c:Sr} :∀(f:Nat) (S:Int→List Int) (ord:List Nat) (ent:List (List UInt8)),(visitM c f S ord ent).code=1∨(visitM c f S ord ent).code=2∨(visitM c f S ord ent).code=3
 | 0,S,ord,ent=>by simp[visitM]
 | f+1,S,ord,ent=>by
  unfold visitM
  split
  ·simp
  ·split
   ·simp
   ·split
    ·simp
    ·exact loop_code (visit_code f) _ _
theorem loop_bud {c:Sr} {vis:(Int→List Int)→List Nat→List (List UInt8)→Res} {S:Int→List Int} {ord:List Nat}
  (hv:∀S' ord' ent,ent.length≤c.bud→(vis S' ord' ent).ent.length≤c.bud):
  ∀(r:List Nat) (ent:List (List UInt8)),ent.length≤c.bud→(loopM c vis S ord r ent).ent.length≤c.bud
 | [],ent,h=>by simpa [loopM] using h
 | n::r,ent,h=>by
  unfold loopM;cases hs:stepN c S ord n with
  | none=>exact loop_bud hv r ent h
  | some st=>
   simp only
   split
   ·exact loop_bud hv r _ (hv _ _ _ h)
   ·exact hv _ _ _ h
theorem visit_bud {c:Sr} :∀(f:Nat) (S:Int→List Int) (ord:List Nat) (ent:List (List UInt8)),ent.length≤c.bud→(visitM c f S ord ent).ent.length≤c.bud
 | 0,S,ord,ent,h=>by simpa [visitM] using h
 | f+1,S,ord,ent,h=>by
  unfold visitM
  split
  ·exact h
  ·split
   ·exact h
   ·split
    ·exact h
    ·rename_i h3
     exact loop_bud (visit_bud f) _ _ (by simp only[List.length_cons];omega)
inductive Comp (c : Sr) : List Nat → (Int → List Int) → Prop
 | over {ord S} :overB c.ops ord=true→Comp c ord S
 | step {ord S n st} :n < c.ops.length→stepN c S ord n=some st→Comp c (ord++ [n]) (setK S (opN c.ops n).k st)→Comp c ord S
def OwnNm (c:Sr):Prop:=∀ord S ord' S',Reach c ord S→Reach c ord' S'→c.nm ord S=c.nm ord' S'→(∀n,n∈ord↔n∈ord')∧S=S'
theorem over_same {ops:List Opn} {ord ord':List Nat} (h:∀n,n∈ord↔n∈ord'):overB ops ord=overB ops ord':=by
 have:∀n,ord.contains n=ord'.contains n:=fun n=>by rw[Bool.eq_iff_iff];simpa using h n
 simp only[overB,this]
theorem step_same {c:Sr} {S:Int→List Int} {ord ord':List Nat} (h:∀n,n∈ord↔n∈ord') (n:Nat):stepN c S ord n=stepN c S ord' n:=by
 have:∀n,ord.contains n=ord'.contains n:=fun n=>by rw[Bool.eq_iff_iff];simpa using h n
 have hf:freeB c ord n=freeB c ord' n:=by simp only[freeB,this]
 unfold stepN;rw[hf]
theorem comp_same {c:Sr} {S:Int→List Int} {ord:List Nat} (hc:Comp c ord S):∀{ord':List Nat},(∀n,n∈ord↔n∈ord')→Comp c ord' S:=by
 induction hc with
 | over h=>intro ord' e;exact .over (by rw[←over_same e];exact h)
 | step hn hs _ ih=>
  intro ord' e;refine .step hn (by rw[←step_same e];exact hs) (ih ?_);intro m;simp only[List.mem_append,List.mem_singleton,e m]
def DeadN (c:Sr) (x:List UInt8):Prop:=∀ord S,Reach c ord S→c.nm ord S=x→¬Comp c ord S
def AnceN (c:Sr) (ord:List Nat) (x:List UInt8):Prop:=∃ord' S',Reach c ord' S'∧c.nm ord' S'=x∧(∀n∈ord',n∈ord)∧∃n∈ord,n∉ord'
theorem visit_dead {c:Sr} (hO:OwnNm c):∀(f:Nat) (S:Int→List Int) (ord:List Nat) (ent:List (List UInt8)),Reach c ord S→f+ord.length=c.ops.length+1→
  ∀A:List (List UInt8),(∀x∈A,AnceN c ord x)→(∀x∈ent,DeadN c x∨x∈A)→(visitM c f S ord ent).code=2→¬Comp c ord S∧∀x∈(visitM c f S ord ent).ent,DeadN c x∨x∈A:=by
 intro f
 induction f with
 | zero=>intro S ord ent hR hf;have:=reach_length hR;omega
 | succ f ih=>
  intro S ord ent hR hf A hA hE h;unfold visitM at h ⊢;by_cases h1:overB c.ops ord=true
  ·rw[if_pos h1] at h;cases h
  ·rw[if_neg h1] at h ⊢;by_cases h2:ent.contains (c.nm ord S)=true
   ·rw[if_pos h2];have hm:c.nm ord S∈ent:=by simpa using h2
    refine⟨?_,hE⟩;rcases hE _ hm with hd | ha
    ·exact hd ord S hR rfl
    ·obtain⟨ord',S',hR',e,_,n,hn,hn'⟩:=hA _ ha;exact absurd (((hO ord' S' ord S hR' hR e).1 n).2 hn) hn'
   ·rw[if_neg h2] at h ⊢;by_cases h3:ent.length=c.bud
    ·rw[if_pos h3] at h;cases h
    ·rw[if_neg h3] at h ⊢;have key:∀(r:List Nat) (ent:List (List UInt8)),(∀n∈r,n < c.ops.length)→(∀x∈ent,DeadN c x∨x∈c.nm ord S::A)→(loopM c (visitM c f) S ord r ent).code=2→
       (∀n∈r,∀st,stepN c S ord n=some st→¬Comp c (ord++ [n]) (setK S (opN c.ops n).k st))∧∀x∈(loopM c (visitM c f) S ord r ent).ent,DeadN c x∨x∈c.nm ord S::A:=by
      intro r
      induction r with
      | nil=>intro ent _ hE _;exact⟨by simp,by simpa [loopM] using hE⟩
      | cons n r ihr=>
       intro ent hr hE h;have hr':∀m∈r,m < c.ops.length:=fun m hm=>hr m (List.mem_cons_of_mem _ hm)
       unfold loopM at h ⊢;cases hs:stepN c S ord n with
       | none=>
        rw[hs] at h;have:=ihr ent hr' hE h;refine⟨fun m hm st hst=>?_,this.2⟩;rcases List.mem_cons.1 hm with rfl | hm
        ·rw[hs] at hst;cases hst
        ·exact this.1 m hm st hst
       | some st=>
        rw[hs] at h;simp only at h ⊢;by_cases hc:(visitM c f (setK S (opN c.ops n).k st) (ord++ [n]) ent).code=2
        ·rw[if_pos hc] at h ⊢;have hR2:=hR.step (hr n (by simp)) hs;have hx:=ih _ _ ent hR2 (by simp;omega) (c.nm ord S::A) (fun x hx=>by
          have hself:AnceN c (ord++ [n]) (c.nm ord S):=⟨ord,S,hR,rfl,fun m hm=>by simp[hm],n,by simp,free_not (stepN_free hs).1⟩;rcases List.mem_cons.1 hx with rfl | hx
          ·exact hself
          ·obtain⟨ord',S',hR',e,hsub,m,hm,hm'⟩:=hA x hx;exact⟨ord',S',hR',e,fun k hk=>List.mem_append.2 (.inl (hsub k hk)),m,List.mem_append.2 (.inl hm),hm'⟩) hE hc
         have:=ihr _ hr' hx.2 h;refine⟨fun m hm st' hst=>?_,this.2⟩;rcases List.mem_cons.1 hm with rfl | hm
         ·rw[hs] at hst;cases hst;exact hx.1
         ·exact this.1 m hm st' hst
        ·rw[if_neg hc] at h;exact absurd h hc
     have hk:=key (List.range c.ops.length) (c.nm ord S::ent) (fun m hm=>List.mem_range.1 hm) (fun x hx=>by
      rcases List.mem_cons.1 hx with rfl | hx
      ·exact .inr (by simp)
      ·rcases hE x hx with hd | ha
       ·exact .inl hd
       ·exact .inr (List.mem_cons_of_mem _ ha)) h
     have hdead:¬Comp c ord S:=by
      intro hC;cases hC with
      | over h=>exact h1 h
      | step hn hs hC=>exact hk.1 _ (List.mem_range.2 hn) _ hs hC
     refine⟨hdead,fun x hx=>?_⟩;rcases hk.2 x hx with hd | ha
     ·exact .inl hd
     ·rcases List.mem_cons.1 ha with rfl | ha
      ·left
       intro ord' S' hR' e hC;obtain⟨hm,rfl⟩:=hO ord' S' ord S hR' hR e;exact hdead (comp_same hC hm)
      ·exact .inr ha
theorem search_dead {c:Sr} (hO:OwnNm c) (h:(searchM c).code=2):¬Comp c [] (fun _=>startL c.o):=
 (visit_dead hO (c.ops.length+1) _ [] [] Reach.start (by simp) [] (by simp) (by simp) h).1
def iL (ord:List Nat):List Int:=ord.map fun n:Nat=>(n:Int)
theorem iL_length (ord:List Nat):(iL ord).length=ord.length:=by simp[iL]
theorem iL_append (a b:List Nat):iL (a++b)=iL a++iL b:=by simp[iL]
theorem iL_get {ord:List Nat} {k:Nat} (h:k < ord.length):(iL ord)[k]?=some (ord[k]:Int):=by simp[iL,h]
def opI (ops:List Opn) (n:Int):Opn:=opN ops n.toNat
structure ShowsM (o : Int) (ops : List Opn) (ord : List Int) : Prop where
 range:∀n∈ord,0≤n∧n < ops.length
 once:ord.Nodup
 whole:∀n,n < ops.length→0≤(opN ops n).e→(n:Int)∈ord
 timely:∀j,(hj:j < ord.length)→∀i,(hi:i < j)→beforeB (opI ops ord[j]) (opI ops (ord[i]'(Nat.lt_trans hi hj)))=false
 fine:∀j,j < ord.length→fineAt o ops ord j=true
theorem sAt_append {o:Int} {ops:List Opn} {ord x:List Int} :∀k,k≤ord.length→sAt o ops (ord++x) k=sAt o ops ord k
 | 0,_=>rfl
 | k+1,h=>by
  have ih:=sAt_append (o:=o) (ops:=ops) (ord:=ord) (x:=x) k (by omega);unfold sAt;rw[List.getElem?_append_left (by omega),ih]
theorem fineAt_append {o:Int} {ops:List Opn} {ord x:List Int} {k:Nat} (h:k < ord.length):fineAt o ops (ord++x) k=fineAt o ops ord k:=by
 unfold fineAt;rw[List.getElem?_append_left h,sAt_append k (by omega)]
theorem opOf_nat {ops:List Opn} {n:Nat} (h:n < ops.length):opOf ops (n:Int)=some (opN ops n):=by simp[opOf,opN,h]
theorem tell_step {c:Sr} {S:Int→List Int} {n:Nat} {st:List Int} (h:tellN c S n=some st):∃r,stepM c.o (S (opN c.ops n).k) (opN c.ops n).d (opN c.ops n).a (opN c.ops n).b=some (st,r)∧((opN c.ops n).e < 0∨(opN c.ops n).r=r):=by
 unfold tellN at h
 split at h
 ·cases h
 ·rename_i st' r hs
  split at h
  ·rename_i hc
   cases h;refine⟨r,hs,?_⟩
   simpa using hc
  ·cases h
theorem tell_after {c:Sr} {S:Int→List Int} {n:Nat} {st:List Int} (h:tellN c S n=some st):opFine c.o S (opN c.ops n)=true∧after c.o S (opN c.ops n)=setK S (opN c.ops n).k st:=by
 obtain⟨r,hs,hr⟩:=tell_step h;unfold opFine after;rw[hs];refine⟨?_,rfl⟩;rcases hr with hr | hr
 ·simp[hr]
 ·simp[hr]
theorem tell_of_fine {c:Sr} {S:Int→List Int} {n:Nat} (h:opFine c.o S (opN c.ops n)=true):∃st,tellN c S n=some st∧after c.o S (opN c.ops n)=setK S (opN c.ops n).k st:=by
 unfold opFine at h;unfold tellN after;cases hs:stepM c.o (S (opN c.ops n).k) (opN c.ops n).d (opN c.ops n).a (opN c.ops n).b with
 | none=>rw[hs] at h;cases h
 | some p=>
  obtain⟨st,r⟩:=p;rw[hs] at h;exact⟨st,by simp only;rw[if_pos h],rfl⟩
theorem reach_run {c:Sr} {ord:List Nat} {S:Int→List Int} (h:Reach c ord S):S=sAt c.o c.ops (iL ord) ord.length∧∀j,j < ord.length→fineAt c.o c.ops (iL ord) j=true:=by
 induction h with
 | start=>exact⟨rfl,fun j hj=>by simp at hj⟩
 | @step ord S n st h hn hs ih=>
  obtain⟨e,hf⟩:=ih;have ht:=tell_after (stepN_free hs).2;have hat:((iL ord++iL [n])[ord.length]?).bind (opOf c.ops)=some (opN c.ops n):=by
   rw[List.getElem?_append_right (by rw[iL_length];omega),iL_length,Nat.sub_self]
   simpa [iL] using opOf_nat hn
  rw[iL_append];refine⟨?_,fun j hj=>?_⟩
  ·rw[List.length_append,List.length_singleton,sAt_succ hat,sAt_append _ (by rw[iL_length];omega),←e,ht.2]
  ·rw[List.length_append,List.length_singleton] at hj;by_cases hjl:j < ord.length
   ·rw[fineAt_append (by rw[iL_length];exact hjl)];exact hf j hjl
   ·have:j=ord.length:=by omega
    subst this;rw[fineAt_some hat,sAt_append _ (by rw[iL_length];omega),←e];exact ht.1
theorem free_ahead {c:Sr} {ord:List Nat} {n:Nat} (h:freeB c ord n=true):∀a,a < c.ops.length→a≠n→c.ah (opN c.ops a) (opN c.ops n)=true→a∈ord:=by
 intro a ha hne hah;simp only[freeB,Bool.and_eq_true,List.all_eq_true] at h;have:=h.2 a (List.mem_range.2 ha);simp[hne,hah] at this;exact this
theorem shows_comp {c:Sr} {ord:List Nat} (h:ShowsM c.o c.ops (iL ord))
  (hah:∀a b,a < c.ops.length→b < c.ops.length→a≠b→c.ah (opN c.ops a) (opN c.ops b)=true→beforeB (opN c.ops a) (opN c.ops b)=true):Comp c [] (fun _=>startL c.o):=by
 have hrange:∀n∈ord,n < c.ops.length:=fun n hn=>by
  have:=(h.range (n:Int) (List.mem_map.2 ⟨n,hn,rfl⟩)).2;omega
 have honce:ord.Nodup:=by
  have:=h.once;unfold iL at this;exact(List.pairwise_map.1 this).imp (fun hab e=>hab (by rw[e]))
 have hwhole:∀n,n < c.ops.length→0≤(opN c.ops n).e→n∈ord:=fun n hn he=>by
  obtain⟨m,hm,e⟩:=List.mem_map.1 (h.whole n hn he);have:m=n:=by omega
  rw[←this];exact hm
 have key:∀d j,j+d=ord.length→Comp c (ord.take j) (sAt c.o c.ops (iL ord) j):=by
  intro d
  induction d with
  | zero=>
   intro j hj;refine .over ?_;rw[List.take_of_length_le (by omega)];simp only[overB,List.all_eq_true];intro n hn;have hn:=List.mem_range.1 hn;by_cases he:(opN c.ops n).e < 0
   ·simp[he]
   ·simp[hwhole n hn (by omega)]
  | succ d ih=>
   intro j hj;have hjl:j < ord.length:=by omega
   have hn:ord[j] < c.ops.length:=hrange _ (List.getElem_mem hjl);have hat:((iL ord)[j]?).bind (opOf c.ops)=some (opN c.ops ord[j]):=by
    rw[iL_get hjl];exact opOf_nat hn
   have hfine:opFine c.o (sAt c.o c.ops (iL ord) j) (opN c.ops ord[j])=true:=by
    rw[←fineAt_some hat];exact h.fine j (by rw[iL_length];exact hjl)
   obtain⟨st,ht,ha⟩:=tell_of_fine hfine;have hfree:freeB c (ord.take j) ord[j]=true:=by
    simp only[freeB,Bool.and_eq_true,List.all_eq_true]
    constructor
    ·have:ord[j]∉ord.take j:=by
      intro hm;obtain⟨i,hi,e⟩:=List.getElem_of_mem hm;have hi':i < j:=by simp at hi;omega
      rw[List.getElem_take] at e;have:=(List.pairwise_iff_getElem.1 honce) i j (by omega) hjl hi';exact this e
     simpa using this
    ·intro a ha;have ha:=List.mem_range.1 ha;by_cases hne:a=ord[j]
     ·simp[hne]
     ·cases hb:c.ah (opN c.ops a) (opN c.ops ord[j]) with
      | false=>simp
      | true=>
       have hbf:=hah a ord[j] ha hn hne hb;have he:0≤(opN c.ops a).e:=by
        simp only[beforeB,Bool.and_eq_true,decide_eq_true_eq] at hbf;exact hbf.1
       obtain⟨i,hi,e⟩:=List.getElem_of_mem (hwhole a ha he);have hij:i < j:=by
        rcases Nat.lt_trichotomy i j with hlt | heq | hgt
        ·exact hlt
        ·subst heq;exact absurd e.symm hne
        ·exfalso
         have:=h.timely i (by rw[iL_length];exact hi) j hgt;simp only[iL,List.getElem_map,opI,Int.toNat_natCast] at this;rw[e,hbf] at this;cases this
       have:a∈ord.take j:=by
        rw[←e];exact List.mem_take_iff_getElem.2 ⟨i,by omega,rfl⟩
       simp[this]
   have hs:stepN c (sAt c.o c.ops (iL ord) j) (ord.take j) ord[j]=some st:=by
    unfold stepN;rw[if_pos hfree];exact ht
   refine .step hn hs ?_;have:=ih (j+1) (by omega);rw[sAt_succ hat,ha] at this;rw[List.take_append_getElem hjl];exact this
 exact key ord.length 0 (by omega)
theorem atK_succ (k:Nat→Int) (wr:Nat→Bool) (v:Nat→Int) (ord:List Nat) (q:Nat) (key:Int):atK k wr v ord (q+1) key=if wr (ord.getD q 0)=true∧k (ord.getD q 0)=key then v (ord.getD q 0) else atK k wr v ord q key:=rfl
theorem regs_step (x d a b:Int) (h:d=1∨d=2):stepM 1 [x] d a b=if d=2 then some ([a],0) else some ([x],x):=by
 rcases h with rfl | rfl<;>rfl
theorem shows_of_ordK {ops:List Opn} {ord:List Nat} (hk:∀i,i < ops.length→(opN ops i).d=1∨(opN ops i).d=2) (hz:∀i,i < ops.length→(opN ops i).d=2→0≤(opN ops i).e→(opN ops i).r=0)
  (h:OrdK ops.length (fun i=>(opN ops i).c) (fun i=>(opN ops i).e) (fun i=>(opN ops i).k) (fun i=>if (opN ops i).d=2 then (opN ops i).a else (opN ops i).r) (fun i=>decide ((opN ops i).d=2)) ord):ShowsM 1 ops (iL ord):=by
 have hgd:∀q (hq:q < ord.length),ord.getD q 0=ord[q]:=fun q hq=>by rw[List.getD_eq_getElem?_getD,List.getElem?_eq_getElem hq];rfl
 have hlt:∀q (hq:q < ord.length),ord[q] < ops.length:=fun q hq=>h.rng _ (List.getElem_mem hq)
 have hat:∀q (hq:q < ord.length),((iL ord)[q]?).bind (opOf ops)=some (opN ops ord[q]):=fun q hq=>by
  rw[iL_get hq];exact opOf_nat (hlt q hq)
 have hst:∀q,q≤ord.length→∀key,sAt 1 ops (iL ord) q key= [atK (fun i=>(opN ops i).k) (fun i=>decide ((opN ops i).d=2)) (fun i=>if (opN ops i).d=2 then (opN ops i).a else (opN ops i).r) ord q key]:=by
  intro q
  induction q with
  | zero=>intro _ key;rfl
  | succ q ih=>
   intro hq key;have hq':q < ord.length:=by omega
   rw[sAt_succ (hat q hq')];unfold after;rw[ih (by omega),regs_step _ _ _ _ (hk _ (hlt q hq'))];rw[atK_succ,hgd q hq'];by_cases e:(opN ops ord[q]).d=2
   ·rw[if_pos e];simp only;by_cases e2:(opN ops ord[q]).k=key
    ·subst e2;rw[setK_same,if_pos ⟨decide_eq_true e,rfl⟩,if_pos e]
    ·rw[setK_other _ _ _ _ (Ne.symm e2),if_neg (fun h=>e2 h.2)];exact ih (by omega) key
   ·rw[if_neg e];simp only;rw[if_neg (fun h=>e (of_decide_eq_true h.1))];by_cases e2:key=(opN ops ord[q]).k
    ·subst e2;rw[setK_same]
    ·rw[setK_other _ _ _ _ e2];exact ih (by omega) key
 refine⟨fun n hn=>?_,?_,fun n hn he=>?_,fun j hj i hi=>?_,fun j hj=>?_⟩
 ·obtain⟨m,hm,rfl⟩:=List.mem_map.1 hn;have:=h.rng m hm;exact⟨by omega,by omega⟩
 ·unfold iL;exact List.Pairwise.map _ (fun a b hab e=>hab (by omega)) h.once
 ·exact List.mem_map.2 ⟨n,h.whole n hn he,rfl⟩
 ·have hj':j < ord.length:=by rw[iL_length] at hj;exact hj
  have:=h.timely i j hi hj';rw[hgd j hj',hgd i (by omega)] at this;simp only[iL,List.getElem_map,opI,Int.toNat_natCast];unfold beforeB;by_cases e1:0≤(opN ops ord[j]).e
  ·have e2:¬(opN ops ord[j]).e < (opN ops ord[i]).c:=fun e2=>this ⟨e1,e2⟩
   simp[e2]
  ·simp[e1]
 ·have hj':j < ord.length:=by rw[iL_length] at hj;exact hj
  rw[fineAt_some (hat j hj')];unfold opFine;rw[hst j (by omega),regs_step _ _ _ _ (hk _ (hlt j hj'))];by_cases e:(opN ops ord[j]).d=2
  ·rw[if_pos e];simp only;by_cases e1:(opN ops ord[j]).e < 0
   ·simp[e1]
   ·rw[hz _ (hlt j hj') e (by omega)];simp
  ·rw[if_neg e];simp only;have:=h.last j hj' (by rw[hgd j hj'];exact decide_eq_false e);rw[hgd j hj',if_neg e] at this;rw[this];simp
theorem abd_shows {S:Sto} (h:SAll S) (hb:S.back=true) {L:List Opn} (hL:OpsOf (histS S) L):∃ord:List Nat,ShowsM 1 L (iL ord):=by
 obtain⟨ord,ho⟩:=abd_ops h hb hL;obtain⟨G,h1,h2⟩:=h;have hI:Inv (S.seen.map evS) S.seen.length (histS S):=inv_hist _ _ (by simp) h2.fine;obtain⟨qs,_,hqs,hperm,_⟩:=hL;have hin:∀x∈L,(x.d=1∨x.d=2)∧(x.d=2→0≤x.e→x.r=0):=fun x hx=>by
  rcases List.mem_append.1 (hperm.mem_iff.1 hx) with hx | hx
  ·refine⟨h2.kinds x hx,fun hd he=>?_⟩;obtain⟨r,hr,hop⟩:=h2.done x hx he;refine hop.r0 ?_;cases e:r.write with
   | true=>rfl
   | false=>have:=hop.d;rw[e,hd] at this;exact absurd this (by decide)
  ·obtain⟨p,hp⟩:=mem_pending hx;have hg:=hI.goodB p x hp;refine⟨?_,fun _ _=>hg.2.2.2⟩;cases hbz:(S.cl p).busy with
   | false=>rw[h2.idle p hbz] at hp;cases hp
   | true=>
    rw[h2.busy p hbz] at hp;obtain rfl:=Option.some.inj hp;cases hw:(S.cl p).write<;>simp[opC,hw]
 have hN:∀i,i < L.length→opN L i∈L:=fun i hi=>by
  unfold opN;rw[List.getD_eq_getElem?_getD,List.getElem?_eq_getElem hi];exact List.getElem_mem hi
 exact⟨ord,shows_of_ordK (fun i hi=>(hin _ (hN i hi)).1) (fun i hi=>(hin _ (hN i hi)).2) ho⟩
open Go.RowKit
theorem lastOk_nil (x:Opn):lastOk [] x=true:=rfl
theorem lastOk_pos (l:List Opn) (x:Opn) (h:0 < l.length):lastOk l x=decide ((l[l.length - 1]'(by omega)).c < x.c):=by
 unfold lastOk;rw[List.getLast?_eq_getElem?,List.getElem?_eq_getElem (by omega)]
def timesB (x:Opn):Bool:=if x.e= -1 then x.r==0 else decide (x.c < x.e)
theorem orderB_neg (l:List Opn) (x:Opn) (h:x.c < 0):orderB l x=false:=by
 have e:decide (0≤x.c)=false:=by simp;omega
 unfold orderB;rw[e];rfl
theorem orderB_last (l:List Opn) (x:Opn) (h:lastOk l x=false):orderB l x=false:=by simp[orderB,h]
theorem orderB_times (l:List Opn) (x:Opn) (h:¬x.c < 0) (h2:lastOk l x=true):orderB l x=timesB x:=by
 have e:decide (0≤x.c)=true:=by simp;omega
 unfold orderB timesB;rw[e,h2];rfl
set_option maxHeartbeats 1000000 in
theorem inOrder_neg (l:List Opn) (x:Opn) (b off cap:Nat) (w:World) (h:x.c < 0):
  Calls Tryz.prog 200 #[.slice (some ⟨b,off,none⟩) l.length cap,x.agg] w fun e w'=>e=.returned (.bool false)∧Below w.heap.size w w':=by
 have hd:decide (x.c < 0)=true:=by simp[h]
 unfold Opn.agg;go_enter Tryz.func200,Tryz.ntmps200
 go_wp2_with fail
 go_quiet (fail)
 go_wp2;go_ret;exact⟨rfl,below_drewN (belA (Below.refl _ _) _) _⟩
set_option maxHeartbeats 1000000 in
theorem inOrder_first (x:Opn) (b off cap:Nat) (w:World) (h:¬x.c < 0):
  Calls Tryz.prog 200 #[.slice (some ⟨b,off,none⟩) 0 cap,x.agg] w fun e w'=>e=.returned (.bool (timesB x))∧Below w.heap.size w w':=by
 have hd:decide (x.c < 0)=false:=by simp;omega
 cases he:x.e== -1
 ·have e:timesB x=decide (x.c < x.e):=by unfold timesB;rw[if_neg (by simpa using he)]
  rw[e];clear e;unfold Opn.agg;go_enter Tryz.func200,Tryz.ntmps200
  go_wp2_with fail
  go_quiet (fail)
  go_wp2;all_goals (go_ret;exact⟨by simp_all,below_drewN (belA (Below.refl _ _) _) _⟩)
 ·have e:timesB x=(x.r==0):=by unfold timesB;rw[if_pos (by simpa using he)]
  rw[e];clear e;unfold Opn.agg;go_enter Tryz.func200,Tryz.ntmps200
  go_wp2_with fail
  go_quiet (fail)
  go_wp2;all_goals (go_ret;exact⟨by simp_all,below_drewN (belA (Below.refl _ _) _) _⟩)
set_option maxHeartbeats 1000000 in
theorem inOrder_late (x:Opn) (m b off cap:Nat) (prev:Int) (w:World) (h:¬x.c < 0) (hm:m≤60) (hb:b < w.heap.size) (hp:w.cell? ⟨b,off+m*8+6,none⟩=some (.int .i64 prev)) (hl:x.c≤prev):
  Calls Tryz.prog 200 #[.slice (some ⟨b,off,none⟩) (m+1) cap,x.agg] w fun e w'=>e=.returned (.bool false)∧Below w.heap.size w w':=by
 have hd:decide (x.c < 0)=false:=by simp;omega
 have hd2:decide (x.c≤prev)=true:=by simp[hl]
 unfold Opn.agg;go_enter Tryz.func200,Tryz.ntmps200
 go_wp2_with fail
 go_quiet (fail)
 go_wp2;go_ret;exact⟨rfl,below_drewN (belA (Below.refl _ _) _) _⟩
set_option maxHeartbeats 1000000 in
theorem inOrder_next (x:Opn) (m b off cap:Nat) (prev:Int) (w:World) (h:¬x.c < 0) (hm:m≤60) (hb:b < w.heap.size) (hp:w.cell? ⟨b,off+m*8+6,none⟩=some (.int .i64 prev)) (hl:¬x.c≤prev):
  Calls Tryz.prog 200 #[.slice (some ⟨b,off,none⟩) (m+1) cap,x.agg] w fun e w'=>e=.returned (.bool (timesB x))∧Below w.heap.size w w':=by
 have hd:decide (x.c < 0)=false:=by simp;omega
 have hd2:decide (x.c≤prev)=false:=by simp;omega
 cases he:x.e== -1
 ·have e:timesB x=decide (x.c < x.e):=by unfold timesB;rw[if_neg (by simpa using he)]
  rw[e];clear e;unfold Opn.agg;go_enter Tryz.func200,Tryz.ntmps200
  go_wp2_with fail
  go_quiet (fail)
  go_wp2;all_goals (go_ret;exact⟨by simp_all,below_drewN (belA (Below.refl _ _) _) _⟩)
 ·have e:timesB x=(x.r==0):=by unfold timesB;rw[if_pos (by simpa using he)]
  rw[e];clear e;unfold Opn.agg;go_enter Tryz.func200,Tryz.ntmps200
  go_wp2_with fail
  go_quiet (fail)
  go_wp2;all_goals (go_ret;exact⟨by simp_all,below_drewN (belA (Below.refl _ _) _) _⟩)
theorem inOrder_any (l:List Opn) (x:Opn) (b off cap:Nat) (w:World) (hlen:l.length≤60) (hl:OpsAt w b off l) (hb:b < w.heap.size):
  Calls Tryz.prog 200 #[.slice (some ⟨b,off,none⟩) l.length cap,x.agg] w fun e w'=>e=.returned (.bool (orderB l x))∧Below w.heap.size w w':=by
 by_cases h:x.c < 0
 ·rw[orderB_neg l x h];exact inOrder_neg l x b off cap w h
 ·by_cases h0:l.length=0
  ·have e:l= []:=List.length_eq_zero_iff.1 h0;subst e;rw[orderB_times [] x h (lastOk_nil x)];exact inOrder_first x b off cap w h
  ·obtain⟨m,hm⟩:∃m,l.length=m+1:=⟨l.length - 1,by omega⟩;have hp:=(hl m (by omega)).2.2.2.2.2.2.1;have hlast:=lastOk_pos l x (by omega);have e2:(l[l.length - 1]'(by omega)).c=(l[m]'(by omega)).c:=by congr 1;simp[hm]
   rw[e2] at hlast;by_cases hle:x.c≤(l[m]'(by omega)).c
   ·rw[orderB_last l x (by rw[hlast];simp;omega),hm];exact inOrder_late x m b off cap _ w h (by omega) hb hp hle
   ·rw[orderB_times l x h (by rw[hlast];simp;omega),hm];exact inOrder_next x m b off cap _ w h (by omega) hb hp hle
end Go.Proofs.YtjpklmighoondaaGreatDoor
