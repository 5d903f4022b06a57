/-
  Chapter 17 in plain Lean: there is room for each end among what may be seen.
  Chapter 17: how much is seen of the program's store at most (plain).
  What is seen of a store whose quorums meet, and whose readers tell, can have taken place one by one (plain).
  How a text is read as a generator: what is read gets shorter.
  What is read: how deep it is, and how much of a tape it uses.
  Chapter 20 in plain Lean: a plan that is tried.
-/
import Derived.Test.YtjpklmighoondaaGreatDoorAbVZ
import Derived.Test.YtjpklmighoondaaGreatDoorSmPZ
import Derived.Test.YtjpklmighoondaaGreatDoorPlainLZ
import Derived.Test.YtjpklmighoondaaGreatDoorToldPZ
import Derived.Test.YtjpklmighoondaaGreatDoorGnHZ
namespace Go.Proofs.YtjpklmighoondaaGreatDoor
theorem cnt_same {f g:Nat→Bool} :∀k,(∀j,j < k→g j=f j)→(List.range k).countP g=(List.range k).countP f:=fun k h=>by
 refine List.countP_congr fun j hj=>?_
 rw[h j (List.mem_range.1 hj)]
theorem cnt_turn {f g:Nat→Bool} {i:Nat} :∀k,i < k→(∀j,j≠i→g j=f j)→(List.range k).countP g+(if f i=true then 1 else 0)=(List.range k).countP f+(if g i=true then 1 else 0)
 | 0,hi,_=>absurd hi (by omega)
 | k+1,hi,h=>by
  rw[List.range_succ,List.countP_append,List.countP_append];by_cases e:i=k
  ·subst e;rw[cnt_same (f:=f) (g:=g) i fun j hj=>h j (by omega)];simp[List.countP_cons]
   split<;>split<;>omega
  ·have ih:=cnt_turn k (by omega) h;have hk:=h k (Ne.symm e);simp only[List.countP_cons,List.countP_nil,hk];omega
def RoomS (S:Sto):Prop:=S.seen.length+busyN S≤120
section
variable {S : Sto}
theorem busy_turn {c:Nat} (hc:c < S.k) (x:Cl):busyN {S with cl:=updC S.cl c x} +(if (S.cl c).busy=true then 1 else 0)=busyN S+(if x.busy=true then 1 else 0):=by
 have:=cnt_turn (f:=fun (j:Nat)=>(S.cl j).busy) (g:=fun (j:Nat)=>(updC S.cl c x j).busy) S.k hc fun j hj=>by
  show (updC S.cl c x j).busy=_;rw[updC_ne _ _ (by omega)]
 have e:(updC S.cl c x (c:Int)).busy=x.busy:=by rw[updC_same]
 simp only[e] at this;exact this
theorem RoomS.same {S':Sto} (h:RoomS S) (h1:S'.seen=S.seen) (h2:busyN S'=busyN S):RoomS S':=by
 unfold RoomS;rw[h1,h2];exact h
theorem roomS_begin {c key value:Int} {write:Bool} (he:beginE S c key write value=0):RoomS (beginS S c key write value):=by
 obtain⟨_,_,hf⟩:=begin_parts he;obtain⟨a1,a2,a3,_⟩:=free_parts hf;have hr:S.seen.length+2+busyN S≤120:=by
  unfold freeE at hf
  split at hf
  ·cases hf
  ·split at hf
   ·cases hf
   ·split at hf
    ·cases hf
    ·omega
 obtain⟨c,rfl⟩:∃n:Nat,c=n:=⟨c.toNat,by omega⟩;have hb:=busy_turn (S:=S) (c:=c) (by omega) (roundC (beginC (S.cl c) key write value));rw[a3] at hb;have e1:(roundC (beginC (S.cl c) key write value)).busy=true:=rfl;rw[e1] at hb;simp at hb;have e2:busyN (beginS S c key write value)=busyN {S with cl:=updC S.cl c (roundC (beginC (S.cl c) key write value))} :=rfl;unfold RoomS;rw[e2,hb];show (S.seen++ [_]).length+(busyN S+1)≤120;simp;omega
theorem RoomS.give (h:RoomS S) {c:Int} (h0:0≤c∧c < S.k) (hb:(S.cl c).busy=true):RoomS (giveS S c):=by
 obtain⟨c,rfl⟩:∃n:Nat,c=n:=⟨c.toNat,by omega⟩;have ht:=busy_turn (S:=S) (c:=c) (by omega) {S.cl c with busy:=false,gone:=true};rw[hb] at ht;simp at ht;have e2:busyN (giveS S c)=busyN {S with cl:=updC S.cl c {S.cl c with busy:=false,gone:=true}} :=rfl;unfold RoomS at*
 rw[e2];show (S.seen++ [_]).length+_≤120;simp;omega
theorem RoomS.hear (h:RoomS S) {c:Int} (h0:0≤c∧c < S.k) (node:Int) (l:Ltr):RoomS (hearS S c node l):=by
 obtain⟨c,rfl⟩:∃n:Nat,c=n:=⟨c.toNat,by omega⟩;unfold hearS;dsimp only
 split
 ·next hb=>
  have hbz:(S.cl c).busy=true:=hb.1;generalize (if (S.cl c).tells=true then S.tell else S.ask)=t
  split
  ·refine h.same rfl ?_;have:=busy_turn (S:=S) (c:=c) (by omega) (countC (S.cl c) node l.h);rw[show (countC (S.cl c) node l.h).busy=true from hbz,hbz] at this;simp at this;exact this
  ·split
   ·refine h.same rfl ?_;have:=busy_turn (S:=S) (c:=c) (by omega) (roundC (tellC c (countC (S.cl c) node l.h)));rw[show (roundC (tellC c (countC (S.cl c) node l.h))).busy=true from hbz,hbz] at this;simp at this;exact this
   ·have ht:=busy_turn (S:=S) (c:=c) (by omega) {countC (S.cl c) node l.h with busy:=false};rw[hbz] at ht;simp at ht;have e2:busyN (doneS S c (countC (S.cl c) node l.h))=busyN {S with cl:=updC S.cl c {countC (S.cl c) node l.h with busy:=false}} :=rfl;unfold RoomS at*
    rw[e2];show (S.seen++ [_]).length+_≤120;simp;omega
 ·exact h
def ToS (S:Sto):Prop:=∀m∈S.mails,m.to < (S.n:Int)+S.k
theorem RoomS.play (h:RoomS S) (ht:ToS S) (m:Mvs):RoomS (playS S m):=by
 unfold playS;by_cases he:playE S m≠0
 ·rw[if_pos he];exact h
 ·rw[if_neg he];have he:playE S m=0:=Classical.byContradiction he;unfold playE at he;by_cases e0:m.what=0
  ·rw[if_pos e0] at he ⊢;exact roomS_begin he
  rw[if_neg e0] at he ⊢;by_cases e1:m.what=1
  ·rw[if_pos e1] at he ⊢;exact roomS_begin he
  rw[if_neg e1] at he ⊢;by_cases e2:m.what=2
  ·rw[if_pos e2];unfold delivS
   split
   ·exact h
   ·rename_i x hx
    have hto:=ht x (List.mem_of_getElem? hx);unfold takeS
    split
    ·exact h.same rfl rfl
    ·rename_i hn
     have hn':¬x.to < (S.n:Int):=hn;exact RoomS.hear (S:= {S with mails:=S.mails.eraseIdx m.a.toNat}) h (by show 0≤x.to - (S.n:Int)∧x.to - (S.n:Int) < S.k;omega) _ _
  rw[if_neg e2] at he ⊢;by_cases e3:m.what=3
  ·rw[if_pos e3];exact h.same rfl rfl
  rw[if_neg e3] at he ⊢;by_cases e4:m.what=4
  ·rw[if_pos e4];unfold doubS
   split
   ·exact h
   ·exact h.same rfl rfl
  rw[if_neg e4] at he ⊢;by_cases e5:m.what=5
  ·rw[if_pos e5] at he ⊢;unfold giveE at he
   split at he
   ·cases he
   ·split at he
    ·cases he
    ·rename_i g1 g2
     refine h.give (by omega) ?_;cases e:(S.cl m.a).busy with
     | true=>rfl
     | false=>exact absurd e g2
  rw[if_neg e5]
  split<;>exact h.same rfl rfl
end
end Go.Proofs.YtjpklmighoondaaGreatDoor
namespace Go.Proofs.YtjpklmighoondaaGreatDoor.St
theorem Sim.toS {P:Pst} {S:Sto} (h:Sim P S):ToS S:=fun x hx=>by
 obtain⟨i,hi⟩:=List.mem_iff_getElem?.1 hx;rcases h.pair i with ⟨_,e⟩ | ⟨m,y,_,e,h1,h2,_⟩
 ·rw[e] at hi;cases hi
 ·rw[e] at hi;cases hi;rw[h1.tt,h.n,h.k];exact h2.tt.2
theorem Sim.roomR:∀(l:List Mvs) {P:Pst} {S:Sto},Sim P S→RoomS S→RoomS (runS S l)
 | [],_,_,_,hr=>hr
 | m::l,_,_,h,hr=>Sim.roomR l (h.play m).2 (hr.play h.toS m)
theorem run_told2 {n k ask tell:Nat} (back:Bool) (h1:1≤n) (hk:k≤8) (h2:1≤ask) (h3:1≤tell) (h4:tell≤n) (h5:n < ask+tell) (l:List Mvs):∃S,Sim (runP (pst0 n k ask tell back) l) S∧SAll S∧S.back=back∧S.seen.length≤120:=by
 refine⟨runS (sto0 n k ask tell back) l,(sim0 back h1 h2 h3).run l,?_⟩;obtain⟨a,b⟩:=(sall0 (k:=k) back h2 h3 h4 h5).run l (S:=sto0 n k ask tell back) hk;refine⟨a,b.2.2.2.2,?_⟩;have h0:RoomS (sto0 n k ask tell back):=by
  have:busyN (sto0 n k ask tell back)=0:=by
   unfold busyN;exact List.countP_eq_zero.2 fun j _=>by simp[sto0,cl0]
  unfold RoomS;rw[this];show 0+0≤120;omega
 have:=Sim.roomR l (sim0 back h1 h2 h3) h0;unfold RoomS at this;omega
end Go.Proofs.YtjpklmighoondaaGreatDoor.St
namespace Go.Proofs.YtjpklmighoondaaGreatDoor
def toEv (e:St.Evp):Ev:=⟨e.p,e.t,e.k,e.d,e.a,e.b,e.r⟩
theorem sim_evs {P:St.Pst} {S:Sto} (h:St.Sim P S):P.evs.map toEv=S.seen.map evS:=by
 rw[h.ev.1,List.map_map];rfl
theorem abd_kinds {S:Sto} (h:SAll S) {L:List Opn} (hL:OpsOf (histS S) L):∀x∈L,x.d=1∨x.d=2:=by
 obtain⟨G,h1,h2⟩:=h;have hI:Inv (S.seen.map evS) S.seen.length (histS S):=inv_hist _ _ (by simp) h2.fine;obtain⟨qs,_,hqs,hperm,_⟩:=hL;intro x hx;rcases List.mem_append.1 (hperm.mem_iff.1 hx) with hx | hx
 ·exact h2.kinds x hx
 ·obtain⟨p,hp⟩:=mem_pending hx;cases hbz:(S.cl p).busy with
  | false=>rw[h2.idle p hbz] at hp;cases hp
  | true=>
   rw[h2.busy p hbz] at hp;obtain rfl:=Option.some.inj hp;cases hw:(S.cl p).write<;>simp[opC,hw]
theorem shows_nat {o:Int} {ops:List Opn} {ord:List Int} (h:ShowsM o ops ord):∃l,ord=iL l:=by
 refine⟨ord.map Int.toNat,?_⟩;unfold iL;rw[List.map_map]
 conv=>lhs;rw[←List.map_id ord]
 apply List.map_congr_left
 intro x hx;have:=(h.range x hx).1;simp;omega
theorem shows_not_invalid {o:Int} {ops:List Opn} {ord:List Int} {bud:Nat} (ht:Told ops 0) (h:ShowsM o ops ord):(searchM (srB o ops bud)).code≠2:=by
 obtain⟨l,rfl⟩:=shows_nat h;intro hc;exact search_dead (own_srB (told_keysN ht)) hc (shows_comp (c:=srB o ops bud) h (fun _ _ _ _ _ h=>h))
theorem evs_fine {P:St.Pst} {S:Sto} (h:St.Sim P S) (hA:SAll S):FineH (P.evs.map toEv) (P.evs.map toEv).length:=by
 have e:(P.evs.map toEv).length=S.seen.length:=by rw[sim_evs h];simp
 rw[e,sim_evs h];obtain⟨G,_,h2⟩:=hA;exact h2.fine
end Go.Proofs.YtjpklmighoondaaGreatDoor
namespace Go.Proofs.YtjpklmighoondaaGreatDoor.Gn
theorem numF_len {lo hi:Int} {s:List BtP} {r:Rn} (h:numF lo hi s=some r):r.s.length+1=s.length∧lo≤r.v∧r.v≤hi:=by
 cases s with
 | nil=>cases h
 | cons t s=>
  simp only[numF] at h
  split at h
  ·split at h
   ·rename_i n hat
    split at h
    ·cases h
    ·rename_i hb
     cases h;exact⟨rfl,by show lo≤n;omega,by show n≤hi;omega⟩
   ·cases h
  ·cases h
theorem expF_len {x:BtP} {s z:List BtP} (h:expF x s=some z):z.length+1=s.length:=by
 cases s with
 | nil=>cases h
 | cons t s=>
  simp only[expF] at h
  split at h
  ·cases h;rfl
  ·cases h
def Takes (gf:List BtP→Option Rg):Prop:=∀s r,gf s=some r→r.s.length < s.length
theorem moreF_len {gf:List BtP→Option Rg} (hg:Takes gf):∀(m:Nat) (L:List Gt) (s:List BtP) (r:Rl),moreF gf m L s=some r→r.s.length≤s.length∧r.l.length+r.s.length≤L.length+s.length
 | 0,_,_,_,h=>by cases h
 | _+1,_,[],_,h=>by cases h
 | m+1,L,t::s,r,h=>by
  simp only[moreF] at h
  split at h
  ·split at h
   ·rename_i q hq
    have h1:=hg _ _ hq;have h2:=moreF_len hg m _ _ _ h;simp only[List.length_append,List.length_cons,List.length_nil] at h2 ⊢;omega
   ·cases h
  ·cases h;exact⟨Nat.le_refl _,Nat.le_refl _⟩
theorem moreF_fuel {gf:List BtP→Option Rg} (hg:Takes gf):∀(m m':Nat) (L:List Gt) (s:List BtP),s.length < m→s.length < m'→moreF gf m L s=moreF gf m' L s
 | 0,_,_,_,h,_=>absurd h (Nat.not_lt_zero _)
 | _,0,_,_,_,h=>absurd h (Nat.not_lt_zero _)
 | _+1,_+1,_,[],_,_=>rfl
 | m+1,m'+1,L,t::s,h,h'=>by
  simp only[List.length_cons] at h h';simp only[moreF]
  split
  ·cases hq:gf s with
   | none=>rfl
   | some q=>
    have h1:=hg _ _ hq;simp only;exact moreF_fuel hg m m' _ _ (by omega) (by omega)
  ·rfl
def finL (q:Option Rl):Option Rl:=match q with
 | none=>none
 | some q=>match expF [41] q.s with
  | none=>none
  | some z=>some ⟨q.l,z⟩
theorem listF_eq (gf:List BtP→Option Rg) (s:List BtP):listF gf s=match expF [40] s with
 | none=>none
 | some s1=>match gf s1 with
  | none=>none
  | some r=>finL (moreF gf (r.s.length+1) [r.g] r.s):=rfl
theorem listF_len {gf:List BtP→Option Rg} (hg:Takes gf) {s:List BtP} {r:Rl} (h:listF gf s=some r):r.s.length < s.length∧r.l.length+r.s.length≤s.length:=by
 rw[listF_eq] at h
 split at h
 ·cases h
 ·rename_i s1 h1
  split at h
  ·cases h
  ·rename_i q hq
   have k1:=expF_len h1;have k2:=hg _ _ hq;unfold finL at h
   split at h
   ·cases h
   ·rename_i z hz
    have k3:=moreF_len hg _ _ _ _ hz
    split at h
    ·cases h
    ·rename_i y hy
     have k4:=expF_len hy;cases h;simp only[List.length_cons,List.length_nil] at k3 ⊢;omega
theorem wrF_len {s:List BtP} {r:Rg} (h:wrF s=some r):r.s.length < s.length:=by
 unfold wrF at h
 split at h
 ·cases h
 ·rename_i k hk
  split at h
  ·cases h
  ·rename_i l hl
   split at h
   ·cases h
   ·rename_i t ht
    have a:=(numF_len hk).1;have b:=(numF_len hl).1;have c:=(numF_len ht).1;cases h;show t.s.length < s.length;omega
theorem gF_takes:∀f,Takes (gF f)
 | 0,_,_,h=>by cases h
 | _+1,[],_,h=>by cases h
 | f+1,t::s,r,h=>by
  have ih:=gF_takes f;simp only[gF] at h;simp only[List.length_cons]
  split at h
  ·split at h
   ·cases h
   ·rename_i k hk
    have:=(numF_len hk).1;cases h;show k.s.length < _;omega
  ·split at h
   ·have:=wrF_len h;omega
   ·split at h
    ·split at h
     ·cases h
     ·rename_i k hk
      have a:=(numF_len hk).1
      split at h
      ·cases h
      ·rename_i q hq
       have b:=ih _ _ hq;cases h;show q.s.length < _;omega
    ·split at h
     ·split at h
      ·cases h
      ·rename_i q hq
       have:=(listF_len ih hq).1;cases h;show q.s.length < _;omega
     ·split at h
      ·split at h
       ·cases h
       ·rename_i q hq
        have:=(listF_len ih hq).1;cases h;show q.s.length < _;omega
      ·cases h
def wt1 (f:Nat) (l:List Gt):Nat:=(l.map fun g=>1+wtF f g).sum
def Reads (f:Nat) (gf:List BtP→Option Rg):Prop:=∀s r,gf s=some r→htLe f r.g∧wtF f r.g+r.s.length+1≤s.length
theorem moreF_wt {f:Nat} {gf:List BtP→Option Rg} (hg:Reads f gf):∀(m:Nat) (L:List Gt) (s:List BtP) (r:Rl),moreF gf m L s=some r→(∀g∈L,htLe f g)→(∀g∈r.l,htLe f g)∧wt1 f r.l+r.s.length≤wt1 f L+s.length
 | 0,_,_,_,h,_=>by cases h
 | _+1,_,[],_,h,_=>by cases h
 | m+1,L,t::s,r,h,hL=>by
  simp only[moreF] at h
  split at h
  ·split at h
   ·rename_i q hq
    have h1:=hg _ _ hq;have h2:=moreF_wt hg m _ _ _ h (fun g hg'=>by
     rcases List.mem_append.1 hg' with h' | h'
     ·exact hL g h'
     ·rw[List.mem_singleton] at h';rw[h'];exact h1.1)
    refine⟨h2.1,?_⟩;have e:wt1 f (L++ [q.g])=wt1 f L+(1+wtF f q.g):=by simp[wt1]
    have h3:=h2.2;rw[e] at h3;have h4:=h1.2;simp only[List.length_cons];omega
   ·cases h
  ·cases h;exact⟨hL,Nat.le_refl _⟩
theorem listF_wt {f:Nat} {gf:List BtP→Option Rg} (hg:Reads f gf) {s:List BtP} {r:Rl} (h:listF gf s=some r):(∀g∈r.l,htLe f g)∧wt1 f r.l+r.s.length+1≤s.length:=by
 rw[listF_eq] at h
 split at h
 ·cases h
 ·rename_i s1 h1
  split at h
  ·cases h
  ·rename_i q hq
   have k1:=expF_len h1;have k2:=hg _ _ hq;unfold finL at h
   split at h
   ·cases h
   ·rename_i z hz
    have k3:=moreF_wt hg _ _ _ _ hz (fun g hg'=>by rw[List.mem_singleton] at hg';rw[hg'];exact k2.1)
    split at h
    ·cases h
    ·rename_i y hy
     have k4:=expF_len hy;cases h;refine⟨k3.1,?_⟩;have e:wt1 f [q.g]=1+wtF f q.g:=by simp[wt1]
     have h3:=k3.2;rw[e] at h3;have h4:=k2.2;show wt1 f z.l+y.length+1≤s.length;omega
theorem wrF_wt {f:Nat} {s:List BtP} {r:Rg} (h:wrF s=some r):htLe (f+1) r.g∧wtF (f+1) r.g+r.s.length+1≤s.length:=by
 unfold wrF at h
 split at h
 ·cases h
 ·rename_i k hk
  split at h
  ·cases h
  ·rename_i l hl
   split at h
   ·cases h
   ·rename_i t ht
    have a:=(numF_len hk).1;have b:=(numF_len hl).1;have c:=(numF_len ht).1;cases h;refine⟨trivial,?_⟩;show 1+t.s.length+1≤s.length;omega
theorem sum_le (f:Nat):∀l:List Gt,(l.map (wtF f)).sum≤wt1 f l
 | []=>Nat.le_refl _
 | g::l=>by have:=sum_le f l;simp only[wt1,List.map_cons,List.sum_cons] at this ⊢;omega
theorem gF_reads:∀f,Reads f (gF f)
 | 0,_,_,h=>by cases h
 | _+1,[],_,h=>by cases h
 | f+1,t::s,r,h=>by
  have ih:=gF_reads f;simp only[gF] at h;simp only[List.length_cons]
  split at h
  ·split at h
   ·cases h
   ·rename_i k hk
    have:=(numF_len hk).1;cases h;refine⟨trivial,?_⟩;show 0+k.s.length+1≤_;omega
  ·split at h
   ·have:=wrF_wt (f:=f) h;exact⟨this.1,by omega⟩
   ·split at h
    ·split at h
     ·cases h
     ·rename_i k hk
      have a:=(numF_len hk).1
      split at h
      ·cases h
      ·rename_i q hq
       have b:=ih _ _ hq;cases h;refine⟨b.1,?_⟩;have b2:=b.2;show wtF f q.g+q.s.length+1≤_;omega
    ·split at h
     ·split at h
      ·cases h
      ·rename_i q hq
       have:=listF_wt ih hq;cases h;refine⟨this.1,?_⟩;have b2:=this.2;show wt1 f q.l+q.s.length+1≤_;omega
     ·split at h
      ·split at h
       ·cases h
       ·rename_i q hq
        have:=listF_wt ih hq;cases h;refine⟨this.1,?_⟩;have b2:=this.2;have b3:=sum_le f q.l;show (q.l.map (wtF f)).sum+q.s.length+1≤_;omega
      ·cases h
theorem sgs_lenP:∀(n:Nat) (l:BtP),(sgs n l).length≤n
 | 0,_=>by simp[sgs]
 | n+1,[]=>by simp[sgs]
 | n+1,c::l=>by
  simp only[sgs]
  split
  ·have:=sgs_lenP n l;omega
  ·have:=sgs_lenP n ((c::l).drop (sgLen (c::l)));simp only[List.length_cons];omega
theorem parseF_reads {l:BtP} {g:Gt} (h:parseF l=some g):htLe 20 g∧wtF 20 g≤2001:=by
 unfold parseF at h
 split at h
 ·cases h
 ·rename_i hl
  split at h
  ·cases h
  ·rename_i r hr
   split at h
   ·cases h;have k:=gF_reads 20 _ _ hr;have e:=sgs_lenP l.length l;have k2:=k.2;simp only[List.length_append,List.length_cons,List.length_nil] at k2;exact⟨k.1,by omega⟩
   ·cases h
end Go.Proofs.YtjpklmighoondaaGreatDoor.Gn
namespace Go.Proofs.YtjpklmighoondaaGreatDoor.Fa
structure Trl where
 p:St.Pst
 s:Sto
 g:Gn.Gt
 t:Gn.Tp
 begun:Nat
 over:Bool
def Trl.play (T:Trl) (m:Mvs):Trl:= {T with p:=St.playP T.p m,s:=playS T.s m}
def Trl.on (T:Trl) (n:Int):Trl:= {T with t:=T.t.on n}
def mvB (c:Int) (x:Gn.Cl):Mvs:=⟨if x.wr=true then 1 else 0,c,x.key,x.v⟩
def Trl.nx (T:Trl):Gn.Gv:=Gn.nextF 20 T.g T.t
def Trl.asked (T:Trl):Trl:= {T with g:=T.nx.g,t:=T.nx.t}
def begF (T:Trl) (c:Int):Trl×Bool:=
 if T.over=true∨T.begun=40∨St.freeP T.p c≠0 then (T,false)
 else match T.nx.c with
  | none=>({T.asked with over:=true},false)
  | some x=>if St.playC T.p (mvB c x)≠0 then (T.asked,false) else ({T.asked.play (mvB c x) with begun:=T.begun+1},true)
def trouF (T:Trl):Trl:=
 let d:=T.t.below 6
 let T1:=T.on 6
 if d=0 then T1.play ⟨6,0,0,0⟩
 else if d=1 then T1.play ⟨8,T.p.n,0,0⟩
 else if d=2 then T1.play ⟨9,T.p.n,0,0⟩
 else if d=3 then T1.play ⟨10,T.p.n,0,0⟩
 else if d=4 then (T1.on T.p.n).play ⟨11,T.p.n,T1.t.below T.p.n,0⟩
 else (T1.on T.p.k).play ⟨5,T1.t.below T.p.k,0,0⟩
def mesF (T:Trl) (what:Int):Trl:=(T.on T.p.mails.length).play ⟨what,T.t.below T.p.mails.length,0,0⟩
def moveF (T:Trl):Trl:=
 let n:=T.t.below 10
 let T1:=T.on 10
 if n < 3 then (begF (T1.on T.p.k) (T1.t.below T.p.k)).1
 else if n < 7 then mesF T1 2
 else if n=7 then mesF T1 3
 else if n=8 then mesF T1 4
 else trouF T1
def begsF (T:Trl):Nat→Trl×Bool
 | 0=>(T,false)
 | c+1=>((begF (begsF T c).1 c).1,(begsF T c).2||(begF (begsF T c).1 c).2)
def drainF:Nat→Trl→Trl
 | 0,T=>T
 | k+1,T=>if T.p.mails= [] then T else drainF k (T.play ⟨2,0,0,0⟩)
structure Rch (p0 : St.Pst) (s0 : Sto) (b : Nat) (T : Trl) : Prop where
 mv:∃l:List Mvs,l.length≤b∧T.p=St.runP p0 l∧T.s=runS s0 l
 bg:T.begun≤40
 dp:Gn.htLe 20 T.g
 wt:Gn.wtF 20 T.g≤2001
section
variable {p0 : St.Pst} {s0 : Sto} {b : Nat} {T : Trl}
theorem Rch.up (h:Rch p0 s0 b T) {c:Nat} (hc:b≤c):Rch p0 s0 c T:=by
 obtain⟨⟨l,h1,h2⟩,h3,h4,h5⟩:=h;exact⟨⟨l,by omega,h2⟩,h3,h4,h5⟩
theorem Rch.play (h:Rch p0 s0 b T) (m:Mvs):Rch p0 s0 (b+1) (T.play m):=by
 obtain⟨⟨l,h1,h2,h3⟩,h4,h5,h6⟩:=h;refine⟨⟨l++ [m],by simp;omega,?_,?_⟩,h4,h5,h6⟩
 ·show St.playP T.p m=_;rw[h2];unfold St.runP;rw[List.foldl_append];rfl
 ·show playS T.s m=_;rw[h3];unfold runS;rw[List.foldl_append];rfl
theorem Rch.on (h:Rch p0 s0 b T) (n:Int):Rch p0 s0 b (T.on n):=⟨h.mv,h.bg,h.dp,h.wt⟩
theorem Rch.asked (h:Rch p0 s0 b T):Rch p0 s0 b T.asked:=⟨h.mv,h.bg,(Gn.nextF_more 20 T.g T.t h.dp).2,Nat.le_trans (Gn.nextF_use 20 T.g T.t).2 h.wt⟩
theorem Rch.over (h:Rch p0 s0 b T) (o:Bool):Rch p0 s0 b {T with over:=o} :=⟨h.mv,h.bg,h.dp,h.wt⟩
theorem Rch.beg (h:Rch p0 s0 b T) (c:Int):Rch p0 s0 (b+1) (begF T c).1:=by
 unfold begF
 split
 ·exact h.up (by omega)
 ·rename_i hn
  split
  ·exact(h.asked.over true).up (by omega)
  ·rename_i x hx
   split
   ·exact h.asked.up (by omega)
   ·have h1:=h.asked.play (mvB c x);exact⟨h1.mv,by have:=h.bg;have:T.begun≠40:=fun e=>hn (.inr (.inl e));show T.begun+1≤40;omega,h1.dp,h1.wt⟩
theorem Rch.trou (h:Rch p0 s0 b T):Rch p0 s0 (b+1) (trouF T):=by
 unfold trouF;dsimp only;repeat' split
 all_goals first | exact(h.on 6).play _ | exact((h.on 6).on _).play _
theorem Rch.move (h:Rch p0 s0 b T):Rch p0 s0 (b+1) (moveF T):=by
 unfold moveF;dsimp only;repeat' split
 ·exact((h.on 10).on _).beg _
 ·exact((h.on 10).on _).play _
 ·exact((h.on 10).on _).play _
 ·exact((h.on 10).on _).play _
 ·exact(h.on 10).trou
end
end Go.Proofs.YtjpklmighoondaaGreatDoor.Fa
