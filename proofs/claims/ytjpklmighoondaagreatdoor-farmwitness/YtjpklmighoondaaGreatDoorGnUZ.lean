/-
  How much of the tape a generator uses: what stands in it bounds it.
  How a text is read as a generator: in plain Lean.
  The reader's numbers.
  The reader's number, key and write.
  strings' Cut and Split, strconv's ParseInt and FormatInt, laid at this program: numbers of its functions and types, and a fact a field.
-/
import Derived.Test.YtjpklmighoondaaGreatDoorTpWZ
import Derived.Lib.IndexAny
import Derived.Lib.AtoiAll
import Derived.Lib.SlTrimSet
import Derived.Lib.Strings
import Derived.Shelf.Strconv.ErrVarParseInt
import Derived.Shelf.Strconv.Itoa4
import Derived.Shelf.Strings.Cut
import Derived.Shelf.Strings.Split
import Derived.Test.YtjpklmighoondaaGreatDoorProg
namespace Go.Proofs.YtjpklmighoondaaGreatDoor.Gn
def wtF:Nat→Gt→Nat
 | 0,_=>0
 | _+1,.rd _=>0
 | _+1,.wr _ _ _=>1
 | n+1,.lim g _=>wtF n g
 | n+1,.mix l=>(l.map fun g=>1+wtF n g).sum
 | n+1,.thn l=>(l.map (wtF n)).sum
theorem Tp.on_u (t:Tp) (n:Int):(t.on n).u≤t.u+1:=by
 unfold Tp.on;split
 ·omega
 ·exact Nat.le_refl _
theorem sum_set (f:Gt→Nat):∀(l:List Gt) (i:Nat) (h:i < l.length) (g:Gt),((l.set i g).map f).sum+f l[i]=(l.map f).sum+f g
 | x::l,0,_,g=>by simp;omega
 | x::l,i+1,h,g=>by
  have:=sum_set f l i (by simpa using h) g;simp only[List.set_cons_succ,List.map_cons,List.sum_cons,List.getElem_cons_succ];omega
theorem sum_erase (f:Gt→Nat):∀(l:List Gt) (i:Nat) (h:i < l.length),((l.eraseIdx i).map f).sum+f l[i]=(l.map f).sum
 | x::l,0,_=>by simp;omega
 | x::l,i+1,h=>by
  have:=sum_erase f l i (by simpa using h);simp only[List.eraseIdx_cons_succ,List.map_cons,List.sum_cons,List.getElem_cons_succ];omega
theorem mixF_use {nx:Gt→Tp→Gv} {f:Gt→Nat} (h:∀g t,(nx g t).t.u≤t.u+f g∧f (nx g t).g≤f g):∀(k:Nat) (l:List Gt) (t:Tp),k=l.length→
  (mixF nx k l t).t.u≤t.u+(l.map fun g=>1+f g).sum∧∃l',(mixF nx k l t).g=.mix l'∧(l'.map fun g=>1+f g).sum≤(l.map fun g=>1+f g).sum
 | 0,l,t,_=>⟨Nat.le_add_right _ _,l,rfl,Nat.le_refl _⟩
 | k+1,l,t,hk=>by
  have hl:(0:Int) < l.length:=by omega
  have hi:(t.below l.length).toNat < l.length:=by have:=Tp.below_lt (t:=t) hl;omega
  have hg:l.getD (t.below l.length).toNat (.rd 0)=l[(t.below l.length).toNat]:=by rw[List.getD_eq_getElem?_getD,List.getElem?_eq_getElem hi];rfl
  obtain⟨e1,e2⟩:=h l[(t.below l.length).toNat] (t.on l.length);have hon:=Tp.on_u t l.length;simp only[mixF];rw[hg];cases e:(nx l[(t.below l.length).toNat] (t.on l.length)).c with
  | some c=>
   have hs:=sum_set (fun g=>1+f g) l _ hi (nx l[(t.below l.length).toNat] (t.on l.length)).g;have he:=sum_erase (fun g=>1+f g) l _ hi;refine⟨?_,_,rfl,by omega⟩;simp only;omega
  | none=>
   have he:=sum_erase (fun g=>1+f g) l _ hi;obtain⟨a,l',b,c⟩:=mixF_use h k (l.eraseIdx (t.below l.length).toNat) (nx l[(t.below l.length).toNat] (t.on l.length)).t (by rw[List.length_eraseIdx_of_lt hi];omega);refine⟨?_,l',b,by omega⟩;simp only;omega
theorem thnF_use {nx:Gt→Tp→Gv} {f:Gt→Nat} (h:∀g t,(nx g t).t.u≤t.u+f g∧f (nx g t).g≤f g):∀(l:List Gt) (t:Tp),
  (thnF nx l t).t.u≤t.u+(l.map f).sum∧∃l',(thnF nx l t).g=.thn l'∧(l'.map f).sum≤(l.map f).sum
 | [],t=>⟨Nat.le_add_right _ _,[],rfl,Nat.le_refl _⟩
 | g::l,t=>by
  obtain⟨e1,e2⟩:=h g t;simp only[thnF];cases e:(nx g t).c with
  | some c=>
   refine⟨?_,_,rfl,by simp;omega⟩;simp only[List.map_cons,List.sum_cons];omega
  | none=>
   obtain⟨a,l',b,c⟩:=thnF_use h l (nx g t).t;refine⟨?_,l',b,?_⟩<;>simp only[List.map_cons,List.sum_cons]<;>omega
theorem nextF_use:∀(n:Nat) (g:Gt) (t:Tp),(nextF n g t).t.u≤t.u+wtF n g∧wtF n (nextF n g t).g≤wtF n g
 | 0,_,t=>⟨Nat.le_refl _,Nat.le_refl _⟩
 | n+1,.rd _,t=>⟨Nat.le_refl _,Nat.le_refl _⟩
 | n+1,.wr _ lo hi,t=>⟨Tp.on_u t _,Nat.le_refl _⟩
 | n+1,.lim g k,t=>by
  rw[nextF]
  split
  ·exact⟨Nat.le_add_right _ _,Nat.le_refl _⟩
  ·exact nextF_use n g t
 | n+1,.mix l,t=>by
  obtain⟨a,l',b,c⟩:=mixF_use (f:=wtF n) (nextF_use n) l.length l t rfl;refine⟨a,?_⟩;rw[nextF,b];exact c
 | n+1,.thn l,t=>by
  obtain⟨a,l',b,c⟩:=thnF_use (f:=wtF n) (nextF_use n) l t;refine⟨a,?_⟩;rw[nextF,b];exact c
abbrev BtP:=List UInt8
def sepsP:BtP:= [40,41,44,32]
def digsP:BtP:= [48,49,50,51,52,53,54,55,56,57]
def sgLen (l:BtP):Nat:=if Lib.indexAny l sepsP= -1 then l.length else if Lib.indexAny l sepsP=0 then 1 else (Lib.indexAny l sepsP).toNat
def sgs:Nat→BtP→List BtP
 | 0,_=> []
 | _+1,[]=> []
 | n+1,c::l=>if c=32 then sgs n l else (c::l).take (sgLen (c::l))::sgs n ((c::l).drop (sgLen (c::l)))
def isNum (t:BtP):Bool:=
 if Lib.trimS (Lib.trimPrefix t [45]) digsP≠ [] then false
 else t= [48]||(Lib.trimPrefix t [45]≠ []&&(Lib.trimPrefix t [45]).headD 0 != 48)
structure Rn where
 v:Int
 s:List BtP
def numF (lo hi:Int):List BtP→Option Rn
 | []=>none
 | t::s=>if isNum t then match Lib.atoiAll t with
   | .ok n=>if n < lo∨hi < n then none else some ⟨n,s⟩
   | _=>none
  else none
def expF (x:BtP):List BtP→Option (List BtP)
 | []=>none
 | t::s=>if t=x then some s else none
structure Rg where
 g:Gt
 s:List BtP
structure Rl where
 l:List Gt
 s:List BtP
def moreF (gf:List BtP→Option Rg):Nat→List Gt→List BtP→Option Rl
 | 0,_,_=>none
 | _+1,_,[]=>none
 | m+1,L,t::s=>if t= [44] then match gf s with
   | some r=>moreF gf m (L++ [r.g]) r.s
   | none=>none
  else some ⟨L,t::s⟩
def listF (gf:List BtP→Option Rg) (s:List BtP):Option Rl:=
 match expF [40] s with
 | none=>none
 | some s1=>match gf s1 with
  | none=>none
  | some r=>match moreF gf (r.s.length+1) [r.g] r.s with
   | none=>none
   | some q=>match expF [41] q.s with
    | none=>none
    | some z=>some ⟨q.l,z⟩
def nmRead:BtP:= [114,101,97,100]
def nmWrite:BtP:= [119,114,105,116,101]
def nmLimit:BtP:= [108,105,109,105,116]
def nmMix:BtP:= [109,105,120]
def nmThen:BtP:= [116,104,101,110]
def wrF (s:List BtP):Option Rg:=
 match numF 0 7 s with
 | none=>none
 | some k=>match numF (-1000000) 1000000 k.s with
  | none=>none
  | some a=>match numF a.v 1000000 a.s with
   | none=>none
   | some b=>some ⟨.wr k.v a.v b.v,b.s⟩
def gF:Nat→List BtP→Option Rg
 | 0,_=>none
 | _+1,[]=>none
 | f+1,t::s=>
  if t=nmRead then match numF 0 7 s with
   | none=>none
   | some k=>some ⟨.rd k.v,k.s⟩
  else if t=nmWrite then wrF s
  else if t=nmLimit then match numF 0 1000 s with
   | none=>none
   | some k=>match gF f k.s with
    | none=>none
    | some r=>some ⟨.lim r.g k.v.toNat,r.s⟩
  else if t=nmMix then match listF (gF f) s with
   | none=>none
   | some r=>some ⟨.mix r.l,r.s⟩
  else if t=nmThen then match listF (gF f) s with
   | none=>none
   | some r=>some ⟨.thn r.l,r.s⟩
  else none
def parseF (l:BtP):Option Gt:=
 if 2000 < l.length then none else match gF 20 (sgs l.length l++ [[]]) with
  | none=>none
  | some r=>if r.s.headD []= [] then some r.g else none
open Go.RowKit
set_option maxHeartbeats 4000000 in
set_option maxRecDepth 100000 in
theorem isNumber_any (t:Bt) (w:World) (ht:t.length≤2500):
  Calls Tryz.prog 146 #[.string (ba t)] w fun e w'=>e=.returned (.bool (isNum t))∧Fr [] w w':=by
 have HP:=hideIt (fun W=>trimPrefix_call t [45] W);have hdl:(Lib.trimPrefix t [45]).length≤3000:=by
  unfold Lib.trimPrefix
  split
  ·rw[List.length_drop];omega
  ·omega
 have HT:=hideIt (fun W=>trim_call (Lib.trimPrefix t [45]) W hdl);have hb2:∀b,(if Lib.trimS (Lib.trimPrefix t [45]) digs≠ [] then false else (t= [48]||(Lib.trimPrefix t [45]≠ []&&(Lib.trimPrefix t [45]).headD 0 != 48)))=b→isNum t=b:=fun b h=>h
 clear hdl;generalize Lib.trimPrefix t [45]=d at*
 generalize Lib.trimS d digs=tr at*
 have e1:=ba_list t;have e2:=ba_list d;have e3:=ba_list tr;by_cases htr:tr= []
 ·subst htr;rw[if_neg (by simp)] at hb2;by_cases h0:t= [48]
  ·have hB:=hideIt (hb2 true (by simp[h0]));have q0:(t== [48])=true:=by simp[h0]
   clear hb2 h0;go_enter Tryz.func146,Tryz.ntmps146
   go_wp2_with fail
   refine(HP.out _).mono ?_;rintro y w1 ⟨rfl,rfl⟩;go_wp2_with fail
   refine(HT.out _).mono ?_;rintro y w2 ⟨rfl,hb2⟩;have HF2:=hideIt (fr_below hb2 []);clear hb2;go_wp2;go_ret;exact⟨by rw[hB.out];rfl,HF2.out⟩
  ·have q0:(t== [48])=false:=by simp[h0]
   cases d with
   | nil=>
    have hB:=hideIt (hb2 false (by simp[h0]));clear hb2 h0;go_enter Tryz.func146,Tryz.ntmps146
    go_wp2_with fail
    refine(HP.out _).mono ?_;rintro y w1 ⟨rfl,rfl⟩;go_wp2_with fail
    refine(HT.out _).mono ?_;rintro y w2 ⟨rfl,hb2⟩;have HF2:=hideIt (fr_below hb2 []);clear hb2;go_wp2;go_ret;exact⟨by rw[hB.out];rfl,HF2.out⟩
   | cons c d=>
    have hs:0 < (ba (c::d)).size:=by rw[ba_size];simp
    have hv:((ba (c::d))[0]'hs).toNat=c.toNat:=rfl;cases hc:(c != 48) with
    | true=>
     have hB:=hideIt (hb2 true (by simp only[List.headD_cons,hc];simp));have q2:((((ba (c::d))[0]'hs).toNat:Int) != 48)=true:=by
      rw[hv];have:c≠48:=by simpa using hc
      have h2:c.toNat≠48:=fun e=>this (UInt8.toNat_inj.1 e)
      simp;omega
     clear hb2 h0 hc hv;go_enter Tryz.func146,Tryz.ntmps146
     go_wp2_with fail
     refine(HP.out _).mono ?_;rintro y w1 ⟨rfl,rfl⟩;go_wp2_with fail
     refine(HT.out _).mono ?_;rintro y w2 ⟨rfl,hb2⟩;have HF2:=hideIt (fr_below hb2 []);clear hb2;go_wp2;go_ret;exact⟨by rw[hB.out];rfl,HF2.out⟩
    | false=>
     have hB:=hideIt (hb2 false (by simp only[List.headD_cons,hc];simp[h0]));have q2:((((ba (c::d))[0]'hs).toNat:Int) != 48)=false:=by
      rw[hv];have:c=48:=by simpa using hc
      rw[this];rfl
     clear hb2 h0 hc hv;go_enter Tryz.func146,Tryz.ntmps146
     go_wp2_with fail
     refine(HP.out _).mono ?_;rintro y w1 ⟨rfl,rfl⟩;go_wp2_with fail
     refine(HT.out _).mono ?_;rintro y w2 ⟨rfl,hb2⟩;have HF2:=hideIt (fr_below hb2 []);clear hb2;go_wp2;go_ret;exact⟨by rw[hB.out];rfl,HF2.out⟩
 ·have hB:=hideIt (hb2 false (by rw[if_pos htr]));have q0:tr.isEmpty=false:=by cases tr with
   | nil=>exact absurd rfl htr
   | cons _ _=>rfl
  clear hb2;go_enter Tryz.func146,Tryz.ntmps146
  go_wp2_with fail
  refine(HP.out _).mono ?_;rintro y w1 ⟨rfl,rfl⟩;go_wp2_with fail
  refine(HT.out _).mono ?_;rintro y w2 ⟨rfl,hb2⟩;have HF2:=hideIt (fr_below hb2 []);clear hb2;go_wp2;go_ret;exact⟨by rw[hB.out];rfl,HF2.out⟩
open Go.RowKit
noncomputable def gRng : Nat := (Tryz.prog.globalNamed "strconv.ErrRange").getD 0
noncomputable def gSyn : Nat := (Tryz.prog.globalNamed "strconv.ErrSyntax").getD 0
theorem gRng_eq : Tryz.prog.globalNamed "strconv.ErrRange" = some gRng := by kernel_rfl
theorem gSyn_eq : Tryz.prog.globalNamed "strconv.ErrSyntax" = some gSyn := by kernel_rfl
theorem var_blk {w w':World} {nm:String} {g:Nat} {cs:Array Value} (hg:Tryz.prog.globalNamed nm=some g) (h:w.var? Tryz.prog nm=some cs):g < w.heap.size∧(w'.heap[g]?=w.heap[g]?→w'.var? Tryz.prog nm=some cs):=by
 unfold World.var? at h ⊢;rw[hg] at h ⊢;simp only[Option.bind_some] at h ⊢;refine⟨?_,fun e=>by rw[e];exact h⟩;rcases Nat.lt_or_ge g w.heap.size with hl | hl
 ·exact hl
 ·rw[Array.getElem?_eq_none hl] at h;cases h
theorem ErrV.lt {w:World} (h:ErrV w):gRng < w.heap.size∧gSyn < w.heap.size:=by
 obtain⟨⟨tp,p,h1⟩,⟨tq,q,h2⟩⟩:=h;exact⟨(var_blk (w':=w) gRng_eq h1).1,(var_blk (w':=w) gSyn_eq h2).1⟩
theorem ErrV.fr {w w':World} {X:List Nat} (h:ErrV w) (hg:Fr X w w') (h1:gRng∉X) (h2:gSyn∉X):ErrV w':=by
 have hl:=h.lt;obtain⟨⟨tp,p,k1⟩,⟨tq,q,k2⟩⟩:=h;exact⟨⟨tp,p,(var_blk gRng_eq k1).2 (hg.block _ hl.1 h1)⟩,⟨tq,q,(var_blk gSyn_eq k2).2 (hg.block _ hl.2 h2)⟩⟩
structure Ns where
 v:Int
 a:Nat
 f:Int
def numS (L:List Bt) (a:Nat) (fl lo hi:Int):Ns:=
 if isNum (L.getD a [])=true then match Lib.atoiAll (L.getD a []) with
  | .ok n=>if n < lo∨hi < n then⟨0,a,failS fl 2⟩ else⟨n,passS L.length a fl,fl⟩
  | _=>⟨0,a,failS fl 2⟩
 else⟨0,a,failS fl 3⟩
structure RdEnv (w : World) (R : Nat) (L : List Bt) : Prop where
 err:ErrV w
 g1:gRng < R
 g2:gSyn < R
 short:∀t∈L,t.length≤2500
theorem RdEnv.fr {w w':World} {R:Nat} {L:List Bt} {X:List Nat} (h:RdEnv w R L) (hg:Fr X w w') (hX:∀x∈X,R≤x):RdEnv w' R L:=
 ⟨h.err.fr hg (fun e=>by have:=hX _ e;have:=h.g1;omega) (fun e=>by have:=hX _ e;have:=h.g2;omega),h.g1,h.g2,h.short⟩
theorem RdEnv.get {w:World} {R:Nat} {L:List Bt} (h:RdEnv w R L) (a:Nat):(L.getD a []).length≤2500:=by
 rw[List.getD_eq_getElem?_getD];cases e:L[a]? with
 | none=>simp
 | some t=>exact h.short t (List.mem_of_getElem? e)
set_option maxHeartbeats 4000000 in
set_option maxRecDepth 100000 in
theorem number_any (w:World) (R S:Nat) (L:List Bt) (a:Nat) (fl lo hi:Int) (h:RdAt w R S L a fl) (he:RdEnv w R L):
  Calls Tryz.prog 99 #[.pointer (some ⟨R,0,none⟩),.int .i64 lo,.int .i64 hi] w fun e w'=>e=.returned (.int .i64 (numS L a fl lo hi).v)∧RdAt w' R S L (numS L a fl lo hi).a (numS L a fl lo hi).f∧Fr [R] w w':=by
 have HH:=hideIt h;have HE:=hideIt he;have hS:S≠R:=h.ne;have HN:=hideIt (next_any w R S L a fl h);have hlen:=he.get a;have HI:=hideIt (fun W=>isNumber_any (L.getD a []) W hlen);have HA:=hideIt (fun W (hv:ErrV W)=>atoi_call (L.getD a []) W (by omega) hv);obtain⟨q,hq⟩:∃q,numS L a fl lo hi=q:=⟨_,rfl⟩;have hq':=hq;rw[hq];unfold numS at hq';have HQ:=hideIt hq';clear h he hlen hq hq';generalize L.getD a []=t at*
 cases hn:isNum t with
 | false=>
  have e1:q=⟨0,a,failS fl 3⟩:=by rw[←HQ.out,hn];rfl
  rw[hn] at HI;subst e1;clear HQ hn;go_enter Tryz.func99,Tryz.ntmps99
  go_wp2_with fail
  refine HN.out.mono ?_;rintro y w1 ⟨rfl,k1,rfl⟩;go_wp2_with fail
  refine(HI.out _).mono ?_;rintro y w2 ⟨rfl,hf2⟩;have HF2:=hideIt ((Fr.drewN [R] w k1).trans (hf2.more (by simp)));have HR2:=hideIt (HH.out.fr ((Fr.drewN [] w k1).trans hf2) (by simp) (by simp));clear hf2;go_wp2_with fail
  refine(fail_any _ R S L a fl 3 HR2.out).mono ?_;rintro y w3 ⟨rfl,h3,hf3⟩;have H3:=hideIt h3;have HF3:=hideIt (HF2.out.trans hf3);clear h3 hf3;go_wp2;go_ret;exact⟨rfl,H3.out,HF3.out⟩
 | true=>
  rw[hn] at HI;have hqt:=HQ.out;rw[hn,if_pos rfl] at hqt;have HQ2:=hideIt hqt;clear HQ hn hqt;go_enter Tryz.func99,Tryz.ntmps99
  go_wp2_with fail
  refine HN.out.mono ?_;rintro y w1 ⟨rfl,k1,rfl⟩;go_wp2_with fail
  refine(HI.out _).mono ?_;rintro y w2 ⟨rfl,hf2⟩;have hF2:=(Fr.drewN [] w k1).trans hf2;have HF2:=hideIt hF2;have HR2:=hideIt (HH.out.fr hF2 (by simp) (by simp));have HV2:=hideIt (HE.out.err.fr hF2 (by simp) (by simp));clear hf2 hF2;go_wp2_with fail
  refine(HA.out _ HV2.out).mono ?_;rintro y w3 ⟨hf3,⟨v,hv,rfl⟩ | ⟨hv,n,T,x,rfl⟩⟩
  ·have HF3:=hideIt (HF2.out.trans hf3);have HR3:=hideIt (HR2.out.fr hf3 (by simp) (by simp));have hq2:=HQ2.out;rw[hv] at hq2;simp only at hq2;clear hf3 hv HQ2;by_cases hlo:v < lo
   ·have e1:q=⟨0,a,failS fl 2⟩:=by rw[←hq2,if_pos (Or.inl hlo)]
    subst e1;clear hq2;go_wp2_with fail
    refine(fail_any _ R S L a fl 2 HR3.out).mono ?_;rintro y w4 ⟨rfl,h4,hf4⟩;have H4:=hideIt h4;have HF4:=hideIt ((HF3.out.more (Y:= [R]) (by simp)).trans hf4);clear h4 hf4;go_wp2;go_ret;exact⟨rfl,H4.out,HF4.out⟩
   ·by_cases hhi:hi < v
    ·have e1:q=⟨0,a,failS fl 2⟩:=by rw[←hq2,if_pos (Or.inr hhi)]
     subst e1;clear hq2;go_wp2_with fail
     refine(fail_any _ R S L a fl 2 HR3.out).mono ?_;rintro y w4 ⟨rfl,h4,hf4⟩;have H4:=hideIt h4;have HF4:=hideIt ((HF3.out.more (Y:= [R]) (by simp)).trans hf4);clear h4 hf4;go_wp2;go_ret;exact⟨rfl,H4.out,HF4.out⟩
    ·have e1:q=⟨v,passS L.length a fl,fl⟩:=by rw[←hq2,if_neg (by omega)]
     subst e1;clear hq2;go_wp2_with fail
     refine(pass_any _ R S L a fl HR3.out).mono ?_;rintro y w4 ⟨rfl,h4,hf4⟩;have H4:=hideIt h4;have HF4:=hideIt ((HF3.out.more (Y:= [R]) (by simp)).trans hf4);clear h4 hf4;go_wp2;go_ret;exact⟨rfl,H4.out,HF4.out⟩
  ·have HF3:=hideIt (HF2.out.trans hf3);have HR3:=hideIt (HR2.out.fr hf3 (by simp) (by simp));have e1:q=⟨0,a,failS fl 2⟩:=by
    rw[←HQ2.out];cases ha:Lib.atoiAll t with
    | ok v=>exact absurd ha (hv v)
    | «syntax» =>rfl
    | range=>rfl
   subst e1;clear HQ2 hv hf3;go_wp2_with fail
   refine(fail_any _ R S L a fl 2 HR3.out).mono ?_;rintro y w4 ⟨rfl,h4,hf4⟩;have H4:=hideIt h4;have HF4:=hideIt ((HF3.out.more (Y:= [R]) (by simp)).trans hf4);clear h4 hf4;go_wp2;go_ret;exact⟨rfl,H4.out,HF4.out⟩
open Go.Shelf
def nu_laysC174_ren:Go.Shelf.Ren:=⟨fun | 174=>181 | 247=>237 | 245=>223 | 287=>272 | 279=>262 | 280=>263 | 281=>264 | 282=>265 | 321=>285 | 322=>286 | 316=>280 | 171=>26 | 205=>281 | 243=>64 | 246=>124 | 283=>173 | 284=>174 | 285=>175 | 286=>176 | 129=>199 | 317=>229 | 318=>230 | 319=>231 | 320=>232 | 337=>270 | 338=>271 | n=>n,fun | 9=>9 | 3=>3 | 2=>2 | 75=>29 | 85=>284 | 4=>4 | 167=>366 | 5=>5 | 53=>164 | 175=>377 | 46=>70 | 168=>367 | 37=>134 | 0=>0 | 210=>385 | 21=>21 | 127=>216 | 145=>396 | 143=>394 | 171=>276 | 173=>279 | 212=>332 | 51=>300 | 20=>20 | 213=>333 | 232=>391 | 233=>392 | 80=>142 | n=>n,fun | 15=>6 | 16=>7 | 17=>3 | 18=>8 | 19=>9 | n=>n⟩
theorem nu_laysC174:Go.Proofs.LaysC.n174 Tryz.prog nu_laysC174_ren:= {
 mixed:=by kernel_rfl
 f129:=Tryz.func199.trans (congrArg some (by kernel_rfl))
 f171:=Tryz.func26.trans (congrArg some (by kernel_rfl))
 f174:=Tryz.func181.trans (congrArg some (by kernel_rfl))
 f205:=Tryz.func281.trans (congrArg some (by kernel_rfl))
 f243:=Tryz.func64.trans (congrArg some (by kernel_rfl))
 f245:=Tryz.func223.trans (congrArg some (by kernel_rfl))
 f246:=Tryz.func124.trans (congrArg some (by kernel_rfl))
 f247:=Tryz.func237.trans (congrArg some (by kernel_rfl))
 f279:=Tryz.func262.trans (congrArg some (by kernel_rfl))
 f280:=Tryz.func263.trans (congrArg some (by kernel_rfl))
 f281:=Tryz.func264.trans (congrArg some (by kernel_rfl))
 f282:=Tryz.func265.trans (congrArg some (by kernel_rfl))
 f283:=Tryz.func173.trans (congrArg some (by kernel_rfl))
 f284:=Tryz.func174.trans (congrArg some (by kernel_rfl))
 f285:=Tryz.func175.trans (congrArg some (by kernel_rfl))
 f286:=Tryz.func176.trans (congrArg some (by kernel_rfl))
 f287:=Tryz.func272.trans (congrArg some (by kernel_rfl))
 f316:=Tryz.func280.trans (congrArg some (by kernel_rfl))
 f317:=Tryz.func229.trans (congrArg some (by kernel_rfl))
 f318:=Tryz.func230.trans (congrArg some (by kernel_rfl))
 f319:=Tryz.func231.trans (congrArg some (by kernel_rfl))
 f320:=Tryz.func232.trans (congrArg some (by kernel_rfl))
 f321:=Tryz.func285.trans (congrArg some (by kernel_rfl))
 f322:=Tryz.func286.trans (congrArg some (by kernel_rfl))
 f337:=Tryz.func270.trans (congrArg some (by kernel_rfl))
 f338:=Tryz.func271.trans (congrArg some (by kernel_rfl))
 t0:=Tryz.underlying0
 a0:=Tryz.isAgg0
 z0:=Tryz.sizeOf0
 v0:=Tryz.zeroValue0
 t2:=Tryz.underlying2
 a2:=Tryz.isAgg2
 z2:=Tryz.sizeOf2
 v2:=Tryz.zeroValue2
 t3:=Tryz.underlying3
 a3:=Tryz.isAgg3
 z3:=Tryz.sizeOf3
 v3:=Tryz.zeroValue3
 t4:=Tryz.underlying4
 a4:=Tryz.isAgg4
 z4:=Tryz.sizeOf4
 v4:=Tryz.zeroValue4
 t5:=Tryz.underlying5
 a5:=Tryz.isAgg5
 z5:=Tryz.sizeOf5
 v5:=Tryz.zeroValue5
 t9:=Tryz.underlying9
 a9:=Tryz.isAgg9
 z9:=Tryz.sizeOf9
 v9:=Tryz.zeroValue9
 t20:=Tryz.underlying20
 a20:=Tryz.isAgg20
 z20:=Tryz.sizeOf20
 v20:=Tryz.zeroValue20
 t21:=Tryz.underlying21
 a21:=Tryz.isAgg21
 z21:=Tryz.sizeOf21
 v21:=Tryz.zeroValue21
 t37:=Tryz.underlying134
 a37:=Tryz.isAgg134
 z37:=Tryz.sizeOf134
 v37:=Tryz.zeroValue134
 t46:=Tryz.underlying70
 a46:=Tryz.isAgg70
 z46:=Tryz.sizeOf70
 v46:=Tryz.zeroValue70
 t51:=Tryz.underlying300
 a51:=Tryz.isAgg300
 z51:=Tryz.sizeOf300
 v51:=Tryz.zeroValue300
 t53:=Tryz.underlying164
 a53:=Tryz.isAgg164
 z53:=Tryz.sizeOf164
 v53:=Tryz.zeroValue164
 t75:=Tryz.underlying29
 a75:=Tryz.isAgg29
 z75:=Tryz.sizeOf29
 v75:=Tryz.zeroValue29
 t85:=Tryz.underlying284
 a85:=Tryz.isAgg284
 z85:=Tryz.sizeOf284
 v85:=Tryz.zeroValue284
 t127:=Tryz.underlying216
 a127:=Tryz.isAgg216
 z127:=Tryz.sizeOf216
 v127:=Tryz.zeroValue216
 t143:=Tryz.underlying394
 a143:=Tryz.isAgg394
 z143:=Tryz.sizeOf394
 v143:=Tryz.zeroValue394
 t145:=Tryz.underlying396
 a145:=Tryz.isAgg396
 z145:=Tryz.sizeOf396
 v145:=Tryz.zeroValue396
 t167:=Tryz.underlying366
 a167:=Tryz.isAgg366
 z167:=Tryz.sizeOf366
 v167:=Tryz.zeroValue366
 t168:=Tryz.underlying367
 a168:=Tryz.isAgg367
 z168:=Tryz.sizeOf367
 v168:=Tryz.zeroValue367
 t171:=Tryz.underlying276
 a171:=Tryz.isAgg276
 z171:=Tryz.sizeOf276
 v171:=Tryz.zeroValue276
 t173:=Tryz.underlying279
 a173:=Tryz.isAgg279
 z173:=Tryz.sizeOf279
 v173:=Tryz.zeroValue279
 t175:=Tryz.underlying377
 a175:=Tryz.isAgg377
 z175:=Tryz.sizeOf377
 v175:=Tryz.zeroValue377
 t210:=Tryz.underlying385
 a210:=Tryz.isAgg385
 z210:=Tryz.sizeOf385
 v210:=Tryz.zeroValue385
 t212:=Tryz.underlying332
 a212:=Tryz.isAgg332
 z212:=Tryz.sizeOf332
 v212:=Tryz.zeroValue332
 t213:=Tryz.underlying333
 a213:=Tryz.isAgg333
 z213:=Tryz.sizeOf333
 t232:=Tryz.underlying391
 a232:=Tryz.isAgg391
 z232:=Tryz.sizeOf391
 v232:=Tryz.zeroValue391
 t233:=Tryz.underlying392
 a233:=Tryz.isAgg392
 z233:=Tryz.sizeOf392
 v233:=Tryz.zeroValue392
 g15:=by kernel_rfl
 g16:=by kernel_rfl
 g17:=by kernel_rfl
 g18:=by kernel_rfl
 g19:=by kernel_rfl
 t80:=Tryz.underlying142
 a80:=Tryz.isAgg142
 z80:=Tryz.sizeOf142
 v80:=Tryz.zeroValue142
 i0:=by kernel_rfl
 i2:=by kernel_rfl
 i3:=by kernel_rfl
 i4:=by kernel_rfl
 i5:=by kernel_rfl
 i9:=by kernel_rfl
 i20:=by kernel_rfl
 i21:=by kernel_rfl
 i37:=by kernel_rfl
 i46:=by kernel_rfl
 i51:=by kernel_rfl
 i53:=by kernel_rfl
 i75:=by kernel_rfl
 i80:=by kernel_rfl
 i85:=by kernel_rfl
 i127:=by kernel_rfl
 i143:=by kernel_rfl
 i145:=by kernel_rfl
 i167:=by kernel_rfl
 i168:=by kernel_rfl
 i171:=by kernel_rfl
 i173:=by kernel_rfl
 i175:=by kernel_rfl
 i210:=by kernel_rfl
 i212:=by kernel_rfl
 i232:=by kernel_rfl
 i233:=by kernel_rfl
 m15:=by kernel_rfl
 m16:=by kernel_rfl
 m17:=by kernel_rfl
 m18:=by kernel_rfl
 m19:=by kernel_rfl
 c0:=by kernel_rfl
 c2:=by kernel_rfl
 c3:=by kernel_rfl
 c4:=by kernel_rfl
 c5:=by kernel_rfl
 c9:=by kernel_rfl
 c20:=by kernel_rfl
 c21:=by kernel_rfl
 c37:=by kernel_rfl
 c46:=by kernel_rfl
 c51:=by kernel_rfl
 c53:=by kernel_rfl
 c75:=by kernel_rfl
 c80:=by kernel_rfl
 c85:=by kernel_rfl
 c127:=by kernel_rfl
 c143:=by kernel_rfl
 c145:=by kernel_rfl
 c167:=by kernel_rfl
 c168:=by kernel_rfl
 c171:=by kernel_rfl
 c173:=by kernel_rfl
 c175:=by kernel_rfl
 c210:=by kernel_rfl
 c212:=by kernel_rfl
 c213:=by kernel_rfl
 c232:=by kernel_rfl
 c233:=by kernel_rfl}
def nu_lays145_ren:Go.Shelf.Ren:=⟨fun | 145=>40 | 220=>89 | 219=>134 | 217=>186 | 225=>187 | 224=>188 | 267=>189 | 266=>238 | 314=>239 | n=>n,fun | 9=>9 | 4=>4 | 59=>96 | 3=>3 | 5=>5 | 46=>70 | 146=>337 | 51=>300 | n=>n,fun | 1=>1 | n=>n⟩
theorem nu_lays145:Go.Proofs.Lays.n145 Tryz.prog nu_lays145_ren:= {
 mixed:=by kernel_rfl
 f145:=Tryz.func40.trans (congrArg some (by kernel_rfl))
 f217:=Tryz.func186.trans (congrArg some (by kernel_rfl))
 f219:=Tryz.func134.trans (congrArg some (by kernel_rfl))
 f220:=Tryz.func89.trans (congrArg some (by kernel_rfl))
 f224:=Tryz.func188.trans (congrArg some (by kernel_rfl))
 f225:=Tryz.func187.trans (congrArg some (by kernel_rfl))
 f266:=Tryz.func238.trans (congrArg some (by kernel_rfl))
 f267:=Tryz.func189.trans (congrArg some (by kernel_rfl))
 f314:=Tryz.func239.trans (congrArg some (by kernel_rfl))
 t3:=Tryz.underlying3
 a3:=Tryz.isAgg3
 z3:=Tryz.sizeOf3
 v3:=Tryz.zeroValue3
 t4:=Tryz.underlying4
 a4:=Tryz.isAgg4
 z4:=Tryz.sizeOf4
 v4:=Tryz.zeroValue4
 t5:=Tryz.underlying5
 a5:=Tryz.isAgg5
 z5:=Tryz.sizeOf5
 v5:=Tryz.zeroValue5
 t9:=Tryz.underlying9
 a9:=Tryz.isAgg9
 z9:=Tryz.sizeOf9
 v9:=Tryz.zeroValue9
 t46:=Tryz.underlying70
 a46:=Tryz.isAgg70
 z46:=Tryz.sizeOf70
 v46:=Tryz.zeroValue70
 t51:=Tryz.underlying300
 a51:=Tryz.isAgg300
 z51:=Tryz.sizeOf300
 v51:=Tryz.zeroValue300
 t59:=Tryz.underlying96
 a59:=Tryz.isAgg96
 z59:=Tryz.sizeOf96
 v59:=Tryz.zeroValue96
 t146:=Tryz.underlying337
 a146:=Tryz.isAgg337
 z146:=Tryz.sizeOf337
 v146:=Tryz.zeroValue337
 g1:=by kernel_rfl}
def nu_lays146_ren:Go.Shelf.Ren:=⟨fun | 146=>143 | 221=>215 | 268=>252 | 138=>177 | 143=>72 | 195=>233 | 197=>178 | 218=>234 | 219=>134 | 260=>235 | 217=>186 | 225=>187 | 224=>188 | 267=>189 | 266=>238 | 314=>239 | n=>n,fun | 9=>9 | 31=>72 | 3=>3 | 4=>4 | 0=>0 | 105=>281 | 21=>21 | 5=>5 | 46=>70 | 119=>373 | 139=>376 | 138=>375 | 146=>337 | 51=>300 | n=>n,fun | 1=>1 | 3=>4 | 4=>5 | n=>n⟩
theorem nu_lays146:Go.Proofs.Lays.n146 Tryz.prog nu_lays146_ren:= {
 mixed:=by kernel_rfl
 f138:=Tryz.func177.trans (congrArg some (by kernel_rfl))
 f143:=Tryz.func72.trans (congrArg some (by kernel_rfl))
 f146:=Tryz.func143.trans (congrArg some (by kernel_rfl))
 f195:=Tryz.func233.trans (congrArg some (by kernel_rfl))
 f197:=Tryz.func178.trans (congrArg some (by kernel_rfl))
 f217:=Tryz.func186.trans (congrArg some (by kernel_rfl))
 f218:=Tryz.func234.trans (congrArg some (by kernel_rfl))
 f219:=Tryz.func134.trans (congrArg some (by kernel_rfl))
 f221:=Tryz.func215.trans (congrArg some (by kernel_rfl))
 f224:=Tryz.func188.trans (congrArg some (by kernel_rfl))
 f225:=Tryz.func187.trans (congrArg some (by kernel_rfl))
 f260:=Tryz.func235.trans (congrArg some (by kernel_rfl))
 f266:=Tryz.func238.trans (congrArg some (by kernel_rfl))
 f267:=Tryz.func189.trans (congrArg some (by kernel_rfl))
 f268:=Tryz.func252.trans (congrArg some (by kernel_rfl))
 f314:=Tryz.func239.trans (congrArg some (by kernel_rfl))
 t0:=Tryz.underlying0
 a0:=Tryz.isAgg0
 z0:=Tryz.sizeOf0
 v0:=Tryz.zeroValue0
 t3:=Tryz.underlying3
 a3:=Tryz.isAgg3
 z3:=Tryz.sizeOf3
 v3:=Tryz.zeroValue3
 t4:=Tryz.underlying4
 a4:=Tryz.isAgg4
 z4:=Tryz.sizeOf4
 v4:=Tryz.zeroValue4
 t5:=Tryz.underlying5
 a5:=Tryz.isAgg5
 z5:=Tryz.sizeOf5
 v5:=Tryz.zeroValue5
 t9:=Tryz.underlying9
 a9:=Tryz.isAgg9
 z9:=Tryz.sizeOf9
 v9:=Tryz.zeroValue9
 t21:=Tryz.underlying21
 a21:=Tryz.isAgg21
 z21:=Tryz.sizeOf21
 v21:=Tryz.zeroValue21
 t31:=Tryz.underlying72
 a31:=Tryz.isAgg72
 z31:=Tryz.sizeOf72
 v31:=Tryz.zeroValue72
 t46:=Tryz.underlying70
 a46:=Tryz.isAgg70
 z46:=Tryz.sizeOf70
 v46:=Tryz.zeroValue70
 t51:=Tryz.underlying300
 a51:=Tryz.isAgg300
 z51:=Tryz.sizeOf300
 v51:=Tryz.zeroValue300
 t105:=Tryz.underlying281
 a105:=Tryz.isAgg281
 z105:=Tryz.sizeOf281
 v105:=Tryz.zeroValue281
 t119:=Tryz.underlying373
 a119:=Tryz.isAgg373
 z119:=Tryz.sizeOf373
 t138:=Tryz.underlying375
 a138:=Tryz.isAgg375
 z138:=Tryz.sizeOf375
 v138:=Tryz.zeroValue375
 t139:=Tryz.underlying376
 a139:=Tryz.isAgg376
 z139:=Tryz.sizeOf376
 v139:=Tryz.zeroValue376
 t146:=Tryz.underlying337
 a146:=Tryz.isAgg337
 z146:=Tryz.sizeOf337
 v146:=Tryz.zeroValue337
 g1:=by kernel_rfl
 g3:=by kernel_rfl
 g4:=by kernel_rfl}
def nu_laysM173_ren:Go.Shelf.Ren:=⟨fun | 173=>182 | 246=>124 | 283=>173 | 284=>174 | 285=>175 | 286=>176 | 129=>199 | 317=>229 | 318=>230 | 319=>231 | 320=>232 | 337=>270 | 338=>271 | n=>n,fun | 2=>2 | 3=>3 | 9=>9 | 4=>4 | 171=>276 | 0=>0 | 53=>164 | 37=>134 | 5=>5 | 173=>279 | 212=>332 | 51=>300 | 20=>20 | 213=>333 | 46=>70 | 232=>391 | 233=>392 | n=>n,fun | 17=>3 | 18=>8 | 19=>9 | n=>n⟩
theorem nu_laysM173:Go.Proofs.LaysM.n173 Tryz.prog nu_laysM173_ren:= {
 mixed:=by kernel_rfl
 f129:=Tryz.func199.trans (congrArg some (by kernel_rfl))
 f173:=Tryz.func182.trans (congrArg some (by kernel_rfl))
 f246:=Tryz.func124.trans (congrArg some (by kernel_rfl))
 f283:=Tryz.func173.trans (congrArg some (by kernel_rfl))
 f284:=Tryz.func174.trans (congrArg some (by kernel_rfl))
 f285:=Tryz.func175.trans (congrArg some (by kernel_rfl))
 f286:=Tryz.func176.trans (congrArg some (by kernel_rfl))
 f317:=Tryz.func229.trans (congrArg some (by kernel_rfl))
 f318:=Tryz.func230.trans (congrArg some (by kernel_rfl))
 f319:=Tryz.func231.trans (congrArg some (by kernel_rfl))
 f320:=Tryz.func232.trans (congrArg some (by kernel_rfl))
 f337:=Tryz.func270.trans (congrArg some (by kernel_rfl))
 f338:=Tryz.func271.trans (congrArg some (by kernel_rfl))
 t0:=Tryz.underlying0
 a0:=Tryz.isAgg0
 z0:=Tryz.sizeOf0
 v0:=Tryz.zeroValue0
 t2:=Tryz.underlying2
 a2:=Tryz.isAgg2
 z2:=Tryz.sizeOf2
 v2:=Tryz.zeroValue2
 t3:=Tryz.underlying3
 a3:=Tryz.isAgg3
 z3:=Tryz.sizeOf3
 v3:=Tryz.zeroValue3
 t4:=Tryz.underlying4
 a4:=Tryz.isAgg4
 z4:=Tryz.sizeOf4
 v4:=Tryz.zeroValue4
 t5:=Tryz.underlying5
 a5:=Tryz.isAgg5
 z5:=Tryz.sizeOf5
 v5:=Tryz.zeroValue5
 t9:=Tryz.underlying9
 a9:=Tryz.isAgg9
 z9:=Tryz.sizeOf9
 v9:=Tryz.zeroValue9
 t20:=Tryz.underlying20
 a20:=Tryz.isAgg20
 z20:=Tryz.sizeOf20
 v20:=Tryz.zeroValue20
 t37:=Tryz.underlying134
 a37:=Tryz.isAgg134
 z37:=Tryz.sizeOf134
 v37:=Tryz.zeroValue134
 t46:=Tryz.underlying70
 a46:=Tryz.isAgg70
 z46:=Tryz.sizeOf70
 v46:=Tryz.zeroValue70
 t51:=Tryz.underlying300
 a51:=Tryz.isAgg300
 z51:=Tryz.sizeOf300
 v51:=Tryz.zeroValue300
 t53:=Tryz.underlying164
 a53:=Tryz.isAgg164
 z53:=Tryz.sizeOf164
 v53:=Tryz.zeroValue164
 t171:=Tryz.underlying276
 a171:=Tryz.isAgg276
 z171:=Tryz.sizeOf276
 v171:=Tryz.zeroValue276
 t173:=Tryz.underlying279
 a173:=Tryz.isAgg279
 z173:=Tryz.sizeOf279
 v173:=Tryz.zeroValue279
 t212:=Tryz.underlying332
 a212:=Tryz.isAgg332
 z212:=Tryz.sizeOf332
 v212:=Tryz.zeroValue332
 t213:=Tryz.underlying333
 a213:=Tryz.isAgg333
 z213:=Tryz.sizeOf333
 t232:=Tryz.underlying391
 a232:=Tryz.isAgg391
 z232:=Tryz.sizeOf391
 v232:=Tryz.zeroValue391
 t233:=Tryz.underlying392
 a233:=Tryz.isAgg392
 z233:=Tryz.sizeOf392
 v233:=Tryz.zeroValue392
 g17:=by kernel_rfl
 g18:=by kernel_rfl
 g19:=by kernel_rfl
 i0:=by kernel_rfl
 i2:=by kernel_rfl
 i3:=by kernel_rfl
 i4:=by kernel_rfl
 i5:=by kernel_rfl
 i9:=by kernel_rfl
 i20:=by kernel_rfl
 i37:=by kernel_rfl
 i46:=by kernel_rfl
 i51:=by kernel_rfl
 i53:=by kernel_rfl
 i171:=by kernel_rfl
 i173:=by kernel_rfl
 i212:=by kernel_rfl
 i232:=by kernel_rfl
 i233:=by kernel_rfl
 m17:=by kernel_rfl
 m18:=by kernel_rfl
 m19:=by kernel_rfl}
end Go.Proofs.YtjpklmighoondaaGreatDoor.Gn
