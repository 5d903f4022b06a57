/-
  How deep a generator is: with enough room what is given next hangs on no room.
  A generator in memory: its blocks are its own, each part's apart from all others.
  The reader of signs in memory, and its small steps.
  What the library's functions tell the reader.
  The reader's expect.
  How much of the tape a generator uses: what stands in it bounds it.
  How a text is read as a generator: in plain Lean.
-/
import Derived.Test.YtjpklmighoondaaGreatDoorGnPY
import Derived.Deep.DeepCutAuto
import Derived.Lib.Bytealg
import Derived.Lib.IndexAny
import Derived.Lib.AtoiAll
import Derived.Lib.SlTrimSet
import Derived.Lib.Strings
namespace Go.Proofs.YtjpklmighoondaaGreatDoor.Gn
def htLe:Nat→Gt→Prop
 | 0,_=>False
 | _+1,.rd _=>True
 | _+1,.wr _ _ _=>True
 | n+1,.lim g _=>htLe n g
 | n+1,.mix l=>∀g∈l,htLe n g
 | n+1,.thn l=>∀g∈l,htLe n g
theorem mixF_congr {nx ny:Gt→Tp→Gv} {Q:Gt→Prop} (h:∀g t,Q g→ny g t=nx g t∧Q (nx g t).g) (hd:Q (.rd 0)):∀(k:Nat) (l:List Gt) (t:Tp),(∀g∈l,Q g)→mixF ny k l t=mixF nx k l t∧∃l',(mixF nx k l t).g=.mix l'∧∀g∈l',Q g
 | 0,l,t,hl=>⟨rfl,l,rfl,hl⟩
 | k+1,l,t,hl=>by
  have hq:Q (l.getD (t.below l.length).toNat (.rd 0)):=by
   rw[List.getD_eq_getElem?_getD];cases e:l[(t.below l.length).toNat]? with
   | none=>exact hd
   | some g=>exact hl g (List.mem_of_getElem? e)
  obtain⟨e1,e2⟩:=h _ (t.on l.length) hq;simp only[mixF];rw[e1];cases e:(nx (l.getD (t.below l.length).toNat (.rd 0)) (t.on l.length)).c with
  | some c=>
   refine⟨rfl,_,rfl,fun g hg=>?_⟩;rcases List.mem_or_eq_of_mem_set hg with hg | rfl
   ·exact hl g hg
   ·exact e2
  | none=>exact mixF_congr h hd k _ _ (fun g hg=>hl g (List.mem_of_mem_eraseIdx hg))
theorem thnF_congr {nx ny:Gt→Tp→Gv} {Q:Gt→Prop} (h:∀g t,Q g→ny g t=nx g t∧Q (nx g t).g):∀(l:List Gt) (t:Tp),(∀g∈l,Q g)→thnF ny l t=thnF nx l t∧∃l',(thnF nx l t).g=.thn l'∧∀g∈l',Q g
 | [],t,hl=>⟨rfl,[],rfl,hl⟩
 | g::l,t,hl=>by
  obtain⟨e1,e2⟩:=h g t (hl g (by simp));simp only[thnF];rw[e1];cases e:(nx g t).c with
  | some c=>
   refine⟨rfl,_,rfl,fun x hx=>?_⟩;rcases List.mem_cons.1 hx with rfl | hx
   ·exact e2
   ·exact hl x (by simp[hx])
  | none=>exact thnF_congr h l _ (fun x hx=>hl x (by simp[hx]))
theorem nextF_more:∀(n:Nat) (g:Gt) (t:Tp),htLe n g→nextF (n+1) g t=nextF n g t∧htLe n (nextF n g t).g
 | 0,_,_,h=>h.elim
 | n+1,.rd k,t,h=>⟨rfl,trivial⟩
 | n+1,.wr k a b,t,h=>⟨rfl,trivial⟩
 | n+1,.lim g k,t,h=>by
  obtain⟨e1,e2⟩:=nextF_more n g t h;rw[nextF,nextF]
  split
  ·exact⟨rfl,h⟩
  ·simp only[e1];exact⟨trivial,e2⟩
 | n+1,.mix l,t,h=>by
  have ih:∀g t,htLe n g→nextF (n+1) g t=nextF n g t∧htLe n (nextF n g t).g:=fun g t hg=>nextF_more n g t hg
  cases hn:n with
  | zero=>
   subst hn;rcases l with _ | ⟨g,l⟩
   ·exact⟨rfl,h⟩
   ·exact(h g (by simp)).elim
  | succ k=>
   obtain⟨e1,l',e2,e3⟩:=mixF_congr (nx:=nextF n) (ny:=nextF (n+1)) (Q:=htLe n) ih (by rw[hn];trivial) l.length l t h;rw[←hn];refine⟨e1,?_⟩;rw[nextF,e2];exact e3
 | n+1,.thn l,t,h=>by
  obtain⟨e1,l',e2,e3⟩:=thnF_congr (nx:=nextF n) (ny:=nextF (n+1)) (Q:=htLe n) (fun g t hg=>nextF_more n g t hg) l t h;refine⟨e1,?_⟩;rw[nextF,e2];exact e3
open Go.RowKit
theorem heap_new (w:World) (o:Obj):(w.alloc o).heap[w.heap.size]?=some o:=by
 show (w.heap.push o)[w.heap.size]?=_;simp
def tgD:Option Obj→Nat
 | some (.cells _ t _)=>t+1
 | _=>0
theorem tgD_set (w:World) (p:Addr) (v:Value) (k:Nat):tgD (w.setCell p v).heap[k]?=tgD w.heap[k]?:=by
 by_cases hk:k=p.block
 ·subst hk;unfold World.setCell;simp only[Array.getElem?_modify,if_pos];cases w.heap[p.block]? with
  | none=>rfl
  | some x=>cases x<;>rfl
 ·rw[Below.heap_setCell w p v k hk]
theorem own_tgD {W:World} {base:Nat} {e:TypeId} {m:Nat} {g n c l:Nat} {xs:List Value} (h:W.ownsRow base e m (.slice (some ⟨g,0,none⟩) n c) l xs):tgD W.heap[g]?=e+1:=by
 rcases h.2 with ⟨e1,_⟩ | ⟨g',c',cur,e1,_,h2,_⟩
 ·cases e1
 ·cases e1;rw[h2];rfl
structure Fr (X : List Nat) (w w' : World) : Prop where
 os:w'.os=w.os
 tape:w'.tape=w.tape
 output:w'.output=w.output
 size:w.heap.size≤w'.heap.size
 block:∀k,k < w.heap.size→k∉X→w'.heap[k]?=w.heap[k]?
 tag:∀k,k < w.heap.size→tgD w'.heap[k]?=tgD w.heap[k]?
theorem Fr.refl (X:List Nat) (w:World):Fr X w w:=⟨rfl,rfl,rfl,Nat.le_refl _,fun _ _ _=>rfl,fun _ _=>rfl⟩
theorem Fr.trans {X:List Nat} {a b c:World} (h:Fr X a b) (k:Fr X b c):Fr X a c:=
 ⟨k.os.trans h.os,k.tape.trans h.tape,k.output.trans h.output,Nat.le_trans h.size k.size,fun i hi hn=>(k.block i (Nat.lt_of_lt_of_le hi h.size) hn).trans (h.block i hi hn),fun i hi=>(k.tag i (Nat.lt_of_lt_of_le hi h.size)).trans (h.tag i hi)⟩
theorem Fr.more {X Y:List Nat} {a b:World} (h:Fr X a b) (hXY:∀x∈X,x∈Y∨a.heap.size≤x):Fr Y a b:=
 ⟨h.os,h.tape,h.output,h.size,fun k hk hn=>h.block k hk fun hx=>by rcases hXY k hx with h | h;exact hn h;omega,h.tag⟩
theorem Fr.of_grown {X:List Nat} {w w':World} {row:Option Nat} (h:w.grownBy w' row) (hr:∀b,row=some b→b∈X) (ht:∀b,row=some b→b < w.heap.size→tgD w'.heap[b]?=tgD w.heap[b]?):Fr X w w':=
 ⟨h.os,h.tape,h.output,h.size,fun k hk hn=>h.block k hk fun e=>hn (hr k e.symm),fun k hk=>by
  by_cases e:row=some k
  ·exact ht k e hk
  ·rw[h.block k hk fun e'=>e e'.symm]⟩
theorem Fr.drewN (X:List Nat) (w:World) (k:Nat):Fr X w (w.drewN k):=.of_grown (grown_drewN w k) (fun _ e=>by cases e) (fun _ e=>by cases e)
theorem Fr.alloc (X:List Nat) (w:World) (o:Obj):Fr X w (w.alloc o):=
 ⟨rfl,rfl,rfl,by simp,fun k hk _=>Below.heap_alloc w o k hk,fun k hk=>by rw[Below.heap_alloc w o k hk]⟩
theorem Fr.set {X:List Nat} (w:World) (p:Addr) (v:Value) (h:p.block∈X):Fr X w (w.setCell p v):=.of_grown (grown_set w p v) (fun _ e=>by cases e;exact h) (fun b _ _=>tgD_set w p v b)
theorem Fr.turn (w:World) (B o:Nat) (t:Tp) (n:Int) (k:Nat):Fr [B] w (tpTurn (w.drewN k) B o t n):=.of_grown (grown_turn w B o t n k) (fun b e=>by cases e;simp) (fun b _ _=>by
 unfold tpTurn
 split
 ·rfl
 ·exact tgD_set _ _ _ _)
theorem Fr.setNew {X:List Nat} {w W:World} (h:Fr X w W) (p:Addr) (v:Value) (hp:w.heap.size≤p.block):Fr X w (W.setCell p v):=
 ⟨h.os,h.tape,h.output,by simpa [World.setCell] using h.size,fun k hk hn=>(Below.heap_setCell W p v k (by omega)).trans (h.block k hk hn),fun k hk=>(tgD_set W p v k).trans (h.tag k hk)⟩
theorem Fr.below {X:List Nat} {w w':World} {base:Nat} (h:Fr X w w') (hb:base≤w.heap.size) (hX:∀x∈X,base≤x):Below base w w':=
 ⟨h.os,h.tape,h.output,h.size,fun k hk=>h.block k (by omega) fun hx=>by have:=hX k hx;omega⟩
theorem TpAt.fr {w w':World} {base B o:Nat} {t:Tp} {X:List Nat} (h:TpAt w base B o t) (hg:Fr X w w') (hB:B∉X) (hX:∀x∈X,base≤x):TpAt w' base B o t:=by
 have hlt:=h.lt;obtain⟨⟨a,cap,c0,hcap,hr⟩,c1,hm,hlo⟩:=h;have hbk:=hg.block B hlt hB;refine⟨⟨a,cap,(World.cell?_of_block (a:=⟨B,o,none⟩) hbk).trans c0,hcap,?_⟩,(World.cell?_of_block (a:=⟨B,o+1,none⟩) hbk).trans c1,(World.frozen?_of_block (a:=⟨B,o+1,none⟩) hbk).trans hm,hlo⟩;refine hr.imp id fun⟨b,off,e,hb,hcc⟩=>⟨b,off,e,hb,fun i hi=>?_⟩
 have hbk2:=hg.block b (by omega) (fun e=>by have:=hX b e;omega);exact(World.cell?_of_block (a:=⟨b,off+i,none⟩) hbk2).trans (hcc i hi)
theorem ownsRow_blk {w w':World} {base:Nat} {e:TypeId} {z n:Nat} {v:Value} {xs:List Value} (h:w.ownsRow base e z v n xs) (hb:∀g,v.ownBlock=some g→w'.heap[g]?=w.heap[g]?):w'.ownsRow base e z v n xs:=by
 refine⟨h.1,h.2.imp id fun⟨g,cap,cur,e,h1,h2,h3⟩=>⟨g,cap,cur,e,h1,(hb g (by rw[e];rfl)).trans h2,h3⟩⟩
inductive Parts (P : Value → Gt → List Nat → Prop) : List Value → List Gt → List Nat → Prop where
 | nil:Parts P [] [] []
 | cons {v:Value} {g:Gt} {bs:List Nat} {vs:List Value} {gs:List Gt} {cs:List Nat} (h:P v g bs) (hs:Parts P vs gs cs) (ha:∀b∈bs,b∉cs):Parts P (v::vs) (g::gs) (bs++cs)
theorem Parts.len {P:Value→Gt→List Nat→Prop} {vs:List Value} {gs:List Gt} {cs:List Nat} (h:Parts P vs gs cs):vs.length=gs.length:=by
 induction h with
 | nil=>rfl
 | cons _ _ _ ih=>simp[ih]
theorem Parts.mono {P Q:Value→Gt→List Nat→Prop} {vs:List Value} {gs:List Gt} {cs:List Nat} (h:Parts P vs gs cs) (k:∀v g bs,(∀b∈bs,b∈cs)→P v g bs→Q v g bs):Parts Q vs gs cs:=by
 induction h with
 | nil=>exact .nil
 | cons h hs ha ih=>exact .cons (k _ _ _ (fun b hb=>List.mem_append_left _ hb) h) (ih fun v g bs hb=>k v g bs fun b hb'=>List.mem_append_right _ (hb b hb')) ha
theorem Parts.at_ {P:Value→Gt→List Nat→Prop} {vs:List Value} {gs:List Gt} {cs:List Nat} (h:Parts P vs gs cs):∀i,(hi:i < gs.length)→∃v bs,vs[i]?=some v∧P v gs[i] bs∧(∀b∈bs,b∈cs)∧
  (∀(Q:Value→Gt→List Nat→Prop) v' g' bs',(∀b∈bs',b∈bs)→Q v' g' bs'→(∀v g ds,(∀b∈ds,b∈cs∧b∉bs)→P v g ds→Q v g ds)→∃cs',Parts Q (vs.set i v') (gs.set i g') cs'∧∀b∈cs',b∈cs)∧
  (∀(Q:Value→Gt→List Nat→Prop),(∀v g ds,(∀b∈ds,b∈cs∧b∉bs)→P v g ds→Q v g ds)→∃cs',Parts Q (vs.eraseIdx i) (gs.eraseIdx i) cs'∧∀b∈cs',b∈cs):=by
 induction h with
 | nil=>intro i hi;cases hi
 | @cons v g bs vs gs cs h hs ha ih=>
  intro i hi;have hap:∀b∈cs,b∉bs:=fun b hb hb'=>ha b hb' hb
  cases i with
  | zero=>
   refine⟨v,bs,rfl,h,fun b hb=>List.mem_append_left _ hb,fun Q v' g' bs' hbs hQ hP=>?_,fun Q hP=>?_⟩
   ·refine⟨bs'++cs,.cons hQ (hs.mono fun v g ds has hp=>hP v g ds (fun b hb=>⟨List.mem_append_right _ (has b hb),hap b (has b hb)⟩) hp) (fun b hb=>ha b (hbs b hb)),fun b hb=>?_⟩;rcases List.mem_append.1 hb with hb | hb
    ·exact List.mem_append_left _ (hbs b hb)
    ·exact List.mem_append_right _ hb
   ·exact⟨cs,hs.mono fun v g ds has hp=>hP v g ds (fun b hb=>⟨List.mem_append_right _ (has b hb),hap b (has b hb)⟩) hp,fun b hb=>List.mem_append_right _ hb⟩
  | succ i=>
   obtain⟨u,ds,hu,hp,hin,hset,her⟩:=ih i (by simpa using hi);have hno:∀b∈bs,b∉ds:=fun b hb hb'=>ha b hb (hin b hb')
   refine⟨u,ds,by simpa using hu,by simpa using hp,fun b hb=>List.mem_append_right _ (hin b hb),fun Q v' g' bs' hbs hQ hP=>?_,fun Q hP=>?_⟩
   ·obtain⟨cs',h1,h2⟩:=hset Q v' g' bs' hbs hQ (fun v g ds' has hp=>hP v g ds' (fun b hb=>⟨List.mem_append_right _ (has b hb).1,(has b hb).2⟩) hp);refine⟨bs++cs',.cons (hP v g bs (fun b hb=>⟨List.mem_append_left _ hb,hno b hb⟩) h) h1 (fun b hb hb'=>ha b hb (h2 b hb')),fun b hb=>?_⟩;rcases List.mem_append.1 hb with hb | hb
    ·exact List.mem_append_left _ hb
    ·exact List.mem_append_right _ (h2 b hb)
   ·obtain⟨cs',h1,h2⟩:=her Q (fun v g ds' has hp=>hP v g ds' (fun b hb=>⟨List.mem_append_right _ (has b hb).1,(has b hb).2⟩) hp);refine⟨bs++cs',.cons (hP v g bs (fun b hb=>⟨List.mem_append_left _ hb,hno b hb⟩) h) h1 (fun b hb hb'=>ha b hb (h2 b hb')),fun b hb=>?_⟩;rcases List.mem_append.1 hb with hb | hb
    ·exact List.mem_append_left _ hb
    ·exact List.mem_append_right _ (h2 b hb)
def RowOf (w:World) (base:Nat) (v:Value) (us:List Value) (r:Nat):Prop:=
 ∃o cap,v=.slice (some ⟨r,o,none⟩) us.length cap∧us.length≤cap∧cap≤maxLen∧base≤r∧r < w.heap.size∧(∀i,(h:i < us.length)→w.cell? ⟨r,o+i,none⟩=some us[i])
def GAt:Nat→World→Nat→Value→Gt→List Nat→Prop
 | 0,_,_,_,_,_=>False
 | _+1,_,_,v,.rd k,bs=>v=.iface 182 (.agg #[.int .i64 k])∧bs= []
 | _+1,_,_,v,.wr k lo hi,bs=>v=.iface 248 (.agg #[.int .i64 k,.int .i64 lo,.int .i64 hi])∧bs= []∧ -1000000≤lo∧lo≤hi∧hi≤1000000
 | n+1,w,base,v,.lim g left,bs=>∃b u cs,v=.iface 184 (.pointer (some ⟨b,0,none⟩))∧bs=b::cs∧base≤b∧b∉cs∧w.cell? ⟨b,0,none⟩=some u∧w.cell? ⟨b,1,none⟩=some (.int .i64 (left:Nat))∧w.frozen? ⟨b,1,none⟩=false∧left≤1000∧GAt n w base u g cs
 | n+1,w,base,v,.mix l,bs=>∃b g cap us cs,v=.iface 187 (.pointer (some ⟨b,0,none⟩))∧bs=b::g::cs∧base≤b∧b≠g∧b∉cs∧g∉cs∧w.cell? ⟨b,0,none⟩=some (.slice (some ⟨g,0,none⟩) l.length cap)∧w.frozen? ⟨b,0,none⟩=false∧w.ownsRow base 61 1 (.slice (some ⟨g,0,none⟩) l.length cap) l.length us∧l.length≤2000∧Parts (GAt n w base) us l cs
 | n+1,w,base,v,.thn l,bs=>∃b r g us cs,v=.iface 192 (.pointer (some ⟨b,0,none⟩))∧bs=b::g::cs∧base≤b∧b≠g∧b∉cs∧g∉cs∧w.cell? ⟨b,0,none⟩=some r∧w.frozen? ⟨b,0,none⟩=false∧RowOf w base r us g∧l.length≤2000∧Parts (GAt n w base) us l cs
theorem GAt.low:∀{n:Nat} {w w':World} {base:Nat} {v:Value} {g:Gt} {bs:List Nat},GAt n w base v g bs→(∀b∈bs,w'.heap[b]?=w.heap[b]?)→w.heap.size≤w'.heap.size→GAt n w' base v g bs
 | 0,_,_,_,_,_,_,h,_,_=>h.elim
 | _+1,_,_,_,_,.rd _,_,h,_,_=>h
 | _+1,_,_,_,_,.wr _ _ _,_,h,_,_=>h
 | n+1,w,w',base,v,.lim g left,bs,h,hb,hs=>by
  obtain⟨b,u,cs,h1,rfl,h2,h3,h4,h5,h6,h7,h8⟩:=h;have e:=hb b (by simp);exact⟨b,u,cs,h1,rfl,h2,h3,(World.cell?_of_block (a:=⟨b,0,none⟩) e).trans h4,(World.cell?_of_block (a:=⟨b,1,none⟩) e).trans h5,(World.frozen?_of_block (a:=⟨b,1,none⟩) e).trans h6,h7,h8.low (fun c hc=>hb c (by simp[hc])) hs⟩
 | n+1,w,w',base,v,.mix l,bs,h,hb,hs=>by
  obtain⟨b,g,cap,us,cs,h1,rfl,h2,h3,h4,h5,h6,h7,h8,h9,h10⟩:=h;have e:=hb b (by simp);refine⟨b,g,cap,us,cs,h1,rfl,h2,h3,h4,h5,(World.cell?_of_block (a:=⟨b,0,none⟩) e).trans h6,(World.frozen?_of_block (a:=⟨b,0,none⟩) e).trans h7,ownsRow_blk h8 (fun x hx=>?_),h9,h10.mono fun v g ds has hp=>hp.low (fun c hc=>hb c (by simp[has c hc])) hs⟩;have hx':some g=some x:=hx;cases hx';exact hb g (by simp)
 | n+1,w,w',base,v,.thn l,bs,h,hb,hs=>by
  obtain⟨b,r,g,us,cs,h1,rfl,h2,h3,h4,h5,h6,h7,⟨o,cap,r1,r2,r3,r4,r5,r6⟩,h9,h10⟩:=h;have e:=hb b (by simp);have e2:=hb g (by simp);exact⟨b,r,g,us,cs,h1,rfl,h2,h3,h4,h5,(World.cell?_of_block (a:=⟨b,0,none⟩) e).trans h6,(World.frozen?_of_block (a:=⟨b,0,none⟩) e).trans h7,⟨o,cap,r1,r2,r3,r4,Nat.lt_of_lt_of_le r5 hs,fun i hi=>(World.cell?_of_block (a:=⟨g,o+i,none⟩) e2).trans (r6 i hi)⟩,h9,h10.mono fun v g ds has hp=>hp.low (fun c hc=>hb c (by simp[has c hc])) hs⟩
open Go.RowKit
abbrev Bt:=List UInt8
def ba (t:Bt):ByteArray:=⟨t.toArray⟩
theorem ba_list (a:Bt):(ba a).toList=a:=by rw[Lib.toList_data];simp[ba]
theorem ba_ne {a b:Bt} (h:¬a=b):((ba a).toList==(ba b).toList)=false:=by rw[ba_list,ba_list];simpa using h
structure RdAt (w : World) (R S : Nat) (L : List Bt) (at_ : Nat) (fl : Int) : Prop where
 sl:∃cap,w.cell? ⟨R,0,none⟩=some (.slice (some ⟨S,0,none⟩) L.length cap)∧L.length≤cap
 c1:w.cell? ⟨R,1,none⟩=some (.int .i64 (at_:Nat))
 c2:w.cell? ⟨R,2,none⟩=some (.int .i64 fl)
 f1:w.frozen? ⟨R,1,none⟩=false
 f2:w.frozen? ⟨R,2,none⟩=false
 row:∀i,(h:i < L.length)→w.cell? ⟨S,i*2,none⟩=some (.string (ba L[i]))∧∃x,w.cell? ⟨S,i*2+1,none⟩=some (.int .i64 x)
 lt:at_ < L.length
 few:L.length≤2001
 ne:S≠R
theorem RdAt.ltR {w:World} {R S:Nat} {L:List Bt} {a:Nat} {fl:Int} (h:RdAt w R S L a fl):R < w.heap.size:=World.block_lt_of_cell? w _ h.c1
theorem RdAt.ltS {w:World} {R S:Nat} {L:List Bt} {a:Nat} {fl:Int} (h:RdAt w R S L a fl):S < w.heap.size:=World.block_lt_of_cell? w _ (h.row 0 (Nat.lt_of_le_of_lt (Nat.zero_le _) h.lt)).1
theorem RdAt.blk {w w':World} {R S:Nat} {L:List Bt} {a:Nat} {fl:Int} (h:RdAt w R S L a fl) (hR:w'.heap[R]?=w.heap[R]?) (hS:w'.heap[S]?=w.heap[S]?):RdAt w' R S L a fl:=by
 obtain⟨⟨cap,c0,hc⟩,c1,c2,f1,f2,row,lt,few,ne⟩:=h;exact⟨⟨cap,(World.cell?_of_block (a:=⟨R,0,none⟩) hR).trans c0,hc⟩,(World.cell?_of_block (a:=⟨R,1,none⟩) hR).trans c1,(World.cell?_of_block (a:=⟨R,2,none⟩) hR).trans c2,(World.frozen?_of_block (a:=⟨R,1,none⟩) hR).trans f1,(World.frozen?_of_block (a:=⟨R,2,none⟩) hR).trans f2,
  fun i hi=>⟨(World.cell?_of_block (a:=⟨S,i*2,none⟩) hS).trans (row i hi).1,by obtain⟨x,hx⟩:=(row i hi).2;exact⟨x,(World.cell?_of_block (a:=⟨S,i*2+1,none⟩) hS).trans hx⟩⟩,lt,few,ne⟩
theorem RdAt.fr {w w':World} {R S:Nat} {L:List Bt} {a:Nat} {fl:Int} {X:List Nat} (h:RdAt w R S L a fl) (hg:Fr X w w') (hR:R∉X) (hS:S∉X):RdAt w' R S L a fl:=
 h.blk (hg.block R h.ltR hR) (hg.block S h.ltS hS)
theorem RdAt.drewN {w:World} {R S:Nat} {L:List Bt} {a:Nat} {fl:Int} (h:RdAt w R S L a fl) (k:Nat):RdAt (w.drewN k) R S L a fl:=h.blk rfl rfl
theorem RdAt.setAt {w:World} {R S:Nat} {L:List Bt} {a:Nat} {fl:Int} (h:RdAt w R S L a fl) (b:Nat) (hb:b < L.length):RdAt (w.setCell ⟨R,1,none⟩ (.int .i64 (b:Nat))) R S L b fl:=by
 obtain⟨⟨cap,c0,hc⟩,c1,c2,f1,f2,row,lt,few,ne⟩:=h;have ne2:∀x y,(⟨R,x,none⟩:Addr)≠⟨S,y,none⟩:=fun x y e=>ne (by injection e with e;exact e.symm)
 have off:∀x y,x≠y→(⟨R,x,none⟩:Addr)≠⟨R,y,none⟩:=fun x y hxy e=>hxy (by injection e)
 exact⟨⟨cap,(World.cell?_setCell_other _ _ _ _ (off 1 0 (by omega))).trans c0,hc⟩,World.cell?_setCell_same' _ _ _ (by rw[c1];rfl),(World.cell?_setCell_other _ _ _ _ (off 1 2 (by omega))).trans c2,by rw[frozen_setCell];exact f1,by rw[frozen_setCell];exact f2,
  fun i hi=>⟨(World.cell?_setCell_other _ _ _ _ (ne2 _ _)).trans (row i hi).1,by obtain⟨x,hx⟩:=(row i hi).2;exact⟨x,(World.cell?_setCell_other _ _ _ _ (ne2 _ _)).trans hx⟩⟩,hb,few,ne⟩
theorem RdAt.setFl {w:World} {R S:Nat} {L:List Bt} {a:Nat} {fl:Int} (h:RdAt w R S L a fl) (x:Int):RdAt (w.setCell ⟨R,2,none⟩ (.int .i64 x)) R S L a x:=by
 obtain⟨⟨cap,c0,hc⟩,c1,c2,f1,f2,row,lt,few,ne⟩:=h;have ne2:∀x y,(⟨R,x,none⟩:Addr)≠⟨S,y,none⟩:=fun x y e=>ne (by injection e with e;exact e.symm)
 have off:∀x y,x≠y→(⟨R,x,none⟩:Addr)≠⟨R,y,none⟩:=fun x y hxy e=>hxy (by injection e)
 exact⟨⟨cap,(World.cell?_setCell_other _ _ _ _ (off 2 0 (by omega))).trans c0,hc⟩,(World.cell?_setCell_other _ _ _ _ (off 2 1 (by omega))).trans c1,World.cell?_setCell_same' _ _ _ (by rw[c2];rfl),by rw[frozen_setCell];exact f1,by rw[frozen_setCell];exact f2,
  fun i hi=>⟨(World.cell?_setCell_other _ _ _ _ (ne2 _ _)).trans (row i hi).1,by obtain⟨x,hx⟩:=(row i hi).2;exact⟨x,(World.cell?_setCell_other _ _ _ _ (ne2 _ _)).trans hx⟩⟩,lt,few,ne⟩
def failS (fl n:Int):Int:=if fl=0 then n else fl
def passS (len a:Nat) (fl:Int):Nat:=if fl=0∧a+1 < len then a+1 else a
set_option maxHeartbeats 2000000 in
theorem next_any (w:World) (R S:Nat) (L:List Bt) (a:Nat) (fl:Int) (h:RdAt w R S L a fl):
  Calls Tryz.prog 94 #[.pointer (some ⟨R,0,none⟩)] w fun e w'=>e=.returned (.string (ba (L.getD a [])))∧∃k,w'=w.drewN k:=by
 have hlt:=h.lt;obtain⟨cap,c0,hc⟩:=h.sl;have c1:=h.c1;have hr:=(h.row a hlt).1;have HG:Hid (L.getD a []=L[a]):=hideIt (by rw[List.getD_eq_getElem?_getD,List.getElem?_eq_getElem hlt];rfl);have hlt':(a:Int) < (L.length:Int):=by omega
 clear h;generalize L[a]=t at*
 go_enter Tryz.func94,Tryz.ntmps94
 go_wp2_with fail
 go_quiet (fail)
 go_wp2;go_ret;exact⟨by rw[HG.out];rfl,_,rfl⟩
set_option maxHeartbeats 2000000 in
theorem fail_any (w:World) (R S:Nat) (L:List Bt) (a:Nat) (fl n:Int) (h:RdAt w R S L a fl):
  Calls Tryz.prog 93 #[.pointer (some ⟨R,0,none⟩),.int .i64 n] w fun e w'=>e=.returned (.tuple #[])∧RdAt w' R S L a (failS fl n)∧Fr [R] w w':=by
 have HH:=hideIt h;have c2:=h.c2;have f2:=h.f2;clear h;by_cases hf:fl=0
 ·subst hf;have HF:Hid (failS 0 n=n):=rfl;go_enter Tryz.func93,Tryz.ntmps93
  go_wp2
  go_end0
  exact⟨rfl,by rw[HF.out];exact HH.out.setFl n,Fr.set _ _ _ (by simp)⟩
 ·have HF:Hid (failS fl n=fl):=hideIt (by unfold failS;rw[if_neg hf]);have hb:(fl==0)=false:=by simp[hf]
  go_enter Tryz.func93,Tryz.ntmps93
  go_wp2
  go_end0
  exact⟨rfl,by rw[HF.out];exact HH.out,Fr.refl _ _⟩
set_option maxHeartbeats 4000000 in
theorem pass_any (w:World) (R S:Nat) (L:List Bt) (a:Nat) (fl:Int) (h:RdAt w R S L a fl):
  Calls Tryz.prog 96 #[.pointer (some ⟨R,0,none⟩)] w fun e w'=>e=.returned (.tuple #[])∧RdAt w' R S L (passS L.length a fl) fl∧Fr [R] w w':=by
 have HH:=hideIt h;have c2:=h.c2;have f1:=h.f1;have c1:=h.c1;have hfew:=h.few;have hlt:=h.lt;obtain⟨cap,c0,hc⟩:=h.sl;clear h;by_cases hf:fl=0
 ·subst hf;by_cases hl:a+1 < L.length
  ·have HF:Hid (passS L.length a 0=a+1):=hideIt (by unfold passS;rw[if_pos ⟨rfl,hl⟩]);have q1:(a:Int) < (L.length:Int) - 1:=by omega
   have q2:decide ((a:Int) < (L.length:Int) - 1)=true:=decide_eq_true q1;have HX:Hid (∀k,RdAt ((w.drewN k).setCell ⟨R,1,none⟩ (.int .i64 ((a+1:Nat):Int))) R S L (a+1) 0):=hideIt (fun k=>(HH.out.drewN k).setAt (a+1) hl);go_enter Tryz.func96,Tryz.ntmps96
   go_wp2_with fail
   go_quiet (fail)
   go_wp2
   go_end0
   exact⟨rfl,by rw[HF.out];exact HX.out _,(Fr.drewN _ _ _).trans (Fr.set _ _ _ (by simp))⟩
  ·have HF:Hid (passS L.length a 0=a):=hideIt (by unfold passS;rw[if_neg (fun h=>hl h.2)]);have q1:¬(a:Int) < (L.length:Int) - 1:=by omega
   have q2:decide ((a:Int) < (L.length:Int) - 1)=false:=decide_eq_false q1;go_enter Tryz.func96,Tryz.ntmps96
   go_wp2_with fail
   go_quiet (fail)
   go_wp2
   go_end0
   exact⟨rfl,by rw[HF.out];exact HH.out.drewN _,Fr.drewN _ _ _⟩
 ·have HF:Hid (passS L.length a fl=a):=hideIt (by unfold passS;rw[if_neg (fun h=>hf h.1)]);have hb:(fl==0)=false:=by simp[hf]
  go_enter Tryz.func96,Tryz.ntmps96
  go_wp2_with fail
  go_quiet (fail)
  go_wp2
  go_end0
  exact⟨rfl,by rw[HF.out];exact HH.out.drewN _,Fr.drewN _ _ _⟩
open Go.RowKit Go.Shelf
theorem ba_data (t:Bt):(ba t).data.toList=t:=by simp[ba]
theorem ba_size (t:Bt):(ba t).size=t.length:=by simp[ba,ByteArray.size]
theorem trimPrefix_call (t p:Bt) (w:World):Calls Tryz.prog 220 #[.string (ba t),.string (ba p)] w fun e w'=>e=.returned (.string (ba (Lib.trimPrefix t p)))∧w'=w:=by
 have:=Any.strings_TrimPrefix gn_lays101 (ba t) (ba p) w;rw[ba_data,ba_data] at this;exact this
def digs:Bt:= [48,49,50,51,52,53,54,55,56,57]
theorem digs_ascii:∀(j:Nat) b,(ba digs).data.toList[j]?=some b→b.toNat < 128:=by
 intro j b h;rw[ba_data] at h;have hm:=List.mem_of_getElem? h;have hall:∀b∈digs,b.toNat < 128:=by decide
 exact hall b hm
theorem trim_call (t:Bt) (w:World) (ht:t.length≤3000):Calls Tryz.prog 221 #[.string (ba t),.string (ba digs)] w fun e w'=>e=.returned (.string (ba (Lib.trimS t digs)))∧Below w.heap.size w w':=by
 have:=Any.strings_Trim_laid gn_lays160 (by kernel_rfl) (ba t) (ba digs) w (by rw[ba_size];omega) (by rw[ba_size];decide) digs_ascii;rw[ba_data,ba_data] at this;exact this
structure ErrV (w : World) : Prop where
 rng : ∃ tp p, w.var? Tryz.prog "strconv.ErrRange" = some #[.iface tp p]
 syn : ∃ tp p, w.var? Tryz.prog "strconv.ErrSyntax" = some #[.iface tp p]
theorem fr_below {w w':World} (h:Below w.heap.size w w') (X:List Nat):Fr X w w':=⟨h.os,h.tape,h.output,h.size,fun k hk _=>h.block k hk,fun k hk=>by rw[h.block k hk]⟩
theorem atoi_call (t:Bt) (w:World) (ht:t.length≤3000) (hv:ErrV w):Calls Tryz.prog 147 #[.string (ba t)] w fun e w'=>Fr [] w w'∧
  ((∃v,Lib.atoiAll t=.ok v∧e=.returned (.tuple #[.int .i64 v,.nilIface]))∨((∀v,Lib.atoiAll t≠.ok v)∧∃(n:Int) (T:TypeId) (x:Value),e=.returned (.tuple #[.int .i64 n,.iface T x]))):=by
 obtain⟨⟨tp,p,h1⟩,⟨tq,q,h2⟩⟩:=hv;cases h:Lib.atoiAll t with
 | ok v=>
  have:=Any.strconv_Atoi_ok gn_laysC172 (ba t) (by rw[ba_size];omega) v (by rw[ba_data];exact h) w;refine this.mono ?_;rintro e w' ⟨rfl,rfl | ⟨n,rfl⟩⟩
  ·exact⟨Fr.refl _ _,.inl ⟨v,rfl,rfl⟩⟩
  ·exact⟨fr_below (Lib.bytesWorld_below _ _ _) _,.inl ⟨v,rfl,rfl⟩⟩
 | «syntax» =>
  have:=Any.strconv_Atoi_syntax_var gn_laysC172 (ba t) (by rw[ba_size];omega) (by rw[ba_data];exact h) tq q w h2;refine this.mono ?_;rintro e w' ⟨N,rfl,_,_,hb⟩;exact⟨fr_below hb _,.inr ⟨fun v h=>by(cases h),_,_,_,rfl⟩⟩
 | range=>
  have:=Any.strconv_Atoi_range_var gn_laysC172 (ba t) (by rw[ba_size];omega) (by rw[ba_data];exact h) tp p w h1;refine this.mono ?_;rintro e w' ⟨N,rfl,_,_,hb⟩;exact⟨fr_below hb _,.inr ⟨fun v h=>by(cases h),_,_,_,rfl⟩⟩
open Go.RowKit
def expS (L:List Bt) (x:Bt) (a:Nat) (fl:Int):Nat×Int:=if L.getD a []=x then (passS L.length a fl,fl) else (passS L.length a (failS fl 3),failS fl 3)
set_option maxHeartbeats 2000000 in
theorem expect_any (w:World) (R S:Nat) (L:List Bt) (a:Nat) (fl:Int) (x:Bt) (h:RdAt w R S L a fl):
  Calls Tryz.prog 45 #[.pointer (some ⟨R,0,none⟩),.string (ba x)] w fun e w'=>e=.returned (.tuple #[])∧RdAt w' R S L (expS L x a fl).1 (expS L x a fl).2∧Fr [R] w w':=by
 have HH:=hideIt h;have HN:=hideIt (next_any w R S L a fl h);clear h;generalize ht:L.getD a []=t at*
 have HT:=hideIt ht;clear ht;by_cases hx:t=x
 ·subst hx;go_enter Tryz.func45,Tryz.ntmps45
  go_wp2_with fail
  refine HN.out.mono ?_;rintro y w1 ⟨rfl,k1,rfl⟩;go_wp2_with fail
  refine(pass_any _ R S L a fl (HH.out.drewN k1)).mono ?_;rintro y w2 ⟨rfl,h2,hf2⟩;have H2:=hideIt h2;have HF2:=hideIt hf2;clear h2 hf2;go_wp2
  go_end0
  have he:expS L t a fl=(passS L.length a fl,fl):=by unfold expS;rw[if_pos HT.out]
  exact⟨rfl,by rw[he];exact H2.out,(Fr.drewN _ _ _).trans HF2.out⟩
 ·have hb:=ba_ne hx;go_enter Tryz.func45,Tryz.ntmps45
  go_wp2_with fail
  refine HN.out.mono ?_;rintro y w1 ⟨rfl,k1,rfl⟩;go_wp2_with fail
  refine(fail_any _ R S L a fl 3 (HH.out.drewN k1)).mono ?_;rintro y w2 ⟨rfl,h2,hf2⟩;have H2:=hideIt h2;have HF2:=hideIt hf2;clear h2 hf2;go_wp2_with fail
  refine(pass_any _ R S L a (failS fl 3) H2.out).mono ?_;rintro y w3 ⟨rfl,h3,hf3⟩;have H3:=hideIt h3;have HF3:=hideIt hf3;clear h3 hf3;go_wp2
  go_end0
  have he:expS L x a fl=(passS L.length a (failS fl 3),failS fl 3):=by unfold expS;rw[if_neg (by rw[HT.out];exact hx)]
  exact⟨rfl,by rw[he];exact H3.out,((Fr.drewN _ _ _).trans HF2.out).trans HF3.out⟩
def wtF:Nat→Gt→Nat
 | 0,_=>0
 | _+1,.rd _=>0
 | _+1,.wr _ _ _=>1
 | n+1,.lim g _=>wtF n g
 | n+1,.mix l=>(l.map fun g=>1+wtF n g).sum
 | n+1,.thn l=>(l.map (wtF n)).sum
theorem Tp.on_u (t:Tp) (n:Int):(t.on n).u≤t.u+1:=by
 unfold Tp.on;split
 ·omega
 ·exact Nat.le_refl _
theorem sum_set (f:Gt→Nat):∀(l:List Gt) (i:Nat) (h:i < l.length) (g:Gt),((l.set i g).map f).sum+f l[i]=(l.map f).sum+f g
 | x::l,0,_,g=>by simp;omega
 | x::l,i+1,h,g=>by
  have:=sum_set f l i (by simpa using h) g;simp only[List.set_cons_succ,List.map_cons,List.sum_cons,List.getElem_cons_succ];omega
theorem sum_erase (f:Gt→Nat):∀(l:List Gt) (i:Nat) (h:i < l.length),((l.eraseIdx i).map f).sum+f l[i]=(l.map f).sum
 | x::l,0,_=>by simp;omega
 | x::l,i+1,h=>by
  have:=sum_erase f l i (by simpa using h);simp only[List.eraseIdx_cons_succ,List.map_cons,List.sum_cons,List.getElem_cons_succ];omega
theorem mixF_use {nx:Gt→Tp→Gv} {f:Gt→Nat} (h:∀g t,(nx g t).t.u≤t.u+f g∧f (nx g t).g≤f g):∀(k:Nat) (l:List Gt) (t:Tp),k=l.length→
  (mixF nx k l t).t.u≤t.u+(l.map fun g=>1+f g).sum∧∃l',(mixF nx k l t).g=.mix l'∧(l'.map fun g=>1+f g).sum≤(l.map fun g=>1+f g).sum
 | 0,l,t,_=>⟨Nat.le_add_right _ _,l,rfl,Nat.le_refl _⟩
 | k+1,l,t,hk=>by
  have hl:(0:Int) < l.length:=by omega
  have hi:(t.below l.length).toNat < l.length:=by have:=Tp.below_lt (t:=t) hl;omega
  have hg:l.getD (t.below l.length).toNat (.rd 0)=l[(t.below l.length).toNat]:=by rw[List.getD_eq_getElem?_getD,List.getElem?_eq_getElem hi];rfl
  obtain⟨e1,e2⟩:=h l[(t.below l.length).toNat] (t.on l.length);have hon:=Tp.on_u t l.length;simp only[mixF];rw[hg];cases e:(nx l[(t.below l.length).toNat] (t.on l.length)).c with
  | some c=>
   have hs:=sum_set (fun g=>1+f g) l _ hi (nx l[(t.below l.length).toNat] (t.on l.length)).g;have he:=sum_erase (fun g=>1+f g) l _ hi;refine⟨?_,_,rfl,by omega⟩;simp only;omega
  | none=>
   have he:=sum_erase (fun g=>1+f g) l _ hi;obtain⟨a,l',b,c⟩:=mixF_use h k (l.eraseIdx (t.below l.length).toNat) (nx l[(t.below l.length).toNat] (t.on l.length)).t (by rw[List.length_eraseIdx_of_lt hi];omega);refine⟨?_,l',b,by omega⟩;simp only;omega
theorem thnF_use {nx:Gt→Tp→Gv} {f:Gt→Nat} (h:∀g t,(nx g t).t.u≤t.u+f g∧f (nx g t).g≤f g):∀(l:List Gt) (t:Tp),
  (thnF nx l t).t.u≤t.u+(l.map f).sum∧∃l',(thnF nx l t).g=.thn l'∧(l'.map f).sum≤(l.map f).sum
 | [],t=>⟨Nat.le_add_right _ _,[],rfl,Nat.le_refl _⟩
 | g::l,t=>by
  obtain⟨e1,e2⟩:=h g t;simp only[thnF];cases e:(nx g t).c with
  | some c=>
   refine⟨?_,_,rfl,by simp;omega⟩;simp only[List.map_cons,List.sum_cons];omega
  | none=>
   obtain⟨a,l',b,c⟩:=thnF_use h l (nx g t).t;refine⟨?_,l',b,?_⟩<;>simp only[List.map_cons,List.sum_cons]<;>omega
theorem nextF_use:∀(n:Nat) (g:Gt) (t:Tp),(nextF n g t).t.u≤t.u+wtF n g∧wtF n (nextF n g t).g≤wtF n g
 | 0,_,t=>⟨Nat.le_refl _,Nat.le_refl _⟩
 | n+1,.rd _,t=>⟨Nat.le_refl _,Nat.le_refl _⟩
 | n+1,.wr _ lo hi,t=>⟨Tp.on_u t _,Nat.le_refl _⟩
 | n+1,.lim g k,t=>by
  rw[nextF]
  split
  ·exact⟨Nat.le_add_right _ _,Nat.le_refl _⟩
  ·exact nextF_use n g t
 | n+1,.mix l,t=>by
  obtain⟨a,l',b,c⟩:=mixF_use (f:=wtF n) (nextF_use n) l.length l t rfl;refine⟨a,?_⟩;rw[nextF,b];exact c
 | n+1,.thn l,t=>by
  obtain⟨a,l',b,c⟩:=thnF_use (f:=wtF n) (nextF_use n) l t;refine⟨a,?_⟩;rw[nextF,b];exact c
abbrev BtP:=List UInt8
def sepsP:BtP:= [40,41,44,32]
def digsP:BtP:= [48,49,50,51,52,53,54,55,56,57]
def sgLen (l:BtP):Nat:=if Lib.indexAny l sepsP= -1 then l.length else if Lib.indexAny l sepsP=0 then 1 else (Lib.indexAny l sepsP).toNat
def sgs:Nat→BtP→List BtP
 | 0,_=> []
 | _+1,[]=> []
 | n+1,c::l=>if c=32 then sgs n l else (c::l).take (sgLen (c::l))::sgs n ((c::l).drop (sgLen (c::l)))
def isNum (t:BtP):Bool:=
 if Lib.trimS (Lib.trimPrefix t [45]) digsP≠ [] then false
 else t= [48]||(Lib.trimPrefix t [45]≠ []&&(Lib.trimPrefix t [45]).headD 0 != 48)
structure Rn where
 v:Int
 s:List BtP
def numF (lo hi:Int):List BtP→Option Rn
 | []=>none
 | t::s=>if isNum t then match Lib.atoiAll t with
   | .ok n=>if n < lo∨hi < n then none else some ⟨n,s⟩
   | _=>none
  else none
def expF (x:BtP):List BtP→Option (List BtP)
 | []=>none
 | t::s=>if t=x then some s else none
structure Rg where
 g:Gt
 s:List BtP
structure Rl where
 l:List Gt
 s:List BtP
def moreF (gf:List BtP→Option Rg):Nat→List Gt→List BtP→Option Rl
 | 0,_,_=>none
 | _+1,_,[]=>none
 | m+1,L,t::s=>if t= [44] then match gf s with
   | some r=>moreF gf m (L++ [r.g]) r.s
   | none=>none
  else some ⟨L,t::s⟩
def listF (gf:List BtP→Option Rg) (s:List BtP):Option Rl:=
 match expF [40] s with
 | none=>none
 | some s1=>match gf s1 with
  | none=>none
  | some r=>match moreF gf (r.s.length+1) [r.g] r.s with
   | none=>none
   | some q=>match expF [41] q.s with
    | none=>none
    | some z=>some ⟨q.l,z⟩
def nmRead:BtP:= [114,101,97,100]
def nmWrite:BtP:= [119,114,105,116,101]
def nmLimit:BtP:= [108,105,109,105,116]
def nmMix:BtP:= [109,105,120]
def nmThen:BtP:= [116,104,101,110]
def wrF (s:List BtP):Option Rg:=
 match numF 0 7 s with
 | none=>none
 | some k=>match numF (-1000000) 1000000 k.s with
  | none=>none
  | some a=>match numF a.v 1000000 a.s with
   | none=>none
   | some b=>some ⟨.wr k.v a.v b.v,b.s⟩
def gF:Nat→List BtP→Option Rg
 | 0,_=>none
 | _+1,[]=>none
 | f+1,t::s=>
  if t=nmRead then match numF 0 7 s with
   | none=>none
   | some k=>some ⟨.rd k.v,k.s⟩
  else if t=nmWrite then wrF s
  else if t=nmLimit then match numF 0 1000 s with
   | none=>none
   | some k=>match gF f k.s with
    | none=>none
    | some r=>some ⟨.lim r.g k.v.toNat,r.s⟩
  else if t=nmMix then match listF (gF f) s with
   | none=>none
   | some r=>some ⟨.mix r.l,r.s⟩
  else if t=nmThen then match listF (gF f) s with
   | none=>none
   | some r=>some ⟨.thn r.l,r.s⟩
  else none
def parseF (l:BtP):Option Gt:=
 if 2000 < l.length then none else match gF 20 (sgs l.length l++ [[]]) with
  | none=>none
  | some r=>if r.s.headD []= [] then some r.g else none
end Go.Proofs.YtjpklmighoondaaGreatDoor.Gn
