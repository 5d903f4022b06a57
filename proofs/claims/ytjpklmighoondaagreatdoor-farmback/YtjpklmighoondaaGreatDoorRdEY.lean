/-
  The reader's list of generators in brackets.
-/
import Derived.Test.YtjpklmighoondaaGreatDoorFaRY
import Derived.Test.YtjpklmighoondaaGreatDoorSwMY
import Derived.Test.YtjpklmighoondaaGreatDoorNxCY
import Derived.Maps.AppendAt
namespace Go.Proofs.YtjpklmighoondaaGreatDoor.Gn
open Go.RowKit
def IfV (v:Value):Prop:=v=.nilIface∨∃T x,v=.iface T x
theorem IfV.cells {v:Value} (h:IfV v):v.cells=#[v]:=by rcases h with rfl | ⟨T,x,rfl⟩<;>rfl
theorem GAt.ifv {n:Nat} {w:World} {base:Nat} {v:Value} {g:Gt} {bs:List Nat} (h:GAt n w base v g bs):IfV v:=by
 obtain⟨T,x,F,hM⟩:=met_of h;exact .inr ⟨T,x,hM.shape⟩
def NL (w:World) (b:Nat):Prop:=tgD w.heap[b]?≠267∧tgD w.heap[b]?≠5
theorem NL.of {w w':World} {b:Nat} (h:NL w b) (e:w'.heap[b]?=w.heap[b]?):NL w' b:=by unfold NL;rw[e];exact h
theorem NL.new {w:World} {b:Nat} {cs:Array Value} {t:Nat} {m:Nat×Nat} (h:w.heap[b]?=some (.cells cs t m)) (ht:t≠266∧t≠4):NL w b:=by
 unfold NL;rw[h];exact⟨fun e=>ht.1 (by have e':t+1=267:=e;omega),fun e=>ht.2 (by have e':t+1=5:=e;omega)⟩
theorem NL.own {W:World} {base:Nat} {e:Nat} {m:Nat} {g n c l:Nat} {xs:List Value} (h:W.ownsRow base e m (.slice (some ⟨g,0,none⟩) n c) l xs) (he:e≠266∧e≠4):NL W g:=by
 unfold NL;rw[own_tgD h];exact⟨fun x=>he.1 (by omega),fun x=>he.2 (by omega)⟩
def GenTold (f base:Nat) (w:World) (R S:Nat) (L:List Bt) (a:Nat) (e:Ending) (w':World):Prop:=
 (∃r v a' bs,gF f (L.drop a)=some r∧e=.returned v∧RdAt w' R S L a' 0∧L.drop a'=r.s∧a < a'∧GAt f w' base v r.g bs∧(∀b∈bs,w.heap.size≤b∧NL w' b)∧Fr [R] w w')∨
 (∃v a' fl',gF f (L.drop a)=none∧e=.returned v∧IfV v∧fl'≠0∧RdAt w' R S L a' fl'∧Fr [R] w w')
structure GenOk (f : Nat) : Prop where
 bad:∀(w:World) (R S:Nat) (L:List Bt) (a:Nat) (fl:Int),fl≠0→RdAt w R S L a fl→f≤20→Calls Tryz.prog 44 #[.pointer (some ⟨R,0,none⟩),.int .i64 ((20 - f:Nat):Int)] w fun e w'=>e=.returned .nilIface∧RdAt w' R S L a fl∧Fr [R] w w'
 ok:∀(base:Nat) (w:World) (R S:Nat) (L:List Bt) (a:Nat),RdAt w R S L a 0→RdEnv w R L→SgEnd L→base≤w.heap.size→f≤20→Calls Tryz.prog 44 #[.pointer (some ⟨R,0,none⟩),.int .i64 ((20 - f:Nat):Int)] w (GenTold f base w R S L a)
def ListTold (f base:Nat) (w:World) (R S:Nat) (L:List Bt) (a:Nat) (e:Ending) (w':World):Prop:=
 (∃r g cap us cs a',listF (gF f) (L.drop a)=some r∧e=.returned (.slice (some ⟨g,0,none⟩) r.l.length cap)∧RdAt w' R S L a' 0∧L.drop a'=r.s∧a < a'∧w'.ownsRow base 61 1 (.slice (some ⟨g,0,none⟩) r.l.length cap) r.l.length us∧Parts (GAt f w' base) us r.l cs∧g∉cs∧w.heap.size≤g∧(∀b∈cs,w.heap.size≤b∧NL w' b)∧r.l.length≤2000∧Fr [R] w w')∨
 (∃a8 n c a' fl',listF (gF f) (L.drop a)=none∧e=.returned (.slice a8 n c)∧fl'≠0∧RdAt w' R S L a' fl'∧Fr [R] w w')
theorem alloc1 (w:World) (v:Value) (t:TypeId):(w.alloc (.cells #[v] t)).cell? ⟨w.heap.size,0,none⟩=some v:=by rw[cell_of_row _ _ _ _ t _ (heap_new w _)];rfl
theorem wpList_append_at {w:World} {ops:Array Oper} {rest:List Oper} {o:Oper} {a:Act} {Q:Exit→Act→World→Prop} (hgd:o.guard=none) (s x:Operand)
  (ho:o.op=.call {callee:=.builtin .append,args:=#[s,x],argTypes:=#[188,188]}) (base g n cap:Nat) (us:List Value) (u:Value) (k:Nat) (hs:a.eval s=.slice (some ⟨g,0,none⟩) n cap) (hx:a.eval x=.slice (some ⟨k,0,none⟩) 1 1)
  (hown:w.ownsRow base 61 1 (.slice (some ⟨g,0,none⟩) n cap) n us) (hc:w.cell? ⟨k,0,none⟩=some u) (h1:u.oneCell'=true) (hn:n≤5000) (hb:base≤w.heap.size)
  (h:∀g' cap' w',w'.ownsRow base 61 1 (.slice (some ⟨g',0,none⟩) (n+1) cap') (n+1) (us++ [u])→w.grownBy w' (some g)→(g'=g∨g'=w.heap.size)→wpList Tryz.prog ops Q rest (a.put o.dst (.slice (some ⟨g',0,none⟩) (n+1) cap')) w'):wpList Tryz.prog ops Q (o::rest) a w:=by
 obtain⟨i0,hi,hz0,hz1,hz2⟩:=info_parts' infoMq;obtain⟨v',w',hr,k1,k2,_,k3⟩:=run_append_own_at (P:=Tryz.prog) (w:=w) base 188 o.type 61 i0 _ 1 16 Tryz.underlying188 hi hz0 hz1 hz2 rfl (by decide) _ n us hown ⟨k,0,none⟩ 1 1 [u] rfl (fun j v hj=>by
  match j,hj with
  | 0,hj=>simp at hj;subst hj;simpa [Addr.add] using hc
  | j+1,hj=>simp at hj) (by simpa using h1) (by unfold maxLen;omega) (by omega) hb
 obtain⟨g',cap',rfl⟩:=(by
  rcases k1.2 with ⟨_,e⟩ | ⟨g',c',cur,e,_⟩
  ·omega
  ·exact⟨g',c',e⟩:∃g' cap',v'=.slice (some ⟨g',0,none⟩) (n+1) cap')
 refine wpList_plain hgd fun K hK=>?_
 unfold Oper.wp execOp;simp only[ho,resolve,invoke,builtin,Sem.run_bind,Sem.run_pure,Result.andThen_ok,List.map_toArray,List.map_cons,List.map_nil,hs,hx,hr];refine hK _ _ (h g' cap' w' k1 k2 ?_);rcases k3 with e | e
 ·have e':some g'=some g:=e;exact .inl (by injection e')
 ·have e':some g'=some w.heap.size:=e;exact .inr (by injection e')
theorem Parts.snoc {P:Value→Gt→List Nat→Prop} {vs:List Value} {gs:List Gt} {cs:List Nat} (h:Parts P vs gs cs) {v:Value} {g:Gt} {bs:List Nat} (hv:P v g bs) (ha:∀b∈cs,b∉bs):∃ds,Parts P (vs++ [v]) (gs++ [g]) ds∧∀b,b∈ds↔b∈cs∨b∈bs:=by
 induction h with
 | nil=>exact⟨bs++ [],.cons hv .nil (by simp),by simp⟩
 | @cons v1 g1 b1 vs1 gs1 c1 h hs hb ih=>
  obtain⟨ds,h1,h2⟩:=ih (fun b hb=>ha b (List.mem_append_right _ hb));refine⟨b1++ds,.cons h h1 (fun b hb1 hd=>?_),fun b=>?_⟩
  ·rcases(h2 b).1 hd with k | k
   ·exact hb b hb1 k
   ·exact ha b (List.mem_append_left _ hb1) k
  ·simp only[List.mem_append,h2]
   constructor
   ·rintro(k | k | k)
    ·exact .inl (.inl k)
    ·exact .inl (.inr k)
    ·exact .inr k
   ·rintro((k | k) | k)
    ·exact .inl k
    ·exact .inr (.inl k)
    ·exact .inr (.inr k)
structure ListI (f base : Nat) (w : World) (R S : Nat) (L : List Bt) (a : Nat) (wx : World) (gs : List Gt) (us : List Value) (cs : List Nat) (g cap a' : Nat) : Prop where
 rd:RdAt wx R S L a' 0
 lt:a < a'
 few:gs.length≤a'
 row:wx.ownsRow base 61 1 (.slice (some ⟨g,0,none⟩) gs.length cap) gs.length us
 parts:Parts (GAt f wx base) us gs cs
 apart:g∉cs
 new:w.heap.size≤g
 news:∀b∈cs,w.heap.size≤b∧NL wx b
 fr:Fr [R] w wx
 ls:listF (gF f) (L.drop a)=finL (moreF (gF f) ((L.drop a').length+1) gs (L.drop a'))
def ListB (f:Nat) (w:World) (R S:Nat) (L:List Bt) (a:Nat) (sl:Value) (wx:World):Prop:=
 ∃a8 n c a' fl',listF (gF f) (L.drop a)=none∧sl=.slice a8 n c∧fl'≠0∧RdAt wx R S L a' fl'∧Fr [R] w wx
set_option maxHeartbeats 16000000 in
set_option maxRecDepth 100000 in
theorem list_ok {f:Nat} (ih:GenOk f) (base:Nat) (w:World) (R S:Nat) (L:List Bt) (a:Nat) (h:RdAt w R S L a 0) (he:RdEnv w R L) (hE:SgEnd L) (hb:base≤w.heap.size) (hf:f≤20):
  Calls Tryz.prog 100 #[.pointer (some ⟨R,0,none⟩),.int .i64 ((20 - f:Nat):Int)] w (ListTold f base w R S L a):=by
 have HH:=hideIt h;have HEv:=hideIt he;have hX:∀x∈ [R],R≤x:=by simp
 have hRlt:=h.ltR;have hfew:=h.few;have HX:=hideIt (fun W x a (fl:Int) (k:RdAt W R S L a fl)=>expect_any W R S L a fl x k);have HGb:=hideIt (fun W a (fl:Int) (hfl:fl≠0) (k:RdAt W R S L a fl)=>ih.bad W R S L a fl hfl k hf);have HGo:=hideIt (fun W a (k:RdAt W R S L a 0) (e:RdEnv W R L) (hb:base≤W.heap.size)=>ih.ok base W R S L a k e hE hb hf);have HLt:=h.lt;obtain⟨i0,hi,hz0,hz1,hz2⟩:=info_parts' infoMq;generalize ((20 - f:Nat):Int)=ar at*
 cases hexp:expF [40] (L.drop a) with
 | none=>
  have hls:listF (gF f) (L.drop a)=none:=by rw[listF_eq,hexp]
  have hx1:=expS_none HLt hexp;have HB:=hideIt (fun W a (fl:Int) (hfl:fl≠0) x (k:RdAt W R S L a fl)=>(by have:=HX.out W x a fl k;rw[expS_bad hfl] at this;exact this:Calls Tryz.prog 45 #[.pointer (some ⟨R,0,none⟩),.string (ba x)] W fun e w'=>e=.returned (.tuple #[])∧RdAt w' R S L a fl∧Fr [R] W w'));have HX1:=hideIt (HX.out w [40] a 0 h);rw[hx1] at HX1;have HLS:=hideIt hls;clear h he ih HX HGo hexp hls hx1;go_enter Tryz.func100,Tryz.ntmps100
  go_wp2_with fail
  refine HX1.out.mono ?_;rintro y w1 ⟨rfl,h1,hf1⟩;have H1:=hideIt h1;have HF1:=hideIt hf1;clear h1 hf1;go_wp2_with fail
  refine(HGb.out _ _ _ (by decide) H1.out).mono ?_;rintro y w2 ⟨rfl,h2,hf2⟩;have H2:=hideIt h2;have HF2:=hideIt (HF1.out.trans hf2);clear h2 hf2;go_wp2_with fail
  go_loopg [5] 0 (fun _ sl wx=>(∃a8 n c,sl=.slice a8 n c)∧RdAt wx R S L a 3∧Fr [R] w wx)
  case atStart=>exact⟨⟨_,_,_,rfl⟩,H2.out.fr (Fr.alloc [] _ _) (by simp) (by simp),HF2.out.trans (Fr.alloc _ _ _)⟩
  case round=>
   obtain⟨⟨a8,n8,c8,rfl⟩,h3,hf3⟩:=hrel;have H3:=hideIt h3;have HF3:=hideIt hf3;have c2:=h3.c2;clear h3 hf3;go_wp2_with fail
   refine(HB.out _ _ _ (by decide) [41] H3.out).mono ?_;rintro y w4 ⟨rfl,h4,hf4⟩;have H4:=hideIt h4;have HF4:=hideIt (HF3.out.trans hf4);clear h4 hf4 c2;go_wp2;go_ret;exact .inr ⟨_,_,_,_,_,HLS.out,rfl,by decide,H4.out,HF4.out⟩
 | some s1=>
  obtain⟨hx1,hs1,hlt1⟩:=expS_ok hE (by decide) HLt hexp;have HX1:=hideIt (HX.out w [40] a 0 h);rw[hx1] at HX1;have HLS:Hid (listF (gF f) (L.drop a)=match gF f (L.drop (a+1)) with
    | none=>none
    | some r=>finL (moreF (gF f) (r.s.length+1) [r.g] r.s)):=hideIt (by rw[listF_eq,hexp,hs1];rfl)
  clear h he ih hexp hx1 hs1;go_enter Tryz.func100,Tryz.ntmps100
  go_wp2_with fail
  refine HX1.out.mono ?_;rintro y w1 ⟨rfl,h1,hf1⟩;have H1:=hideIt h1;have HF1:=hideIt hf1;have hs1:=hf1.size;have HE1:=hideIt (HEv.out.fr hf1 hX);clear h1 hf1;go_wp2_with fail
  refine(HGo.out _ _ H1.out HE1.out (by omega)).mono ?_;rintro y w2 htold;have htold2:∃v,y=.returned v∧IfV v∧((∃r a' bs,gF f (L.drop (a+1))=some r∧RdAt w2 R S L a' 0∧L.drop a'=r.s∧a+1 < a'∧GAt f w2 base v r.g bs∧(∀b∈bs,w1.heap.size≤b∧NL w2 b)∧Fr [R] w1 w2)∨
    (∃a' fl',gF f (L.drop (a+1))=none∧fl'≠0∧RdAt w2 R S L a' fl'∧Fr [R] w1 w2)):=by
   rcases htold with ⟨r,v,a',bs,k1,rfl,k2,k3,k4,k5,k6,k7⟩ | ⟨v,a',fl',k1,rfl,k2,k3,k4,k5⟩
   ·exact⟨v,rfl,k5.ifv,.inl ⟨r,a',bs,k1,k2,k3,k4,k5,k6,k7⟩⟩
   ·exact⟨v,rfl,k2,.inr ⟨a',fl',k1,k3,k4,k5⟩⟩
  obtain⟨v,rfl,hv1,hcase⟩:=htold2;have HCase:=hideIt hcase;clear htold hcase;have HStart:Hid ((∃gs us cs g cap a',L.length - a'+a'=L.length∧Value.slice (some ⟨w2.heap.size,0,none⟩) 1 1=.slice (some ⟨g,0,none⟩) gs.length cap∧ListI f base w R S L a (w2.alloc (.cells #[v] 61)) gs us cs g cap a')∨ListB f w R S L a (.slice (some ⟨w2.heap.size,0,none⟩) 1 1) (w2.alloc (.cells #[v] 61))):=by
   have hal:Fr [] w2 (w2.alloc (.cells #[v] 61)):=Fr.alloc _ _ _;rcases HCase.out with ⟨r,a',bs,k1,k2,k3,k4,k5,k6,k7⟩ | ⟨a',fl',k1,k2,k3,k4⟩
   ·refine .inl ⟨[r.g],[v],bs++ [],w2.heap.size,1,a',by have:=k2.lt;omega,rfl,k2.fr hal (by simp) (by simp),by omega,by simp;omega,?_,.cons (k5.fr hal (by simp)) .nil (by simp),?_,?_,?_,?_,?_⟩
    ·have hs2:=k7.size;refine owns_of_cells (by omega) (heap_new _ _) (by simp) (by unfold maxLen;omega) rfl rfl (fun j hj=>?_);have:j=0:=by simp at hj;omega
     subst this;rw[cell_of_row _ _ _ _ 61 _ (heap_new w2 _)];rfl
    ·intro e;have:=(k5.in_ _ (by simpa using e)).2;omega
    ·have:=k7.size;omega
    ·intro b hb2;have hb3:b∈bs:=by simpa using hb2
     have:=k6 b hb3;exact⟨by omega,this.2.of (hal.block b (k5.in_ b hb3).2 (by simp))⟩
    ·exact(HF1.out.trans k7).trans (Fr.alloc _ _ _)
    ·rw[HLS.out,k1,k3]
   ·exact .inr ⟨_,_,_,a',fl',by rw[HLS.out,k1],rfl,k2,k3.fr hal (by simp) (by simp),(HF1.out.trans k4).trans (Fr.alloc _ _ _)⟩
  clear HCase HLS;rcases hv1 with rfl | ⟨T1,x1,rfl⟩;all_goals (
   go_wp2_with fail
   go_loopg [5] (L.length) (fun k sl wx=>(∃gs us cs g cap a',L.length - a'≤k∧sl=.slice (some ⟨g,0,none⟩) gs.length cap∧ListI f base w R S L a wx gs us cs g cap a')∨ListB f w R S L a sl wx)
   case atStart=>
    rcases HStart.out with ⟨gs,us,cs,g,cap,a',h1,h2,h3⟩ | h
    ·exact .inl ⟨gs,us,cs,g,cap,a',by omega,h2,h3⟩
    ·exact .inr h
   case round=>
    clear HStart;rcases hrel with ⟨gs,us,cs,g,cap,a',hka,rfl,hI⟩ | ⟨a8,n8,c8,a',fl',hls,rfl,hfl',h3,hf3⟩
    ·have HI:=hideIt hI;have c2:=hI.rd.c2;have hlt:=hI.rd.lt;have HN:=hideIt (next_any wr R S L a' 0 hI.rd);have hwsz:=hI.fr.size;clear hI;by_cases hcomma:L.getD a' []= [44]
     ·have hp:=hE.pass hlt (by rw[hcomma];decide);rw[hcomma] at HN;have HPs:=hideIt (fun W (k:RdAt W R S L a' 0)=>pass_any W R S L a' 0 k);rw[passS_ok hp] at HPs;have e44:(ba [44]).toList= [44]:=ba_list [44];go_wp2_with fail
      refine HN.out.mono ?_;rintro y w3 ⟨rfl,k3,rfl⟩;have c23:(wr.drewN k3).cell? ⟨R,2,none⟩=some (.int .i64 0):=c2;go_wp2_with fail
      refine(HPs.out _ (HI.out.rd.drewN k3)).mono ?_;rintro y w4 ⟨rfl,h4,hf4⟩;have H4:=hideIt h4;have hF34:=(Fr.drewN [R] wr k3).trans hf4;have HF4:=hideIt hF34;have HE4:=hideIt ((HEv.out.fr HI.out.fr hX).fr hF34 hX);have hs4:=hF34.size;clear h4 hf4 hF34 c2 c23;go_wp2_with fail
      refine(HGo.out _ _ H4.out HE4.out (by omega)).mono ?_;rintro y w5 htold;have htold2:∃v,y=.returned v∧IfV v∧((∃r a2 bs,gF f (L.drop (a'+1))=some r∧RdAt w5 R S L a2 0∧L.drop a2=r.s∧a'+1 < a2∧GAt f w5 base v r.g bs∧(∀b∈bs,w4.heap.size≤b∧NL w5 b)∧Fr [R] w4 w5)∨
        (∃a2 fl',gF f (L.drop (a'+1))=none∧fl'≠0∧RdAt w5 R S L a2 fl'∧Fr [R] w4 w5)):=by
       rcases htold with ⟨r,v,a2,bs,k1,rfl,k2,k3,k4,k5,k6,k7⟩ | ⟨v,a2,fl',k1,rfl,k2,k3,k4,k5⟩
       ·exact⟨v,rfl,k5.ifv,.inl ⟨r,a2,bs,k1,k2,k3,k4,k5,k6,k7⟩⟩
       ·exact⟨v,rfl,k2,.inr ⟨a2,fl',k1,k3,k4,k5⟩⟩
      obtain⟨v2,rfl,hv1,hcase⟩:=htold2;have hf45:Fr [R] w4 w5:=by rcases hcase with ⟨_,_,_,_,_,_,_,_,_,k⟩ | ⟨_,_,_,_,_,k⟩<;>exact k
      have hs5:=hf45.size;have hgne:∀y,y∈g::cs→y≠R:=fun y hy e=>by
       rcases List.mem_cons.1 hy with h | h
       ·have:=HI.out.new;omega
       ·have:=(HI.out.news y h).1;omega
      have hlow:∀y,y∈g::cs→y < wr.heap.size:=fun y hy=>by
       rcases List.mem_cons.1 hy with h | h
       ·rw[h];rcases HI.out.row.2 with ⟨e,_⟩ | ⟨g2,c2,cur,e,_,e2,_⟩
        ·cases e
        ·have e':(⟨g,0,none⟩:Addr)=⟨g2,0,none⟩:=by injection e with e _ _;injection e
         injection e' with e' _
         rw[e'];exact(Array.getElem?_eq_some_iff.1 e2).1
       ·exact(HI.out.parts.all (fun v g bs hp=>hp.in_) y h).2
      have hk5:∀y,y∈g::cs→w5.heap[y]?=wr.heap[y]?:=fun y hy=>(hf45.block y (by have:=hlow y hy;omega) (by simpa using hgne y hy)).trans (HF4.out.block y (hlow y hy) (by simpa using hgne y hy))
      have HRow5:=hideIt (ownsRow_blk HI.out.row (fun y hy=>by have hy':some g=some y:=hy;injection hy' with e;exact hk5 y (by simp[e])));have HCase:=hideIt hcase;have HK5:=hideIt hk5;have HLow:=hideIt hlow;have hgl:gs.length≤5000:=by have:=HI.out.few;omega
      clear htold hcase hk5 hlow hgne;rcases hv1 with rfl | ⟨T2,x2,rfl⟩;all_goals (
       go_wp2_with (at_builtin;refine wpList_append_at rfl _ _ rfl base g gs.length cap us _ w5.heap.size rfl rfl (HRow5.out.alloc _) (alloc1 _ _ _) rfl hgl (by simp;omega) ?_)
       intro g' cap' W6 ho6 hg6 hgg;have HNext:Hid ((∃gs2 us2 cs2 g2 cap2 a2,L.length - a2≤gk - 1∧Value.slice (some ⟨g',0,none⟩) (gs.length+1) cap'=.slice (some ⟨g2,0,none⟩) gs2.length cap2∧ListI f base w R S L a W6 gs2 us2 cs2 g2 cap2 a2)∨ListB f w R S L a (.slice (some ⟨g',0,none⟩) (gs.length+1) cap') W6):=by
        have hgr:g < wr.heap.size:=HLow.out g (by simp);have hSlt:=HH.out.ltS;have hgw:=HI.out.new;have hkeep:∀y,y < w5.heap.size→y≠g→W6.heap[y]?=w5.heap[y]?:=fun y hy hn=>(hg6.block y (by rw[World.size_alloc];omega) (fun e=>hn (by injection e))).trans (Below.heap_alloc _ _ _ hy)
        have hs6:=hg6.size;rw[World.size_alloc] at hs6;have hF56:Fr [R] w W6:=by
         have h1:=(HI.out.fr.trans HF4.out).trans hf45;exact⟨hg6.os.trans h1.os,hg6.tape.trans h1.tape,hg6.output.trans h1.output,by have:=h1.size;omega,fun k hk hn=>(hkeep k (by have:=h1.size;omega) (by omega)).trans (h1.block k hk hn),fun k hk=>by rw[hkeep k (by have:=h1.size;omega) (by omega)];exact h1.tag k hk⟩
        have hrd:∀a2 (fl:Int),RdAt w5 R S L a2 fl→RdAt W6 R S L a2 fl:=fun a2 fl h=>h.blk (hkeep R h.ltR (by omega)) (hkeep S h.ltS (by omega))
        have hdr:L.drop a'= [44]::L.drop (a'+1):=by rw[drop_get hlt,hcomma]
        have hls:=HI.out.ls;rcases HCase.out with ⟨r,a2,bs,k1,k2,k3,k4,k5,k6,k7⟩ | ⟨a2,fl',k1,k2,k3,k4⟩
        ·have hbs:∀b∈bs,w4.heap.size≤b∧b < w5.heap.size:=fun b hb=>⟨(k6 b hb).1,(k5.in_ b hb).2⟩
         obtain⟨ds,hd1,hd2⟩:=Parts.snoc (HI.out.parts.mono (Q:=GAt f W6 base) (fun v gg xs hxs hp=>hp.low (fun b hb=>by
           have hb2:=hxs b hb;have hlb:=HLow.out b (by simp[hb2]);exact(hkeep b (by omega) (fun e=>HI.out.apart (e▸hb2))).trans (HK5.out b (by simp[hb2]))) (by omega)))
          (k5.low (fun b hb=>hkeep b (hbs b hb).2 (by have:=(hbs b hb).1;omega)) (by omega):GAt f W6 base _ r.g bs)
          (fun b hb hb2=>by have:=HLow.out b (by simp[hb]);have:=(hbs b hb2).1;omega)
         refine .inl ⟨gs++ [r.g],_,ds,g',cap',a2,by have:=k2.lt;omega,by simp,hrd a2 0 k2,by have:=HI.out.lt;omega,by have:=HI.out.few;simp;omega,by simpa using ho6,hd1,?_,?_,?_,hF56,?_⟩
         ·intro e;rcases(hd2 _).1 e with e | e
          ·rcases hgg with rfl | rfl
           ·exact HI.out.apart e
           ·have:=HLow.out _ (List.mem_cons_of_mem _ e);omega
          ·rcases hgg with rfl | rfl
           ·have:=(hbs _ e).1;omega
           ·have:=(hbs _ e).2;omega
         ·rcases hgg with rfl | rfl
          ·exact hgw
          ·omega
         ·intro b hb;rcases(hd2 _).1 hb with e | e
          ·exact⟨(HI.out.news b e).1,(HI.out.news b e).2.of ((hkeep b (by have:=HLow.out b (by simp[e]);omega) (fun e'=>HI.out.apart (e'▸e))).trans (HK5.out b (by simp[e])))⟩
          ·exact⟨by have:=(hbs b e).1;omega,(k6 b e).2.of (hkeep b (hbs b e).2 (by have:=(hbs b e).1;omega))⟩
         ·rw[hls,hdr];simp only[List.length_cons];rw[moreF,if_pos rfl,k1];simp only;have hl:=gF_takes f _ _ k1;rw[k3,moreF_fuel (gF_takes f) _ (r.s.length+1) _ _ (by omega) (by omega)]
        ·refine .inr ⟨_,_,_,a2,fl',?_,rfl,k2,hrd a2 fl' k3,hF56⟩;rw[hls,hdr];simp only[List.length_cons];rw[moreF,if_pos rfl,k1];rfl
       clear HCase HK5 HLow HRow5 HI HN HPs H4 HF4 HE4 ho6 hg6;go_wp2
       go_roundg (gk - 1)
       case measure=>omega
       case rel=>exact HNext.out)
     ·have HXn:=hideIt (fun W (k:RdAt W R S L a' 0)=>HX.out W [41] a' 0 k);have hdr:L.drop a'=L.getD a' []::L.drop (a'+1):=drop_get hlt;have hls:listF (gF f) (L.drop a)=finL (some ⟨gs,L.drop a'⟩):=by
       rw[HI.out.ls,hdr];simp only[List.length_cons];rw[moreF,if_neg hcomma]
      have e44:(ba (L.getD a' [])).toList=L.getD a' []:=ba_list _;have hnc:(L.getD a' []== [44])=false:=by simpa using hcomma
      have HLs:=hideIt hls;clear hls hdr hcomma;generalize L.getD a' []=t at*
      go_wp2_with fail
      refine HN.out.mono ?_;rintro y w3 ⟨rfl,k3,rfl⟩;have HRd3:=hideIt (HI.out.rd.drewN k3);go_wp2_with fail
      refine(HXn.out _ HRd3.out).mono ?_;rintro y w4 ⟨rfl,h4,hf4⟩;have HF4:=hideIt ((HI.out.fr.trans (Fr.drewN [R] wr k3)).trans hf4);have hf34:=(Fr.drewN [R] wr k3).trans hf4;have hgne:∀y,y∈g::cs→y≠R:=fun y hy e=>by
       rcases List.mem_cons.1 hy with h | h
       ·have:=HI.out.new;omega
       ·have:=(HI.out.news y h).1;omega
      have hlow:∀y,y∈g::cs→y < wr.heap.size:=fun y hy=>by
       rcases List.mem_cons.1 hy with h | h
       ·rw[h];rcases HI.out.row.2 with ⟨e,_⟩ | ⟨g2,c2,cur,e,_,e2,_⟩
        ·cases e
        ·have e':(⟨g,0,none⟩:Addr)=⟨g2,0,none⟩:=by injection e with e _ _;injection e
         injection e' with e' _
         rw[e'];exact(Array.getElem?_eq_some_iff.1 e2).1
       ·exact(HI.out.parts.all (fun v g bs hp=>hp.in_) y h).2
      have hk4:∀y,y∈g::cs→w4.heap[y]?=wr.heap[y]?:=fun y hy=>hf34.block y (hlow y hy) (by simpa using hgne y hy)
      have HEnd:Hid (ListTold f base w R S L a (.returned (.slice (some ⟨g,0,none⟩) gs.length cap)) w4):=by
       cases he41:expF [41] (L.drop a') with
       | none=>
        rw[expS_none hlt he41] at h4;exact .inr ⟨_,_,_,a',3,by rw[HLs.out];simp only[finL];rw[he41],rfl,by decide,h4,HF4.out⟩
       | some z=>
        obtain⟨q1,q2,q3⟩:=expS_ok hE (by decide) hlt he41;rw[q1] at h4;refine .inl ⟨⟨gs,z⟩,g,cap,us,cs,a'+1,by rw[HLs.out];simp only[finL];rw[he41],rfl,h4,q2,by have:=HI.out.lt;omega,ownsRow_blk HI.out.row (fun y hy=>by have hy':some g=some y:=hy;injection hy' with e;exact hk4 y (by simp[e])),HI.out.parts.mono (fun v gg xs hxs hp=>hp.low (fun b hb=>hk4 b (by simp[hxs b hb])) hf34.size),HI.out.apart,HI.out.new,fun b hb=>⟨(HI.out.news b hb).1,(HI.out.news b hb).2.of (hk4 b (by simp[hb]))⟩,?_,HF4.out⟩;have:=HI.out.few;show gs.length≤2000;omega
      clear hk4 hlow hgne hf34 h4 hf4 HLs HF4 HRd3 HN HXn HI c2;go_wp2;go_ret;exact HEnd.out
    ·have H3:=hideIt h3;have HF3:=hideIt hf3;have HLs:=hideIt hls;have c2:=h3.c2;have hne:(fl'==0)=false:=by simp[hfl']
     have HXn:=hideIt (fun W (k:RdAt W R S L a' fl')=>HX.out W [41] a' fl' k);rw[expS_bad hfl'] at HXn;clear h3 hf3 hls;go_wp2_with fail
     refine(HXn.out _ H3.out).mono ?_;rintro y w4 ⟨rfl,h4,hf4⟩;have H4:=hideIt h4;have HF4:=hideIt (HF3.out.trans hf4);clear h4 hf4 c2;go_wp2;go_ret;exact .inr ⟨_,_,_,_,_,HLs.out,rfl,hfl',H4.out,HF4.out⟩)
end Go.Proofs.YtjpklmighoondaaGreatDoor.Gn
