/-
  gen.Parse.
  A plan that is tried, walked: Run, what it begins with.
  A plan that is tried, walked: Run.
-/
import Derived.Test.YtjpklmighoondaaGreatDoorIrWY
import Derived.Test.YtjpklmighoondaaGreatDoorFaRY
set_option maxRecDepth 100000
namespace Go.Proofs.YtjpklmighoondaaGreatDoor.Gn
open Go.RowKit
theorem sgs_mem:∀(n:Nat) (l t:Bt),t∈sgs n l→t≠ []∧t.length≤l.length
 | 0,_,_,h=>by simp[sgs] at h
 | n+1,[],_,h=>by simp[sgs] at h
 | n+1,c::l,t,h=>by
  have hp:=sgLen_pos (l:=c::l) (by simp);simp only[sgs] at h
  split at h
  ·have:=sgs_mem n l t h;exact⟨this.1,Nat.le_trans this.2 (by simp)⟩
  ·rcases List.mem_cons.1 h with e | e
   ·subst e;refine⟨fun e=>?_,by rw[List.length_take];omega⟩;have:=congrArg List.length e;simp only[List.length_take,List.length_nil,List.length_cons] at this hp;omega
   ·have:=sgs_mem n _ t e;exact⟨this.1,Nat.le_trans this.2 (by simp)⟩
theorem sgs_len:∀(n:Nat) (l:Bt),(sgs n l).length≤l.length
 | 0,_=>by simp[sgs]
 | n+1,[]=>by simp[sgs]
 | n+1,c::l=>by
  have hp:=sgLen_pos (l:=c::l) (by simp);simp only[sgs]
  split
  ·have:=sgs_len n l;simp;omega
  ·have:=sgs_len n ((c::l).drop (sgLen (c::l)));simp only[List.length_drop,List.length_cons] at this hp ⊢;omega
theorem sgEnd_of (l:Bt):SgEnd (sgs l.length l++ [[]]):=⟨fun a ha=>by
 simp only[List.length_append,List.length_cons,List.length_nil] at ha ⊢
 constructor
 ·intro h
  apply Classical.byContradiction
  intro hn;have hl:a < (sgs l.length l).length:=by omega
  rw[List.getD_eq_getElem?_getD,List.getElem?_append_left hl,List.getElem?_eq_getElem hl] at h;exact(sgs_mem _ _ _ (List.getElem_mem hl)).1 h
 ·intro h;have:a=(sgs l.length l).length:=by omega
  rw[List.getD_eq_getElem?_getD,this,List.getElem?_append_right (Nat.le_refl _)];simp⟩
theorem sgCs_at:∀(ps:List (Bt×Nat)) (i:Nat) (h:i < ps.length),(sgCs ps)[i*2]?=some (.string (ba ps[i].1))∧(sgCs ps)[i*2+1]?=some (.int .i64 (ps[i].2:Nat))
 | [],_,h=>absurd h (Nat.not_lt_zero _)
 | p::ps,0,_=>⟨rfl,rfl⟩
 | p::ps,i+1,h=>by
  have ih:=sgCs_at ps i (by simpa using h);have e:sgCs (p::ps)=.string (ba p.1)::.int .i64 (p.2:Nat)::sgCs ps:=rfl;rw[e,show (i+1)*2=i*2+2 by omega,show i*2+2+1=(i*2+1)+2 by omega];exact ih
def PsTold (l:Bt) (w:World) (e:Ending) (w':World):Prop:=
 (∃g v bs,parseF l=some g∧e=.returned (.tuple #[v,.nilIface])∧GAt 20 w' w.heap.size v g bs∧(∀b∈bs,NL w' b)∧Fr [] w w')∨
 (parseF l=none∧∃T x,e=.returned (.tuple #[.nilIface,.iface T x])∧Fr [] w w')
set_option maxHeartbeats 4000000 in
theorem parse_long (l:Bt) (w:World) (hl:2000 < l.length):Calls Tryz.prog 20 #[.string (ba l)] w (PsTold l w):=by
 have hsz:=ba_size l;have hN:parseF l=none:=by unfold parseF;rw[if_pos hl]
 have HN:=hideIt hN;have hl':(2000:Int) < (l.length:Int):=by omega
 clear hN;go_enter Tryz.func20,Tryz.ntmps20
 go_wp2;go_ret2;exact .inr ⟨HN.out,_,_,rfl,Fr.refl _ _⟩
theorem fr_nil_of_new {w w':World} {R:Nat} (h:Fr [R] w w') (hR:w.heap.size≤R):Fr [] w w':=
 ⟨h.os,h.tape,h.output,h.size,fun k hk _=>h.block k hk (by simp;omega),h.tag⟩
theorem Fr.new2 {w w1 w':World} {R:Nat} (h:Fr [] w w1) (k:Fr [R] w1 w') (hR:w.heap.size≤R):Fr [] w w':=
 fr_nil_of_new ((h.more (Y:= [R]) (by simp)).trans k) hR
set_option maxHeartbeats 8000000 in
theorem parse_any (l:Bt) (w:World) (hv:ErrV w):Calls Tryz.prog 20 #[.string (ba l)] w (PsTold l w):=by
 by_cases hl:2000 < l.length
 ·exact parse_long l w hl
 have hsz:=ba_size l;have hl':¬(2000:Int) < (l.length:Int):=by omega
 have HS:=hideIt (signsOf_any l w (by omega));have HV:=hideIt hv;have HVl:=hideIt hv.lt;clear hv;go_enter Tryz.func20,Tryz.ntmps20
 go_wp2_with fail
 refine HS.out.mono ?_;rintro y w1 ⟨S,cap,ps,hret,hrow,htxt,hbel⟩;subst hret;obtain⟨L,hL⟩:∃L,sgs l.length l++ [[]]=L:=⟨_,rfl⟩;have hpl:ps.length=L.length:=by rw[←hL,←htxt,List.length_map]
 rw[hpl];have hfew:L.length≤2001:=by rw[←hL,List.length_append];have:=sgs_len l.length l;simp;omega
 have hE:SgEnd L:=by rw[←hL];exact sgEnd_of l
 have hP:parseF l=match gF 20 L with
   | none=>none
   | some r=>if r.s.headD []= [] then some r.g else none:=by unfold parseF;rw[if_neg hl,hL];rfl
 have hSlt:S < w1.heap.size:=by
  rcases hrow.2 with ⟨e,_⟩ | ⟨g,c,cur,e,_,e2,_⟩
  ·cases e
  ·injection e with e _ _;injection e with e;injection e with e _;rw[e];exact(Array.getElem?_eq_some_iff.1 e2).1
 have hRd:RdAt (w1.alloc (.cells #[.slice (some ⟨S,0,none⟩) L.length cap,.int .i64 0,.int .i64 0] 120)) w1.heap.size S L 0 0:=by
  have hnew:=heap_new w1 (.cells #[.slice (some ⟨S,0,none⟩) L.length cap,.int .i64 0,.int .i64 0] 120);have hold:(w1.alloc (.cells #[.slice (some ⟨S,0,none⟩) L.length cap,.int .i64 0,.int .i64 0] 120)).heap[S]?=w1.heap[S]?:=Below.heap_alloc _ _ _ hSlt;refine⟨⟨cap,by rw[cell_of_row _ _ _ _ _ _ hnew];rfl,?_⟩,by rw[cell_of_row _ _ _ _ _ _ hnew];rfl,by rw[cell_of_row _ _ _ _ _ _ hnew];rfl,frozen_of_row _ _ _ _ _ hnew,frozen_of_row _ _ _ _ _ hnew,fun i hi=>?_,by rw[←hL,List.length_append];simp,hfew,by omega⟩
  ·rcases hrow.2 with ⟨e,_⟩ | ⟨g,c,cur,e,_,_,e3,_⟩
   ·cases e
   ·injection e with _ _ e;rw[e,←hpl];exact e3
  ·have hi2:i < ps.length:=by omega
   obtain⟨k1,k2⟩:=sgCs_at ps i hi2;have hx:ps[i].1=L[i]:=by
    have h1:(ps.map (·.1))[i]?=L[i]?:=by rw[htxt,hL]
    rw[List.getElem?_map,List.getElem?_eq_getElem hi2,List.getElem?_eq_getElem hi] at h1;exact Option.some.inj h1
   exact⟨((World.cell?_of_block (a:=⟨S,i*2,none⟩) hold).trans (hrow.cellAt (i*2) (by omega))).trans (by rw[k1,hx]),_,((World.cell?_of_block (a:=⟨S,i*2+1,none⟩) hold).trans (hrow.cellAt (i*2+1) (by omega))).trans k2⟩
 have hEnv:RdEnv (w1.alloc (.cells #[.slice (some ⟨S,0,none⟩) L.length cap,.int .i64 0,.int .i64 0] 120)) w1.heap.size L:=by
  have hvl:=HVl.out;have hws:=hbel.size;have hFr:Fr [] w (w1.alloc (.cells #[.slice (some ⟨S,0,none⟩) L.length cap,.int .i64 0,.int .i64 0] 120)):=(fr_below hbel []).trans (Fr.alloc _ _ _);refine⟨HV.out.fr hFr (by simp) (by simp),by omega,by omega,fun t ht=>?_⟩;rw[←hL] at ht;rcases List.mem_append.1 ht with h | h
  ·have:=(sgs_mem _ _ _ h).2;omega
  ·simp at h;subst h;simp
 have HFr1:Hid (Fr [] w w1):=hideIt (fr_below hbel []);have HG:=hideIt ((genOk 20).ok w.heap.size _ _ _ _ _ hRd hEnv hE (by have:=hbel.size;simp;omega) (Nat.le_refl _));rw[show ((20 - 20:Nat):Int)=0 from rfl] at HG;have HP:=hideIt hP;have hws:=hbel.size;clear hRd hEnv hbel hrow htxt hP HS;go_wp2_with fail
 refine HG.out.mono ?_;rintro y w2 htold;have htold2:∃v a' fl',y=.returned v∧IfV v∧RdAt w2 w1.heap.size S L a' fl'∧Fr [w1.heap.size] (w1.alloc (.cells #[.slice (some ⟨S,0,none⟩) L.length cap,.int .i64 0,.int .i64 0] 120)) w2∧
   ((∃r bs,gF 20 L=some r∧fl'=0∧L.drop a'=r.s∧GAt 20 w2 w.heap.size v r.g bs∧∀b∈bs,w1.heap.size < b∧NL w2 b)∨(gF 20 L=none∧fl'≠0)):=by
  rcases htold with ⟨r,v,a',bs,k1,rfl,k2,k3,k4,k5,k6,k7⟩ | ⟨v,a',fl',k1,rfl,k2,k3,k4,k5⟩
  ·exact⟨v,a',0,rfl,k5.ifv,k2,k7,.inl ⟨r,bs,k1,rfl,k3,k5,fun b hb=>⟨by have:=(k6 b hb).1;simp at this;omega,(k6 b hb).2⟩⟩⟩
  ·exact⟨v,a',fl',rfl,k2,k4,k5,.inr ⟨k1,k3⟩⟩
 obtain⟨v,a',fl',rfl,hiv,h2,hf2,hcase⟩:=htold2;have hX:=expect_any w2 w1.heap.size S L a' fl' [] h2;have HF2:Hid (Fr [] w w2):=hideIt (HFr1.out.trans (fr_nil_of_new ((Fr.alloc _ _ _).trans hf2) (Nat.le_refl _)));have hw2:=hf2.size;have hSlt2:=h2.lt;rcases hcase with ⟨r,bs,k1,rfl,k3,k5,k6⟩ | ⟨k1,k2⟩
 ·have hh:r.s.headD []=L.getD a' []:=by rw[←k3,drop_get h2.lt];rfl
  by_cases ht:L.getD a' []= []
  ·have hp:parseF l=some r.g:=by rw[HP.out,k1];simp only[hh,ht,if_true]
   have hx:expS L [] a' 0=(passS L.length a' 0,0):=by unfold expS;rw[if_pos ht]
   rw[hx] at hX;have HX:=hideIt hX;have HPr:=hideIt hp;have HGt:=hideIt k5;have HK6:=hideIt k6;clear h2 hf2 hX hp hx k1 k3 k5 hh ht k6 HG HP;rcases hiv with rfl | ⟨T1,x1,rfl⟩;all_goals (
    go_wp2_with fail
    refine HX.out.mono ?_;rintro y w3 ⟨rfl,h3,hf3⟩;have c2:=h3.c2;have HGt3:=hideIt (HGt.out.fr hf3 (fun b hb=>by have h6:=(HK6.out b hb).1;rw[List.mem_singleton];omega));have HNl:=hideIt (fun b hb=>(HK6.out b hb).2.of (hf3.block b (HGt.out.in_ b hb).2 (by have h6:=(HK6.out b hb).1;rw[List.mem_singleton];omega)));have HF3:=hideIt (HF2.out.new2 hf3 (by omega));clear h3 hf3;go_wp2;go_ret2;exact .inl ⟨_,_,_,HPr.out,rfl,HGt3.out,HNl.out,HF3.out⟩)
  ·have hp:parseF l=none:=by rw[HP.out,k1];simp only[hh,ht,if_false]
   have hx:expS L [] a' 0=(a',3):=by unfold expS;rw[if_neg ht,failS_ok,passS_bad (by decide)]
   rw[hx] at hX;have HX:=hideIt hX;have HPr:=hideIt hp;clear h2 hf2 hX hp hx k1 k3 k5 hh ht k6 HG HP;rcases hiv with rfl | ⟨T1,x1,rfl⟩;all_goals (
    go_wp2_with fail
    refine HX.out.mono ?_;rintro y w3 ⟨rfl,h3,hf3⟩;obtain⟨⟨cap3,c0,hcap⟩,c1,c2,_,_,row,hlt,_,_⟩:=h3;obtain⟨_,x3,hx3⟩:=row a' hlt;have hlt':(a':Int) < (L.length:Int):=by omega
    have HF3:=hideIt (HF2.out.new2 hf3 (by omega));clear row hf3;go_wp2
    go_region
    go_wp2;go_ret2;exact .inr ⟨HPr.out,_,_,rfl,(HF3.out.trans (Fr.alloc _ _ _)).trans (Fr.drewN _ _ 1)⟩)
 ·have hp:parseF l=none:=by rw[HP.out,k1]
  have hx:expS L [] a' fl'=(a',fl'):=expS_bad k2;rw[hx] at hX;have HX:=hideIt hX;have HPr:=hideIt hp;have hne:(fl'==0)=false:=by simp[k2]
  clear h2 hf2 hX hp hx k1 HG HP;rcases hiv with rfl | ⟨T1,x1,rfl⟩;all_goals (
   go_wp2_with fail
   refine HX.out.mono ?_;rintro y w3 ⟨rfl,h3,hf3⟩;obtain⟨⟨cap3,c0,hcap⟩,c1,c2,_,_,row,hlt,_,_⟩:=h3;obtain⟨_,x3,hx3⟩:=row a' hlt;have hlt':(a':Int) < (L.length:Int):=by omega
   have HF3:=hideIt (HF2.out.new2 hf3 (by omega));clear row hf3;go_wp2
   go_region
   go_wp2;go_ret2;exact .inr ⟨HPr.out,_,_,rfl,(HF3.out.trans (Fr.alloc _ _ _)).trans (Fr.drewN _ _ 1)⟩)
end Go.Proofs.YtjpklmighoondaaGreatDoor.Gn
namespace Go.Proofs.YtjpklmighoondaaGreatDoor.Fa
open Go.RowKit
theorem gat_base:∀{n:Nat} {w:World} {base base':Nat} {v:Value} {g:Gn.Gt} {bs:List Nat},Gn.GAt n w base v g bs→base'≤base→Gn.GAt n w base' v g bs
 | 0,_,_,_,_,_,_,h,_=>h.elim
 | _+1,_,_,_,_,.rd _,_,h,_=>h
 | _+1,_,_,_,_,.wr _ _ _,_,h,_=>h
 | n+1,w,base,base',v,.lim g left,bs,h,hb=>by
  obtain⟨b,u,cs,h1,rfl,h2,h3,h4,h5,h6,h7,h8⟩:=h;exact⟨b,u,cs,h1,rfl,by omega,h3,h4,h5,h6,h7,gat_base h8 hb⟩
 | n+1,w,base,base',v,.mix l,bs,h,hb=>by
  obtain⟨b,g,cap,us,cs,h1,rfl,h2,h3,h4,h5,h6,h7,h8,h9,h10⟩:=h;exact⟨b,g,cap,us,cs,h1,rfl,by omega,h3,h4,h5,h6,h7,ownsRow_base h8 hb,h9,h10.mono fun _ _ _ _ h=>gat_base h hb⟩
 | n+1,w,base,base',v,.thn l,bs,h,hb=>by
  obtain⟨b,r,g,us,cs,h1,rfl,h2,h3,h4,h5,h6,h7,⟨o,cap,r1,r2,r3,r4,r5,r6⟩,h9,h10⟩:=h;exact⟨b,r,g,us,cs,h1,rfl,by omega,h3,h4,h5,h6,h7,⟨o,cap,r1,r2,r3,by omega,r5,r6⟩,h9,h10.mono fun _ _ _ _ h=>gat_base h hb⟩
theorem on_le (t:Gn.Tp) (n:Int):t.u≤(t.on n).u:=by
 unfold Gn.Tp.on
 split
 ·exact Nat.le_refl _
 ·exact Nat.le_succ _
theorem mixF_mono {nx:Gn.Gt→Gn.Tp→Gn.Gv} (h:∀g t,t.u≤(nx g t).t.u):∀(k:Nat) (l:List Gn.Gt) (t:Gn.Tp),t.u≤(Gn.mixF nx k l t).t.u
 | 0,_,_=>Nat.le_refl _
 | k+1,l,t=>by
  have h1:=on_le t l.length;have h2:=h (l.getD (t.below l.length).toNat (.rd 0)) (t.on l.length);simp only[Gn.mixF]
  split
  ·exact Nat.le_trans h1 h2
  ·exact Nat.le_trans (Nat.le_trans h1 h2) (mixF_mono h k _ _)
theorem thnF_mono {nx:Gn.Gt→Gn.Tp→Gn.Gv} (h:∀g t,t.u≤(nx g t).t.u):∀(l:List Gn.Gt) (t:Gn.Tp),t.u≤(Gn.thnF nx l t).t.u
 | [],_=>Nat.le_refl _
 | g::l,t=>by
  have h2:=h g t;simp only[Gn.thnF]
  split
  ·exact h2
  ·exact Nat.le_trans h2 (thnF_mono h l _)
theorem nextF_mono:∀(n:Nat) (g:Gn.Gt) (t:Gn.Tp),t.u≤(Gn.nextF n g t).t.u
 | 0,_,_=>Nat.le_refl _
 | n+1,.rd _,_=>Nat.le_refl _
 | n+1,.wr _ _ _,t=>on_le _ _
 | n+1,.lim g k,t=>by
  rw[Gn.nextF]
  split
  ·exact Nat.le_refl _
  ·exact nextF_mono n g t
 | n+1,.mix l,t=>mixF_mono (nextF_mono n) _ _ _
 | n+1,.thn l,t=>thnF_mono (nextF_mono n) _ _
theorem begF_mono (T:Trl) (c:Int):T.t.u≤(begF T c).1.t.u:=by
 have h:=nextF_mono 20 T.g T.t;unfold begF
 split
 ·exact Nat.le_refl _
 ·split
  ·exact h
  ·split<;>exact h
theorem moveF_mono (T:Trl):T.t.u+1≤(moveF T).t.u:=by
 have h10:T.t.u+1=(T.on 10).t.u:=by
  show _=(T.t.on 10).u;unfold Gn.Tp.on;rw[if_neg (by decide)]
 rw[h10];unfold moveF;dsimp only;have hm:∀w,(T.on 10).t.u≤(mesF (T.on 10) w).t.u:=fun w=>on_le _ _
 split
 ·exact Nat.le_trans (on_le _ _) (begF_mono ((T.on 10).on T.p.k) _)
 split
 ·exact hm 2
 split
 ·exact hm 3
 split
 ·exact hm 4
 ·have h6:(T.on 10).t.u≤((T.on 10).on 6).t.u:=on_le _ _;have hon:∀n,((T.on 10).on 6).t.u≤(((T.on 10).on 6).on n).t.u:=fun n=>on_le _ _
  unfold trouF;dsimp only;repeat' split
  all_goals first | exact h6 | exact Nat.le_trans h6 (hon _)
theorem ini0 {n k ask tell:Nat} (back:Bool) (h1:1≤n) (h7:n≤7) (h8:k≤8):Ini (St.pst0 n k ask tell back) where
 inv:=fun l hl=>by
  have:=St.runP_inv (ask:=ask) (tell:=tell) back h1 h7 h8 l hl l.length (Nat.le_refl _)
  rwa [List.take_length] at this
 hon:=fun m hm=>by cases hm
def T00 (n k ask tell:Nat) (back:Bool) (g:Gn.Gt) (l:List Int):Trl:=⟨St.pst0 n k ask tell back,sto0 n k ask tell back,g,⟨l,0⟩,0,false⟩
theorem gd0 {n k ask tell:Nat} {back:Bool} {g:Gn.Gt} {l:List Int} (hd:Gn.htLe 20 g) (hw:Gn.wtF 20 g≤2001):Gd (St.pst0 n k ask tell back) (sto0 n k ask tell back) 0 (T00 n k ask tell back g l):=
 ⟨⟨⟨[],Nat.le_refl _,rfl,rfl⟩,Nat.zero_le _,hd,hw⟩,Nat.le_refl _,Nat.le_refl _⟩
def trObj (n k ask tell:Int) (back:Bool) (ti ge:ByteArray) (bud:Int) (B:Nat) (v tp:Value):Obj:=
 .cells #[.int .i64 n,.int .i64 k,.int .i64 ask,.int .i64 tell,.bool back,.string ti,.string ge,.int .i64 bud,.pointer (some ⟨B,0,none⟩),v,tp,.int .i64 0,.int .i64 0,.bool false] 67 (0,0)
theorem tr_start {w0 W:World} {B N C n k ask tell:Nat} {back:Bool} {ti ge:ByteArray} {bud:Int} {g:Gn.Gt} {v:Value} {bs:List Nat} {a:Option Addr} {cap base:Nat} {l:List Int}
  (hS:St.StoP w0 W (St.stK0 B N C) (St.pst0 n k ask tell back)) (hg:Gn.GAt 20 W base v g bs) (hb:w0.heap.size≤base) (hB:B < base∧N < base∧C < base) (hn:∀b∈bs,Gn.NL W b)
  (hcap:l.length≤cap) (hl:l= []∨∃b off,a=some ⟨b,off,none⟩∧b < w0.heap.size∧∀i,(h:i < l.length)→W.cell? ⟨b,off+i,none⟩=some (.int .i64 l[i])):
  TrW w0 (W.alloc (trObj n k ask tell back ti ge bud B v (.slice a l.length cap))) W.heap.size (St.stK0 B N C) v bs ti bud (T00 n k ask tell back g l):=by
 have hal:Below W.heap.size W (W.alloc (trObj n k ask tell back ti ge bud B v (.slice a l.length cap))):=St.belA (Below.refl _ _) _;have hnew:(W.alloc (trObj n k ask tell back ti ge bud B v (.slice a l.length cap))).heap[W.heap.size]?=some (trObj n k ask tell back ti ge bud B v (.slice a l.length cap)):=heap_alloc_new W _;have hc:∀i,(W.alloc (trObj n k ask tell back ti ge bud B v (.slice a l.length cap))).cell? ⟨W.heap.size,i,none⟩=(#[.int .i64 (n:Int),.int .i64 (k:Int),.int .i64 (ask:Int),.int .i64 (tell:Int),.bool back,.string ti,.string ge,.int .i64 bud,.pointer (some ⟨B,0,none⟩),v,.slice a l.length cap,.int .i64 0,.int .i64 0,.bool false]:Array Value)[i]?:=fun i=>cell_of_row _ _ _ _ 67 _ hnew
 have hf:∀i,(W.alloc (trObj n k ask tell back ti ge bud B v (.slice a l.length cap))).frozen? ⟨W.heap.size,i,none⟩=false:=fun i=>frozen_of_row _ _ _ _ 67 hnew
 have hin:=hg.in_;have hlow:base≤W.heap.size∨bs= []:=by
  cases bs with
  | nil=>exact .inr rfl
  | cons b bs=>exact .inl (by have:=hin b (by simp);omega)
 have hw:=hS.bel.size;refine⟨hS.below hal,⟨⟨a,cap,(hc 10).trans rfl,hcap,hl.imp id fun⟨b,off,e,hb,hx⟩=>⟨b,off,e,hb,fun i hi=>(hal.cell (p:=⟨b,off+i,none⟩) (by show b < W.heap.size;omega)).trans (hx i hi)⟩⟩,(hc 11).trans rfl,hf 11,hw⟩,gat_base (hg.low (fun b hb'=>hal.block b (hin b hb').2) hal.size) hb,fun hm=>by have:=(hin _ hm).2;omega,⟨(hc 0).trans rfl,(hc 1).trans rfl,(hc 5).trans rfl,(hc 7).trans rfl,(hc 8).trans rfl,(hc 9).trans rfl,(hc 12).trans rfl,(hc 13).trans rfl,hf 12,hf 13⟩,fun b hb'=>?_⟩;have hne:∀x,base≤x→¬(St.stK0 B N C).own k x:=fun x hx ho=>by
  rcases ho with h | h | h | h | h | h | ⟨i,_,h⟩
  ·have e:x=B:=h;omega
  ·have e:x=N:=h;omega
  ·have e:x=C:=h;omega
  ·cases h
  ·cases h
  ·cases h
  ·cases h
 rcases hb' with rfl | hm
 ·refine⟨fun ho=>?_,fun hl=>?_⟩
  ·have:=(hS.own_lt ho).2;omega
  ·unfold St.LTg at hl;rw[hnew] at hl;rcases hl with hl | hl
   ·exact absurd (show (67+1:Nat)=267 from hl) (by decide)
   ·exact absurd (show (67+1:Nat)=5 from hl) (by decide)
 ·refine⟨hne b (hin b hm).1,fun hl=>?_⟩;unfold St.LTg at hl;rw[hal.block b (hin b hm).2,←tgD_tagD] at hl;rcases hl with hl | hl
  ·exact(hn b hm).1 hl
  ·exact(hn b hm).2 hl
open Go.RowKit
def okBud (x:Int):Bool:=decide (0≤x)&&decide (x≤1000000)
theorem isBudget_any (x:Int) (w:World):Calls Tryz.prog 18 #[.int .i64 x] w fun e w'=>e=.returned (.bool (okBud x))∧w'=w:=by
 by_cases h0:0≤x
 ·by_cases h1:x≤1000000
  ·have e:Hid (okBud x=true):=by show okBud x=true;simp[okBud,h0,h1]
   go_enter Tryz.func18,Tryz.ntmps18
   go_wp2;go_ret;exact⟨by rw[e.out];rfl,rfl⟩
  ·have e:Hid (okBud x=false):=by show okBud x=false;simp[okBud,h1]
   go_enter Tryz.func18,Tryz.ntmps18
   go_wp2;go_ret;exact⟨by rw[e.out];rfl,rfl⟩
 ·have e:Hid (okBud x=false):=by show okBud x=false;simp[okBud,h0]
  go_enter Tryz.func18,Tryz.ntmps18
  go_wp2;go_ret;exact⟨by rw[e.out];rfl,rfl⟩
section
variable {w0 W W' : World} {Bt : Nat} {K : St.StK} {v : Value} {bs : List Nat} {ti : ByteArray} {bud : Int} {T : Trl} {P0 : St.Pst} {S0 : Sto}
theorem used_any (h:TrW w0 W Bt K v bs ti bud T):Calls Tryz.prog 21 #[.pointer (some ⟨Bt,10,none⟩)] W fun e w'=>e=.returned (.int .i64 (T.t.u:Int))∧w'=W:=by
 have c11:=h.tp.used;clear h;go_enter Tryz.func21,Tryz.ntmps21
 go_wp2;go_ret;exact⟨rfl,rfl⟩
end
def WhyNot (n k ask tell:Int) (back:Bool) (ge:Gn.Bt) (bud:Int) (l:List Int):Prop:=
 okBud bud=false∨¬St.checkC n k ask tell=0∨Gn.parseF ge=none∨∃(nn kk aa tt b:Nat) (g:Gn.Gt) (T1 T2:Trl),n=nn∧k=kk∧ask=aa∧tell=tt∧Gn.parseF ge=some g∧Mvd l.length (T00 nn kk aa tt back g l) T1∧Fin (T1.play ⟨6,0,0,0⟩) T2∧Gd (St.pst0 nn kk aa tt back) (sto0 nn kk aa tt back) b T2∧¬RepOk bud T2.p
def RunTold (n k ask tell:Int) (back:Bool) (ti:ByteArray) (ge:Gn.Bt) (bud:Int) (l:List Int) (w:World) (e:Ending) (w':World):Prop:=
 (∃T x,e=.returned (.tuple #[rep0,.iface T x])∧WhyNot n k ask tell back ge bud l∧Below w.heap.size w w')∨
 (okBud bud=true∧∃(nn kk aa tt:Nat),n=nn∧k=kk∧ask=aa∧tell=tt∧St.checkC n k ask tell=0∧∃g T1 T2 b,Gn.parseF ge=some g∧Mvd l.length (T00 nn kk aa tt back g l) T1∧Fin (T1.play ⟨6,0,0,0⟩) T2∧b≤4000∧Gd (St.pst0 nn kk aa tt back) (sto0 nn kk aa tt back) b T2∧RepOk bud T2.p∧RepGood ti bud T2.p w e w')
def RI (w1:World) (Bt:Nat) (v:Value) (ti:ByteArray) (bud:Int) (P0:St.Pst) (S0:Sto) (T0:Trl) (len:Nat) (g:Nat) (wx:World):Prop:=
 ∃(T:Trl) (b:Nat) (K:St.StK) (bs:List Nat),g=len - T.t.u∧TrW w1 wx Bt K v bs ti bud T∧Gd P0 S0 b T∧b≤T.t.u∧b≤len∧∀T',Mvd len T T'→Mvd len T0 T'
set_option maxHeartbeats 8000000 in
theorem run_any (n k ask tell:Int) (back:Bool) (ti:ByteArray) (ge:Gn.Bt) (bud:Int) (a:Option Addr) (cap:Nat) (l:List Int) (w:World) (h250:l.length≤250) (hcap:l.length≤cap)
  (hl:l= []∨∃b off,a=some ⟨b,off,none⟩∧b < w.heap.size∧∀i,(h:i < l.length)→w.cell? ⟨b,off+i,none⟩=some (.int .i64 l[i])) (hv:Gn.ErrV w) (hK:KnownAt w):
  Calls Tryz.prog 9 #[.agg #[.int .i64 n,.int .i64 k,.int .i64 ask,.int .i64 tell,.bool back,.string ti,.string (Gn.ba ge),.int .i64 bud],.slice a l.length cap] w (RunTold n k ask tell back ti ge bud l w):=by
 have hpos:0 < w.heap.size:=World.block_lt_of_cell? w ⟨0,0*13+0,none⟩ (hK 0 0 (by decide) (by decide));have hlen:((l.length:Int) > 2000)=False:=by simp;omega
 have HB:=hideIt (isBudget_any bud);have hw1:Below w.heap.size w ((w.alloc (.cells #[.int .i64 n,.int .i64 k,.int .i64 ask,.int .i64 tell,.bool back,.string ti,.string (Gn.ba ge),.int .i64 bud] 25)).alloc (.cells #[.string ⟨#[]⟩,.slice none 0 0,.int .i64 0,.slice none 0 0,.int .i64 0] 36)):=St.belA (St.belA (Below.refl _ _) _) _;have hP1:((w.alloc (.cells #[.int .i64 n,.int .i64 k,.int .i64 ask,.int .i64 tell,.bool back,.string ti,.string (Gn.ba ge),.int .i64 bud] 25)).alloc (.cells #[.string ⟨#[]⟩,.slice none 0 0,.int .i64 0,.slice none 0 0,.int .i64 0] 36)).heap[w.heap.size]?=some (.cells #[.int .i64 n,.int .i64 k,.int .i64 ask,.int .i64 tell,.bool back,.string ti,.string (Gn.ba ge),.int .i64 bud] 25 (0,0)):=
  ((St.belA (Below.refl _ _) _:Below (w.alloc _).heap.size (w.alloc _) _).block w.heap.size (by rw[World.size_alloc];omega)).trans (heap_alloc_new w _)
 have hR1:((w.alloc (.cells #[.int .i64 n,.int .i64 k,.int .i64 ask,.int .i64 tell,.bool back,.string ti,.string (Gn.ba ge),.int .i64 bud] 25)).alloc (.cells #[.string ⟨#[]⟩,.slice none 0 0,.int .i64 0,.slice none 0 0,.int .i64 0] 36)).heap[w.heap.size+1]?=some (.cells #[.string ⟨#[]⟩,.slice none 0 0,.int .i64 0,.slice none 0 0,.int .i64 0] 36 (0,0)):=by
  have:=heap_alloc_new (w.alloc (.cells #[.int .i64 n,.int .i64 k,.int .i64 ask,.int .i64 tell,.bool back,.string ti,.string (Gn.ba ge),.int .i64 bud] 25)) (.cells #[.string ⟨#[]⟩,.slice none 0 0,.int .i64 0,.slice none 0 0,.int .i64 0] 36)
  rwa [World.size_alloc] at this
 have HW1:=hideIt (And.intro hw1 (And.intro hP1 hR1));clear hw1 hP1 hR1;go_enter Tryz.func9,Tryz.ntmps9
 go_upto_region 1 with fail
 generalize ((w.alloc (.cells #[.int .i64 n,.int .i64 k,.int .i64 ask,.int .i64 tell,.bool back,.string ti,.string (Gn.ba ge),.int .i64 bud] 25)).alloc (.cells #[.string ⟨#[]⟩,.slice none 0 0,.int .i64 0,.slice none 0 0,.int .i64 0] 36))=w1 at*
 obtain⟨hb1,hP1,hR1⟩:=HW1.out;have HA:Hid (∀Z,Below w1.heap.size w1 Z→Z.cell? ⟨w.heap.size,0,none⟩=some (.int .i64 n)∧Z.cell? ⟨w.heap.size,1,none⟩=some (.int .i64 k)∧Z.cell? ⟨w.heap.size,2,none⟩=some (.int .i64 ask)∧Z.cell? ⟨w.heap.size,3,none⟩=some (.int .i64 tell)∧Z.cell? ⟨w.heap.size,4,none⟩=some (.bool back)∧Z.cell? ⟨w.heap.size,5,none⟩=some (.string ti)∧Z.cell? ⟨w.heap.size,6,none⟩=some (.string (Gn.ba ge))∧Z.cell? ⟨w.heap.size,7,none⟩=some (.int .i64 bud)):=fun Z hZ=>by
  have e:=(hZ.block w.heap.size (lt_of_heap hP1)).trans hP1;exact⟨by rw[cell_of_row _ _ _ _ 25 _ e];rfl,by rw[cell_of_row _ _ _ _ 25 _ e];rfl,by rw[cell_of_row _ _ _ _ 25 _ e];rfl,by rw[cell_of_row _ _ _ _ 25 _ e];rfl,by rw[cell_of_row _ _ _ _ 25 _ e];rfl,by rw[cell_of_row _ _ _ _ 25 _ e];rfl,by rw[cell_of_row _ _ _ _ 25 _ e];rfl,by rw[cell_of_row _ _ _ _ 25 _ e];rfl⟩
 have HR:Hid (∀Z,Below w1.heap.size w1 Z→Z.heap[w.heap.size+1]?=some (.cells #[.string ⟨#[]⟩,.slice none 0 0,.int .i64 0,.slice none 0 0,.int .i64 0] 36 (0,0))):=fun Z hZ=>(hZ.block _ (lt_of_heap hR1)).trans hR1
 have HBw:Hid (∀Z,Below w1.heap.size w1 Z→Below w.heap.size w Z):=fun Z hZ=>St.belJ hb1 hZ
 have HRc:Hid (∀Z,Below w1.heap.size w1 Z→(Z.cell? ⟨w.heap.size+1,0,none⟩=some (.string ⟨#[]⟩)∧Z.cell? ⟨w.heap.size+1,1,none⟩=some (.slice none 0 0)∧Z.cell? ⟨w.heap.size+1,2,none⟩=some (.int .i64 0)∧Z.cell? ⟨w.heap.size+1,3,none⟩=some (.slice none 0 0)∧Z.cell? ⟨w.heap.size+1,4,none⟩=some (.int .i64 0))∧∀i,Z.frozen? ⟨w.heap.size+1,i,none⟩=false):=fun Z hZ=>by
  have e:=HR.out Z hZ;exact⟨⟨by rw[cell_of_row _ _ _ _ 36 _ e];rfl,by rw[cell_of_row _ _ _ _ 36 _ e];rfl,by rw[cell_of_row _ _ _ _ 36 _ e];rfl,by rw[cell_of_row _ _ _ _ 36 _ e];rfl,by rw[cell_of_row _ _ _ _ 36 _ e];rfl⟩,fun i=>frozen_of_row _ _ _ _ 36 e⟩
 have HBad:Hid (WhyNot n k ask tell back ge bud l→∀Z,Below w1.heap.size w1 Z→∀T x,RunTold n k ask tell back ti ge bud l w (.returned (.tuple #[rep0,.iface T x])) (set5 Z (w.heap.size+1) (.string ⟨#[]⟩) (.slice none 0 0) (.int .i64 0) (.slice none 0 0) (.int .i64 0))):=fun hr Z hZ T x=>.inl ⟨T,x,rfl,hr,set5_bel (HBw.out Z hZ) (Nat.le_succ _) _ _ _ _ _⟩
 have hKz:=hideIt (fun Z (hZ:Below w1.heap.size w1 Z)=>hK.below hpos (HBw.out Z hZ));have HV:=hideIt hv;have HL:=hideIt hl;have hb0:Below w1.heap.size w1 w1:=Below.refl _ _;obtain⟨a0,a1,a2,a3,a4,a5,a6,a7⟩:=HA.out _ hb0;obtain⟨⟨r0,r1,r2,r3,r4⟩,rf⟩:=HRc.out _ hb0;have f0:=rf 0;have f1:=rf 1;have f2:=rf 2;have f3:=rf 3;have f4:=rf 4;have HLen:Hid (l.length≤250∧l.length≤cap):=⟨h250,hcap⟩;clear hb1 hP1 hR1 HW1 hv hl hK hpos rf hcap h250;cases hbd:okBud bud with
 | false=>
  have HBd:Hid (okBud bud=false):=hbd;rw[hbd] at HB;clear HV HL hKz;have hlen':decide ((l.length:Int) > 2000)=false:=by have:=HLen.out.1;simp;omega
  clear HLen hlen;go_wp2_with fail
  refine(HB.out _).mono ?_;rintro e w2 ⟨rfl,rfl⟩;go_wp2;change bodyPost _ _ _ _ _ (set5 w2 (w.heap.size+1) (.string ⟨#[]⟩) (.slice none 0 0) (.int .i64 0) (.slice none 0 0) (.int .i64 0));refine bodyPost_ret (Gn.results_two rfl _ _ _ _ rfl (loadR (set5_row (HR.out _ hb0)))) rfl ?_;exact HBad.out (.inl HBd.out) _ hb0 _ _
 | true=>
  rw[hbd] at HB;have hlen':decide ((l.length:Int) > 2000)=false:=by have:=HLen.out.1;simp;omega
  by_cases hc:¬St.checkC n k ask tell=0
  ·have HN:=hideIt (fun Z=>St.new_bad n k ask tell back Z hc);have hE:St.toldE (St.checkC n k ask tell)=.iface 55 (.int .i64 (St.checkC n k ask tell)):=by unfold St.toldE;rw[if_neg hc]
   rw[hE] at HN;have HC0:Hid (WhyNot n k ask tell back ge bud l):=.inr (.inl hc);clear HV HL hKz HLen hlen hc hE;generalize St.checkC n k ask tell=cc at*
   go_wp2_with fail
   refine(HB.out _).mono ?_;rintro e w2 ⟨rfl,rfl⟩;go_wp2_with fail
   refine(HN.out _).mono ?_;rintro e W3 ⟨rfl,hb3⟩;obtain⟨⟨r0,r1,r2,r3,r4⟩,rf⟩:=HRc.out _ hb3;have f0:=rf 0;have f1:=rf 1;have f2:=rf 2;have f3:=rf 3;have f4:=rf 4;have HB3:=hideIt hb3;clear rf hb3 HN HB;go_wp2;change bodyPost _ _ _ _ _ (set5 W3 (w.heap.size+1) (.string ⟨#[]⟩) (.slice none 0 0) (.int .i64 0) (.slice none 0 0) (.int .i64 0));refine bodyPost_ret (Gn.results_two rfl _ _ _ _ rfl (loadR (set5_row (HR.out _ HB3.out)))) rfl ?_;exact HBad.out HC0.out _ HB3.out _ _
  replace hc:St.checkC n k ask tell=0:=Classical.not_not.1 hc;obtain⟨hn,hk,ha,ht⟩:=St.checkC_ok hc;obtain⟨nn,rfl⟩:∃x:Nat,n=x:=⟨n.toNat,by omega⟩;obtain⟨kk,rfl⟩:∃x:Nat,k=x:=⟨k.toNat,by omega⟩;obtain⟨aa,rfl⟩:∃x:Nat,ask=x:=⟨ask.toNat,by omega⟩;obtain⟨tt,rfl⟩:∃x:Nat,tell=x:=⟨tell.toNat,by omega⟩;have HN:=hideIt (fun Z=>St.new_any nn kk aa tt back Z hc);have HIni:=hideIt (ini0 (ask:=aa) (tell:=tt) back (show 1≤nn by omega) (show nn≤7 by omega) (show kk≤8 by omega));have HCc:=hideIt (And.intro hbd hc);clear hc hn hk ha ht hbd;go_wp2_with fail
  refine(HB.out _).mono ?_;rintro e w2 ⟨rfl,rfl⟩;go_wp2_with fail
  refine(HN.out _).mono ?_;rintro e W3 ⟨B,N,C,rfl,hnw⟩;have hb3:=hnw.bel;have hst:=St.sto_new hnw;have HSt:=hideIt hst;have HB3:=hideIt hb3;obtain⟨a0,a1,a2,a3,a4,a5,a6,a7⟩:=HA.out _ hb3;have HPs:=hideIt (Gn.parse_any ge W3 (HV.out.fr (Gn.fr_below (HBw.out _ hb3) []) (by simp) (by simp)));clear hnw hst hb3 HN HB r0 r1 r2 r3 r4 f0 f1 f2 f3 f4;go_wp2_with fail
  refine HPs.out.mono ?_;rintro e W4 hps;rcases hps with ⟨g,v,bs,hg1,rfl,hg2,hg3,hfr⟩ | ⟨hg1,Ty,x,rfl,hfr⟩
  ·have hb34:=hfr.below (base:=W3.heap.size) (Nat.le_refl _) (by simp);have hb4:=St.belJ HB3.out hb34;have hst4:=HSt.out.below hb34;have hown:∀y,(St.stK0 B N C).own kk y→y < W3.heap.size:=fun y hy=>(HSt.out.own_lt hy).2
   have htr:=tr_start (a:=a) (cap:=cap) (l:=l) (ti:=ti) (ge:=Gn.ba ge) (bud:=bud) hst4 hg2 HB3.out.size ⟨hown B (.inl rfl),hown N (.inr (.inl rfl)),hown C (.inr (.inr (.inl rfl)))⟩ hg3 HLen.out.2 (HL.out.imp id fun⟨b,off,e,hb,hx⟩=>⟨b,off,e,by have:=(HBw.out _ hb0).size;omega,fun i hi=>((HBw.out _ hb4).cell (p:=⟨b,off+i,none⟩) hb).trans (hx i hi)⟩);obtain⟨hd,hwt⟩:=Gn.parseF_reads hg1;have hgd:Gd (St.pst0 nn kk aa tt back) (sto0 nn kk aa tt back) 0 (T00 nn kk aa tt back g l):=gd0 hd hwt;obtain⟨Ty,x,F,hM⟩:=Gn.met_of hg2;have hsh:=hM.shape;subst hsh;have HTr:=hideIt htr;have HGd:=hideIt hgd;have HG1:=hideIt hg1;have HB4:=hideIt hb4;obtain⟨a0,a1,a2,a3,a4,a5,a6,a7⟩:=HA.out _ hb4;clear htr hgd hg1 hd hwt hM hg2 hg3 hfr hb34 hb4 hst4 hown HPs HSt HL HV hlen hlen';go_wp2
   go_loopg [] (l.length) (fun g' wx=>RI w2 W4.heap.size (.iface Ty x) ti bud (St.pst0 nn kk aa tt back) (sto0 nn kk aa tt back) (T00 nn kk aa tt back g l) l.length g' wx)
   case atStart=>exact⟨_,0,_,bs,rfl,HTr.out,HGd.out,Nat.zero_le _,Nat.zero_le _,fun _ h=>h⟩
   case round=>
    obtain⟨T,b,K,bs2,rfl,h,hG,hbu,hbl,hM⟩:=hrel;clear HTr HGd a0 a1 a2 a3 a4 a5 a6 a7;have HUs:=hideIt (used_any h);by_cases hlt:T.t.u < l.length
    ·have hlt':decide ((T.t.u:Int) < (l.length:Int))=true:=decide_eq_true (by omega);obtain⟨d,hI⟩:=hG.inv HIni.out (by have:=HLen.out.1;omega);have HMv:=hideIt (moveT_any h hI hG.rch.bg (by have:=hG.u;have:=hG.rch.wt;have:=HLen.out.1;omega));have hmono:=moveF_mono T;have HX:=hideIt (And.intro (hG.move) (And.intro hmono (And.intro (fun T' (ht:Mvd l.length (moveF T) T')=>hM T' (.step hlt ht)) (And.intro hbu hlt))));clear h hG hbu hbl hM hI hmono;go_wp2_with fail
     refine HUs.out.mono ?_;rintro e W5 ⟨rfl,rfl⟩;go_wp2_with fail
     refine HMv.out.mono ?_;rintro e W6 ⟨rfl,K',bs',h6⟩;have H6:=hideIt h6;clear h6 HMv HUs hlt';go_wp2
     go_roundg (l.length - (moveF T).t.u)
     case measure=>have:=HX.out.2.1;omega
     case rel=>exact⟨_,b+1,K',bs',rfl,H6.out,HX.out.1,by have:=HX.out.2.1;have:=HX.out.2.2.2.1;omega,by have:=HX.out.2.2.2.1;omega,HX.out.2.2.1⟩
    ·have hlt':decide ((T.t.u:Int) < (l.length:Int))=false:=decide_eq_false (by omega);have HMd:=hideIt (hM T (.done T (by omega)));have HFi:=hideIt (finish_any h HIni.out hG (by have:=HLen.out.1;omega));have hle:l.length≤T.t.u:=by omega
     clear h hG hbu hbl hM;go_wp2_with fail
     refine HUs.out.mono ?_;rintro e W5 ⟨rfl,rfl⟩;go_wp2_with fail
     refine HFi.out.mono ?_;rintro e W7 ⟨rfl,K2,bs3,T2,b2,hb2,h7,hG7,hF7⟩;have hb7:=h7.st.bel;have h9:T2.p.evs.length≤9000:=by
      obtain⟨c,hI⟩:=hG7.inv HIni.out (by omega);exact hI.bnd.ev
     have HRp:=hideIt (report_any h7 h9 (Nat.le_trans hG7.cb hG7.rch.bg) (hKz.out _ hb7));have HB7:=hideIt hb7;have HG7:=hideIt (And.intro hb2 (And.intro hG7 hF7));clear h7 hb7 h9 hG7 hF7 HFi HUs hb2;go_wp2_with fail
     refine HRp.out.mono ?_;rintro e W8 (⟨Ty8,x8,rfl,hno,hb8⟩ | ⟨hgood,hb8,v',L,ho,hO,h40,ov,rfl,ho1,ho2⟩)
     ·have hb18:=St.belJ HB7.out hb8;have HB18:=hideIt hb18;have HWhy:Hid (WhyNot (nn:Int) kk aa tt back ge bud l):=.inr (.inr (.inr ⟨nn,kk,aa,tt,b2,g,T,T2,rfl,rfl,rfl,rfl,HG1.out,HMd.out,HG7.out.2.2,HG7.out.2.1,hno⟩));obtain⟨⟨r0,r1,r2,r3,r4⟩,rf⟩:=HRc.out _ hb18;have f0:=rf 0;have f1:=rf 1;have f2:=rf 2;have f3:=rf 3;have f4:=rf 4;clear rf hb18 hb8 hno HRp;unfold rep0;go_wp2;change bodyPost _ _ _ _ _ (set5 W8 (w.heap.size+1) (.string ⟨#[]⟩) (.slice none 0 0) (.int .i64 0) (.slice none 0 0) (.int .i64 0));refine bodyPost_ret (Gn.results_two rfl _ _ _ _ rfl (loadR (set5_row (HR.out _ HB18.out)))) rfl ?_;exact HBad.out HWhy.out _ HB18.out _ _
     have HGood:=hideIt hgood;clear hgood;obtain⟨va,vc,rfl⟩:=St.ownsRow_slice ho;obtain⟨oa,on,oc,rfl⟩:∃a n c,ov=.slice a n c:=by
      by_cases h1:(searchM (srB 1 L bud.toNat)).code=1
      ·obtain⟨a,c,e⟩:=St.ownsRow_slice (ho1 h1);exact⟨a,_,c,e⟩
      ·exact⟨none,0,0,ho2 h1⟩
     have hb18:=St.belJ HB7.out hb8;have HO:=hideIt (And.intro ho (And.intro hO (And.intro h40 (And.intro ho1 ho2))));have HB18:=hideIt hb18;have HSz:Hid (w.heap.size+1 < W7.heap.size):=lt_of_heap (HR.out _ HB7.out);obtain⟨⟨r0,r1,r2,r3,r4⟩,rf⟩:=HRc.out _ hb18;have f0:=rf 0;have f1:=rf 1;have f2:=rf 2;have f3:=rf 3;have f4:=rf 4;clear rf hb18 hb8 ho hO h40 ho1 ho2 HRp;generalize hsr:searchM (srB 1 L bud.toNat)=sr at*
     have HSr:=hideIt hsr;clear hsr;go_wp2;change bodyPost _ _ _ _ _ (set5 W8 (w.heap.size+1) (.string ti) (.slice va T2.p.evs.length vc) (.int .i64 (sr.code:Int)) (.slice oa on oc) (.int .i64 (sr.ent.length:Int)));refine bodyPost_ret (Gn.results_two rfl _ _ _ _ rfl (loadR (set5_row (HR.out _ HB18.out)))) rfl ?_;have hkp:∀b,W7.heap.size≤b→(set5 W8 (w.heap.size+1) (.string ti) (.slice va T2.p.evs.length vc) (.int .i64 (sr.code:Int)) (.slice oa on oc) (.int .i64 (sr.ent.length:Int))).heap[b]?=W8.heap[b]?:=fun b hb=>set5_oth _ _ _ _ _ _ _ b (by have:=HSz.out;omega)
     have hwz:w.heap.size≤W7.heap.size:=by have:=HSz.out;omega
     refine .inr ⟨HCc.out.1,nn,kk,aa,tt,rfl,rfl,rfl,rfl,HCc.out.2,g,T,T2,b2,HG1.out,HMd.out,HG7.out.2.2,HG7.out.1,HG7.out.2.1,HGood.out,set5_bel (HBw.out _ HB18.out) (Nat.le_succ _) _ _ _ _ _,_,L,ownsRow_base (own_oth HO.out.1 hkp) hwz,HO.out.2.1,HO.out.2.2.1,_,by rw[HSr.out];rfl,?_,?_⟩
     ·rw[HSr.out];exact fun h=>ownsRow_base (own_oth (HO.out.2.2.2.1 h) hkp) hwz
     ·rw[HSr.out];exact HO.out.2.2.2.2
  ·have hb4:=St.belJ HB3.out (hfr.below (base:=W3.heap.size) (Nat.le_refl _) (by simp));obtain⟨⟨r0,r1,r2,r3,r4⟩,rf⟩:=HRc.out _ hb4;have f0:=rf 0;have f1:=rf 1;have f2:=rf 2;have f3:=rf 3;have f4:=rf 4;have HB4:=hideIt hb4;have HG0:=hideIt hg1;clear rf hb4 hfr HPs HSt hg1;go_wp2;change bodyPost _ _ _ _ _ (set5 W4 (w.heap.size+1) (.string ⟨#[]⟩) (.slice none 0 0) (.int .i64 0) (.slice none 0 0) (.int .i64 0));refine bodyPost_ret (Gn.results_two rfl _ _ _ _ rfl (loadR (set5_row (HR.out _ HB4.out)))) rfl ?_;exact HBad.out (.inr (.inr (.inl HG0.out))) _ HB4.out _ _
end Go.Proofs.YtjpklmighoondaaGreatDoor.Fa
