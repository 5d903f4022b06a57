/-
  What next gives: how it is called, and a limit.
  Regions that draw their order, with loads whose cells a later store of the same region turns: all that waits for such a load is named (B); till one of B has come up a second condition is held. (Nothing of the program in it.)
  slices.Delete at generators.
-/
import Derived.Test.YtjpklmighoondaaGreatDoorSwOY
import Derived.Shelf.Abstract
import Derived.Deep.RegionHeld3
import Derived.Test.YtjpklmighoondaaGreatDoorFieldsQY
import Derived.Test.YtjpklmighoondaaGreatDoorGnHY
import Derived.Laws.AppendOwn
import Derived.ArgAppend
import Derived.Deep.DeepCutAuto
set_option maxRecDepth 100000
namespace Go.Proofs.YtjpklmighoondaaGreatDoor.Gn
open Go.RowKit Go.Shelf
theorem Parts.all {P:Value→Gt→List Nat→Prop} {q:Nat→Prop} {vs:List Value} {gs:List Gt} {cs:List Nat} (h:Parts P vs gs cs) (k:∀v g bs,P v g bs→∀b∈bs,q b):∀b∈cs,q b:=by
 induction h with
 | nil=>simp
 | cons h hs ha ih=>
  intro b hb;rcases List.mem_append.1 hb with hb | hb
  ·exact k _ _ _ h b hb
  ·exact ih b hb
theorem GAt.in_:∀{n:Nat} {w:World} {base:Nat} {v:Value} {g:Gt} {bs:List Nat},GAt n w base v g bs→∀b∈bs,base≤b∧b < w.heap.size
 | 0,_,_,_,_,_,h=>h.elim
 | _+1,_,_,_,.rd _,_,h=>by rw[h.2];simp
 | _+1,_,_,_,.wr _ _ _,_,h=>by rw[h.2.1];simp
 | n+1,w,base,v,.lim g left,bs,h=>by
  obtain⟨b,u,cs,h1,rfl,h2,h3,h4,h5,h6,h7,h8⟩:=h;intro c hc;rcases List.mem_cons.1 hc with rfl | hc
  ·exact⟨h2,World.block_lt_of_cell? w _ h4⟩
  ·exact h8.in_ c hc
 | n+1,w,base,v,.mix l,bs,h=>by
  obtain⟨b,g,cap,us,cs,h1,rfl,h2,h3,h4,h5,h6,h7,h8,h9,h10⟩:=h;intro c hc;rcases List.mem_cons.1 hc with rfl | hc
  ·exact⟨h2,World.block_lt_of_cell? w _ h6⟩
  rcases List.mem_cons.1 hc with rfl | hc
  ·rcases h8.2 with ⟨e,_⟩ | ⟨g',cap',cur,e,e1,e2,_⟩
   ·cases e
   ·cases e;exact⟨e1,(Array.getElem?_eq_some_iff.1 e2).1⟩
  ·exact h10.all (fun v g bs hp=>hp.in_) c hc
 | n+1,w,base,v,.thn l,bs,h=>by
  obtain⟨b,r,g,us,cs,h1,rfl,h2,h3,h4,h5,h6,h7,⟨o,cap,r1,r2,r3,r4,r5,r6⟩,h9,h10⟩:=h;intro c hc;rcases List.mem_cons.1 hc with rfl | hc
  ·exact⟨h2,World.block_lt_of_cell? w _ h6⟩
  rcases List.mem_cons.1 hc with rfl | hc
  ·exact⟨r4,r5⟩
  ·exact h10.all (fun v g bs hp=>hp.in_) c hc
theorem GAt.fr {n:Nat} {w w':World} {base:Nat} {v:Value} {g:Gt} {bs X:List Nat} (h:GAt n w base v g bs) (hg:Fr X w w') (hX:∀b∈bs,b∉X):GAt n w' base v g bs:=
 h.low (fun b hb=>hg.block b (h.in_ b hb).2 (hX b hb)) hg.size
theorem nil_rd (a : Value) (w : World) : (nilAhead 526 182 (.agg #[a]) "Next").run Tryz.prog w = .ok (some false) w := by kernel_rfl
theorem met_rd (a : Value) (w : World) : (method 526 182 (.agg #[a]) "Next").run Tryz.prog w = .ok (315, .agg #[a]) w := by kernel_rfl
theorem nil_wr (a b c : Value) (w : World) : (nilAhead 526 248 (.agg #[a, b, c]) "Next").run Tryz.prog w = .ok (some false) w := by kernel_rfl
theorem met_wr (a b c : Value) (w : World) : (method 526 248 (.agg #[a, b, c]) "Next").run Tryz.prog w = .ok (320, .agg #[a, b, c]) w := by kernel_rfl
theorem nil_lim (a : Addr) (w : World) : (nilAhead 526 184 (.pointer (some a)) "Next").run Tryz.prog w = .ok (some false) w := by kernel_rfl
theorem met_lim (a : Addr) (w : World) : (method 526 184 (.pointer (some a)) "Next").run Tryz.prog w = .ok (316, .pointer (some a)) w := by kernel_rfl
theorem nil_mix (a : Addr) (w : World) : (nilAhead 526 187 (.pointer (some a)) "Next").run Tryz.prog w = .ok (some false) w := by kernel_rfl
theorem met_mix (a : Addr) (w : World) : (method 526 187 (.pointer (some a)) "Next").run Tryz.prog w = .ok (317, .pointer (some a)) w := by kernel_rfl
theorem nil_thn (a : Addr) (w : World) : (nilAhead 526 192 (.pointer (some a)) "Next").run Tryz.prog w = .ok (some false) w := by kernel_rfl
theorem met_thn (a : Addr) (w : World) : (method 526 192 (.pointer (some a)) "Next").run Tryz.prog w = .ok (319, .pointer (some a)) w := by kernel_rfl
theorem ent_rd (args:Array Value) (w:World):(callFunc 315 args).run Tryz.prog w=.ok (.enter 315 args) w:=enters_of Tryz.func315 (by kernel_rfl) rfl args w
theorem ent_wr (args:Array Value) (w:World):(callFunc 320 args).run Tryz.prog w=.ok (.enter 320 args) w:=enters_of Tryz.func320 (by kernel_rfl) rfl args w
theorem ent_lim (args:Array Value) (w:World):(callFunc 316 args).run Tryz.prog w=.ok (.enter 316 args) w:=enters_of Tryz.func316 (by kernel_rfl) rfl args w
theorem ent_mix (args:Array Value) (w:World):(callFunc 317 args).run Tryz.prog w=.ok (.enter 317 args) w:=enters_of Tryz.func317 (by kernel_rfl) rfl args w
theorem ent_thn (args:Array Value) (w:World):(callFunc 319 args).run Tryz.prog w=.ok (.enter 319 args) w:=enters_of Tryz.func319 (by kernel_rfl) rfl args w
theorem met_of:∀{n:Nat} {w:World} {base:Nat} {v:Value} {g:Gt} {bs:List Nat},GAt n w base v g bs→∃T x F,MetOk v T x F
 | 0,_,_,_,_,_,h=>h.elim
 | _+1,_,_,_,.rd _,_,h=>⟨_,_,_,h.1,nil_rd _,met_rd _,ent_rd⟩
 | _+1,_,_,_,.wr _ _ _,_,h=>⟨_,_,_,h.1,nil_wr _ _ _,met_wr _ _ _,ent_wr⟩
 | _+1,_,_,_,.lim _ _,_,h=>by
  obtain⟨b,u,cs,h1,_⟩:=h;exact⟨_,_,_,h1,nil_lim _,met_lim _,ent_lim⟩
 | _+1,_,_,_,.mix _,_,h=>by
  obtain⟨b,g,cap,us,cs,h1,_⟩:=h;exact⟨_,_,_,h1,nil_mix _,met_mix _,ent_mix⟩
 | _+1,_,_,_,.thn _,_,h=>by
  obtain⟨b,r,g,us,cs,h1,_⟩:=h;exact⟨_,_,_,h1,nil_thn _,met_thn _,ent_thn⟩
theorem MetOk.one {v:Value} {T S:TypeId} {x y:Value} {F G:FuncId} (h:MetOk v T x F) (k:MetOk v S y G):S=T∧y=x∧G=F:=by
 have e:=k.shape.symm.trans h.shape;injection e with e1 e2
 subst e1 e2;have e3:=(k.met default).symm.trans (h.met default);injection e3 with e3 _
 injection e3 with e3 _
 exact⟨rfl,rfl,e3⟩
theorem clV_form (c:Option Cl):∃q k v,clA c=.agg #[.bool q,.int .i64 k,.int .i64 v]:=by
 cases c with
 | none=>exact⟨_,_,_,rfl⟩
 | some c=>exact⟨_,_,_,rfl⟩
def AllNx (n:Nat):Prop:=∀(base B o:Nat) (t:Tp) (w:World) (v:Value) (g:Gt) (bs:List Nat),GAt n w base v g bs→TpAt w base B o t→B∉bs→t.u+wtF n g≤1000000000→∀T x F,MetOk v T x F→Calls Tryz.prog F #[x,.pointer (some ⟨B,o,none⟩)] w (NxTold n base B o t w v g bs)
set_option maxHeartbeats 4000000 in
theorem limit_next {n:Nat} (ih:AllNx n) (base B o b:Nat) (t:Tp) (w:World) (g:Gt) (left:Nat) (bs:List Nat) (h:GAt (n+1) w base (.iface 184 (.pointer (some ⟨b,0,none⟩))) (.lim g left) bs) (ht:TpAt w base B o t) (hB:B∉bs) (hu:t.u+wtF n g≤1000000000):
  Calls Tryz.prog 316 #[.pointer (some ⟨b,0,none⟩),.pointer (some ⟨B,o,none⟩)] w (NxTold (n+1) base B o t w (.iface 184 (.pointer (some ⟨b,0,none⟩))) (.lim g left) bs):=by
 have HH:=hideIt h;have HT:=hideIt ht;obtain⟨b',u,cs,e1,rfl,h2,h3,h4,h5,h6,h7,h8⟩:=h;cases e1;have HG:=hideIt h8;obtain⟨T,x,F,hM⟩:=met_of h8;have hsh:=hM.shape;subst hsh;have hnil:=hM.nil;have hmet:=hM.met;have hent:=hM.ent;have HM:=hideIt hM;have hBb:B≠b:=fun e=>hB (by simp[e])
 have hBc:B∉cs:=fun e=>hB (by simp[e])
 have hblt:b < w.heap.size:=World.block_lt_of_cell? w _ h4;have hBlt:=ht.lt;clear h8 ht hM;cases left with
 | zero=>
  have HN:Hid (nextF (n+1) (.lim g 0) t=⟨none,.lim g 0,t⟩):=hideIt (by simp[nextF]);have hr:=heap_new w (.cells #[.bool false,.int .i64 0,.int .i64 0] 195);have hfr:Fr [] w (w.alloc (.cells #[.bool false,.int .i64 0,.int .i64 0] 195)):=Fr.alloc _ _ _;have HF:=hideIt hfr;have HR:=hideIt hr;clear hfr hr;go_enter Tryz.func316,Tryz.ntmps316
  go_wp2;obtain⟨z0,z1,z2⟩:=blk3 HR.out;have hF2:=HF.out;exact bodyPost_ret (results_two rfl _ _ _ _ rfl (loadCl z0 z1 z2)) rfl ⟨by rw[HN.out];rfl,by rw[HN.out];exact HT.out.fr hF2 (by simp) (by simp),by rw[HN.out];exact⟨_,HH.out.fr hF2 (by simp),fun _ h=>h⟩,hF2.more (by simp),fun p hp _=>oth_of hF2 hBlt (by simp) p hp⟩
 | succ k=>
  have HN:Hid (nextF (n+1) (.lim g (k+1)) t=⟨(nextF n g t).c,.lim (nextF n g t).g k,(nextF n g t).t⟩):=hideIt (by simp[nextF]);have hne:(((k+1:Nat):Int)==0)=false:=by simp;omega
  have HF1:Hid (Fr [b] w ((w.setCell ⟨b,1,none⟩ (.int .i64 (k:Nat))).alloc (.cells #[.bool false,.int .i64 0,.int .i64 0] 195))):=(Fr.set w ⟨b,1,none⟩ _ (by simp)).trans (Fr.alloc _ _ _);have HC1:Hid (((w.setCell ⟨b,1,none⟩ (.int .i64 (k:Nat))).alloc (.cells #[.bool false,.int .i64 0,.int .i64 0] 195)).cell? ⟨b,1,none⟩=some (.int .i64 (k:Nat))):=(World.cell?_alloc_lt _ _ _ (by simpa [World.setCell] using hblt)).trans (World.cell?_setCell_same' _ _ _ (by rw[h5];rfl));have HC0:Hid (((w.setCell ⟨b,1,none⟩ (.int .i64 (k:Nat))).alloc (.cells #[.bool false,.int .i64 0,.int .i64 0] 195)).cell? ⟨b,0,none⟩=some (.iface T x)):=(World.cell?_alloc_lt _ _ _ (by simpa [World.setCell] using hblt)).trans ((World.cell?_setCell_other _ _ _ _ (offN (by omega))).trans h4);have HZ1:Hid (((w.setCell ⟨b,1,none⟩ (.int .i64 (k:Nat))).alloc (.cells #[.bool false,.int .i64 0,.int .i64 0] 195)).frozen? ⟨b,1,none⟩=false):=by
   show _=_;rw[World.frozen?_alloc_old _ _ _ (Nat.ne_of_lt (by simpa [World.setCell] using hblt)),frozen_setCell];exact h6
  have HR1:Hid (((w.setCell ⟨b,1,none⟩ (.int .i64 (k:Nat))).alloc (.cells #[.bool false,.int .i64 0,.int .i64 0] 195)).heap[w.heap.size]?=some (.cells #[.bool false,.int .i64 0,.int .i64 0] 195)):=by
   have:=heap_new (w.setCell ⟨b,1,none⟩ (.int .i64 (k:Nat))) (.cells #[.bool false,.int .i64 0,.int .i64 0] 195);rw[show (w.setCell ⟨b,1,none⟩ (.int .i64 (k:Nat))).heap.size=w.heap.size by simp[World.setCell]] at this;exact this
  have HS1:Hid (((w.setCell ⟨b,1,none⟩ (.int .i64 (k:Nat))).alloc (.cells #[.bool false,.int .i64 0,.int .i64 0] 195)).heap.size=w.heap.size+1):=by show _=_;simp[World.setCell]
  go_enter Tryz.func316,Tryz.ntmps316
  go_wp2_with fail
  generalize (w.setCell ⟨b,1,none⟩ (.int .i64 (k:Nat))).alloc (.cells #[.bool false,.int .i64 0,.int .i64 0] 195)=W1 at*
  have hT1:=HT.out.fr HF1.out (by simp[hBb]) (by simp[h2]);have hG1:=HG.out.fr HF1.out (fun c hc e=>by simp at e;exact h3 (e▸hc));refine(ih base B o t W1 _ g cs hG1 hT1 hBc hu T x F HM.out).mono ?_;rintro y W2 ⟨rfl,hT2,⟨cs',hG2,hcs⟩,hF2,hO2⟩;obtain⟨q,kk,vv,hcl⟩:=clV_form (nextF n g t).c;have hBW:=hT1.lt;have hno:∀y∈B::cs,y≠w.heap.size:=fun y hy e=>by
   subst e;rcases List.mem_cons.1 hy with e | e
   ·omega
   ·have:=(HG.out.in_ _ e).2;omega
  have hbn:b∉B::cs:=by simp[h3,Ne.symm hBb]
  have hs1:=HS1.out;have hbk2:=hF2.block b (by omega) hbn;have hr2:=(hF2.block w.heap.size (by omega) (fun e=>hno _ e rfl)).trans HR1.out;obtain⟨z0,z1,z2⟩:=blk3 hr2;have f0:=frozen_of_row W2 w.heap.size 0 _ 195 hr2;have f1:=frozen_of_row W2 w.heap.size 1 _ 195 hr2;have f2:=frozen_of_row W2 w.heap.size 2 _ 195 hr2;have HT2:=hideIt hT2;have HG2:=hideIt hG2;have HF2:=hideIt hF2;have HO2:=hideIt hO2;have HC2:=hideIt hcl;have HBK:=hideIt hbk2;unfold clV;rw[hcl];generalize hok:(nextF n g t).c.isSome=ok;have HOk:=hideIt hok;clear hT1 hG1 hT2 hG2 hF2 hO2 hcl hbk2 hr2 hok;go_wp2;change bodyPost _ _ _ _ _ (set3 W2 w.heap.size (.bool q) (.int .i64 kk) (.int .i64 vv));have hld:=load_set3 (a:=.bool q) (b:=.int .i64 kk) (c:=.int .i64 vv) z0 z1 z2;have hF02:Fr (B::b::cs) w W2:=(HF1.out.more (by simp)).trans (HF2.out.more (fun y hy=>.inl (by simp at hy ⊢;rcases hy with h | h<;>simp[h])));have hFs:=fr_set3 hF02 (Nat.le_refl _) (.bool q) (.int .i64 kk) (.int .i64 vv);have hF3:=fr_set3' W2 w.heap.size (.bool q) (.int .i64 kk) (.int .i64 vv);have hOs:=oth_set3 W2 w.heap.size (.bool q) (.int .i64 kk) (.int .i64 vv);have hbs:=w.heap.size;have hlo:=HT.out.lo;generalize set3 W2 w.heap.size (.bool q) (.int .i64 kk) (.int .i64 vv)=W3 at*
  have hb3:W3.heap[b]?=W1.heap[b]?:=(hF3.block b (Nat.lt_of_lt_of_le hblt hF02.size) (by simp;omega)).trans HBK.out;refine bodyPost_ret (results_two rfl _ _ _ _ rfl hld) rfl ⟨?_,?_,?_,hFs,?_⟩
  ·rw[HN.out];show Ending.returned _=.returned (.tuple #[clA (nextF n g t).c,.bool (nextF n g t).c.isSome]);rw[HC2.out,HOk.out];rfl
  ·rw[HN.out];exact HT2.out.fr hF3 (by simp;omega) (by simp;omega)
  ·rw[HN.out];refine⟨b::cs',⟨b,.iface T x,cs',rfl,rfl,h2,fun e=>h3 (hcs b e),(World.cell?_of_block (a:=⟨b,0,none⟩) hb3).trans HC0.out,(World.cell?_of_block (a:=⟨b,1,none⟩) hb3).trans HC1.out,(World.frozen?_of_block (a:=⟨b,1,none⟩) hb3).trans HZ1.out,by omega,HG2.out.fr hF3 (fun c hc e=>?_)⟩,fun c hc=>?_⟩
   ·simp at e;have:=(HG.out.in_ c (hcs c hc)).2;omega
   ·rcases List.mem_cons.1 hc with h | h
    ·simp[h]
    ·simp[hcs c h]
  ·intro p hp hq;obtain⟨a1,a2⟩:=hOs p (by rw[hp];omega);obtain⟨b1,b2⟩:=HO2.out p hp hq;obtain⟨c1,c2⟩:=oth_of HF1.out hBlt (by simp[hBb]) p hp;exact⟨a1.trans (b1.trans c1),a2.trans (b2.trans c2)⟩
section
variable {P : Program} {ops : Array Oper} {Q : Exit → Act → World → Prop} {md : Region.Mode} {B : List Nat} {S T : World → Prop}
def Fresh (B:List Nat) (listed:Array Bool):Prop:=∀b∈B,listed.getD b true=false
def freshB (B:List Nat) (listed:Array Bool):Bool:=B.all fun b=> !listed.getD b true
theorem fresh_iff {B:List Nat} {listed:Array Bool} :freshB B listed=true↔Fresh B listed:=by simp[freshB,Fresh]
def wpAnyL (P:Program) (md:Region.Mode) (ops:Array Oper) (Q:Exit→Act→World→Prop) (B:List Nat) (S T:World→Prop):Nat→Array Bool→Act→World→Prop
 | 0,listed,a,w=>Region.ready md ops listed= []∧Q .normal a w
 | n+1,listed,a,w=>(Region.ready md ops listed= []→Q .normal a w)∧
  ∀i∈Region.ready md ops listed,wpOp P ops Q i (fun a' w'=>(S w'∧(Fresh B (listed.setIfInBounds i true)→T w'))∧wpAnyL P md ops Q B S T n (listed.setIfInBounds i true) a' w') a w
theorem wpAny_of_L:∀(n:Nat) (listed:Array Bool) (a:Act) (w:World),wpAnyL P md ops Q B S T n listed a w→wpAny P md ops Q n listed a w
 | 0,_,_,_,h=>h
 | n+1,_,_,_,h=>⟨h.1,fun i hi=>wpOp_mono (fun a' w' h'=>wpAny_of_L n _ a' w' h'.2) (h.2 i hi)⟩
theorem unlisted {i:Nat} {listed:Array Bool} (h0:listed.getD i true=false):listed.getD i false=false:=by
 rcases Nat.lt_or_ge i listed.size with h' | h'
 ·simp[h'] at h0 ⊢;exact h0
 ·simp[Array.getElem?_eq_none h']
theorem wpAnyL_firstS {i:Nat} {oi:Oper} {v:Value} (hi:ops[i]?=some oi) (hsel:∀(j:Nat) (o:Oper) cs b,ops[j]?=some o→o.op≠.select cs b)
  (hQ:∀c a w,Q (.panic c) (a.put oi.dst v) w→Q (.panic c) a w) (hB:i∉B):
  ∀(n:Nat) (listed:Array Bool) (a:Act) (w:World),
   (∀j oj,ops[j]?=some oj→j≠i→listed.getD j true=false→(∀e∈oj.after,Region.binds md e=true→e.on≠i)→oi.apart ops oj=true)→
   i∈Region.ready md ops listed→YieldsIf P ops S oi v a→S w→(Fresh B listed→T w)→
   wpAnyL P md ops Q B S T n (listed.setIfInBounds i true) (a.put oi.dst v) w→wpAnyL P md ops Q B S T (n+1) listed a w:=by
 have hback:∀listed,Fresh B (listed.setIfInBounds i true)→Fresh B listed:=fun listed h b hb=>by
  have e2:i≠b:=fun h=>hB (by rw[h];exact hb)
  have:=h b hb
  rwa [getD_set_ne true e2] at this
 intro n
 induction n with
 | zero=>
  intro listed a w _ hr hy hS hT H;refine⟨fun h=>(by rw[h] at hr;cases hr),fun j hj=>?_⟩;by_cases e:j=i
  ·subst e;exact hy.wpOp hi hS ⟨⟨hS,fun hf=>hT (hback _ hf)⟩,H⟩
  ·have:=ready_mono hj e;rw[H.1] at this;cases this
 | succ n ih=>
  intro listed a w hfree hr hy hS hT H;refine⟨fun h=>(by rw[h] at hr;cases hr),fun j hj=>?_⟩;by_cases e:j=i
  ·subst e;exact hy.wpOp hi hS ⟨⟨hS,fun hf=>hT (hback _ hf)⟩,H⟩
  ·obtain⟨hju,oj,hoj,hall⟩:=mem_ready.1 hj;have hun:=unlisted (mem_ready.1 hr).1;have hno:∀x∈oj.after,Region.binds md x=true→x.on≠i:=fun x hx hb he=>by
    have:=hall x hx hb;rw[he,hun] at this;cases this
   have hF2:Fresh B (listed.setIfInBounds j true)→Fresh B ((listed.setIfInBounds i true).setIfInBounds j true):=fun h b hb=>by
    have e2:i≠b:=fun h=>hB (by rw[h];exact hb)
    rw[Array.setIfInBounds_comm _ _ (Ne.symm e),getD_set_ne true e2];exact h b hb
   have h2:=wpOp_putIf hoj (hfree j oj hoj e hju hno) (fun cs b=>hsel i oi cs b hi) (fun cs b=>hsel j oj cs b hoj) hQ hy (H.2 j (ready_mono hj e));refine wpOp_mono (fun a' w' h3=>?_) h2;refine⟨⟨h3.2.1.1,fun hf=>h3.2.1.2 (hF2 hf)⟩,ih _ a' w' (fun k ok hk hki hkl hkn=>hfree k ok hk hki ?_ hkn) (ready_mono hr (Ne.symm e)) h3.1 h3.2.1.1 (fun hf=>h3.2.1.2 (hF2 hf)) ?_⟩
   ·by_cases hjk:j=k
    ·subst hjk;exact hju
    ·rw[getD_set_ne true hjk] at hkl;exact hkl
   ·rw[Array.setIfInBounds_comm _ _ e];exact h3.2.2
theorem wpAnyL_takeS {i:Nat} {oi:Oper} {v:Value} {n:Nat} {listed:Array Bool} {a:Act} {w:World} (hi:ops[i]?=some oi)
  (hs:Region.noSelect ops=true) (hf:Region.free md ops listed i=true) (hr:(Region.ready md ops listed).contains i=true) (hB:B.contains i=false)
  (hQ:∀c a w,Q (.panic c) (a.put oi.dst v) w→Q (.panic c) a w) (hy:YieldsIf P ops S oi v a) (hS:S w∧T w)
  (h:wpAnyL P md ops Q B S T n (listed.setIfInBounds i true) (a.put oi.dst v) w):wpAnyL P md ops Q B S T (n+1) listed a w:=
 wpAnyL_firstS hi (Region.noSelect_spec hs) hQ (by simpa using hB) n listed a w (Region.free_spec hi hf) (by simpa using hr) hy hS.1 (fun _=>hS.2) h
theorem wpAnyL_takeE {i:Nat} {oi:Oper} {v:Value} {n:Nat} {listed:Array Bool} {a:Act} {w:World} (hi:ops[i]?=some oi)
  (hs:Region.noSelect ops=true) (hf:Region.free md ops listed i=true) (hr:(Region.ready md ops listed).contains i=true) (hB:B.contains i=false) (hF:freshB B listed=false)
  (hQ:∀c a w,Q (.panic c) (a.put oi.dst v) w→Q (.panic c) a w) (hy:YieldsIf P ops S oi v a) (hS:S w)
  (h:wpAnyL P md ops Q B S T n (listed.setIfInBounds i true) (a.put oi.dst v) w):wpAnyL P md ops Q B S T (n+1) listed a w:=
 wpAnyL_firstS hi (Region.noSelect_spec hs) hQ (by simpa using hB) n listed a w (Region.free_spec hi hf) (by simpa using hr) hy hS (fun hf=>by rw[fresh_iff.2 hf] at hF;cases hF) h
def AllReadyL (P:Program) (md:Region.Mode) (ops:Array Oper) (Q:Exit→Act→World→Prop) (B:List Nat) (S T:World→Prop) (n:Nat) (listed:Array Bool) (a:Act) (w:World) (rs:List Nat):Prop:=
 ∀i∈rs,wpOp P ops Q i (fun a' w'=>(S w'∧(Fresh B (listed.setIfInBounds i true)→T w'))∧wpAnyL P md ops Q B S T n (listed.setIfInBounds i true) a' w') a w
theorem AllReadyL.nil {n:Nat} {listed:Array Bool} {a:Act} {w:World} :AllReadyL P md ops Q B S T n listed a w []:=fun _ h=>by cases h
theorem AllReadyL.last {n:Nat} {listed:Array Bool} {a:Act} {w:World} {i:Nat} {o:Oper} {rs:List Nat} (ho:ops[i]?=some o) (hF:freshB B (listed.setIfInBounds i true)=false)
  (h:∀K':Act→World→Prop,Shut (∀a w,S w→(S w→wpAnyL P md ops Q B S T n (listed.setIfInBounds i true) a w)→K' a w)→if Region.wanted o (yielded ops a.tmps)=true then Oper.wp P o a w K' Q else K' (a.put o.dst undef) w)
  (hs:AllReadyL P md ops Q B S T n listed a w rs):AllReadyL P md ops Q B S T n listed a w (i::rs):=fun j hj=>by
 rcases List.mem_cons.1 hj with rfl | hj
 ·exact wpOp_step ho fun K' hK=>h K' fun a w hS hW=>hK a w ⟨⟨hS,fun hf=>by rw[fresh_iff.2 hf] at hF;cases hF⟩,hW hS⟩
 ·exact hs j hj
theorem wpAnyL_ready {rs:List Nat} {n:Nat} {listed:Array Bool} {a:Act} {w:World} (hr:Region.ready md ops listed=rs) (hne:rs≠ []) (h:AllReadyL P md ops Q B S T n listed a w rs):wpAnyL P md ops Q B S T (n+1) listed a w:=
 ⟨fun h0=>absurd (hr▸h0) hne,hr▸h⟩
theorem wpAnyL_done {listed:Array Bool} {a:Act} {w:World} (hr:Region.ready md ops listed= []) (h:Q .normal a w):∀n,wpAnyL P md ops Q B S T n listed a w
 | 0=>⟨hr,h⟩
 | _+1=>⟨fun _=>h,by rw[hr];simp⟩
theorem wp_region_L {id:Nat} {a:Act} {w:World} (hm:P.follows .mixedOrders=true) (hS:S w.drew∧T w.drew)
  (h:S w.drew∧T w.drew→wpAnyL P .any ops Q B S T ops.size (Array.replicate ops.size false) a w.drew):(Code.region id ops true).wp P Q a w:=
 wp_region_any hm (wpAny_of_L _ _ _ _ (h hS))
end
section
variable {P : Program} {ops : Array Oper} {Q : Exit → Act → World → Prop} {md : Region.Mode} {B : List Nat} {S T : World → Prop}
theorem tkS (i:Nat) {oi:Oper} (v:Value) {n:Nat} {listed:Array Bool} {a:Act} {w:World} (hi:ops[i]?=some oi) (hy:∀w,S w→(execOp a.eval oi).run P w=.ok (.value v) w) (h:wpAnyL P md ops Q B S T n (listed.setIfInBounds i true) (a.put oi.dst v) w)
  (hs:Region.noSelect ops=true:=by kernel_rfl) (hf:Region.free md ops listed i=true:=by kernel_rfl) (hr:(Region.ready md ops listed).contains i=true:=by kernel_rfl) (hB:B.contains i=false:=by kernel_rfl)
  (hw:Region.wanted oi (yielded ops a.tmps)=true:=by rfl) (hQ:∀c a w,Q (.panic c) (a.put oi.dst v) w→Q (.panic c) a w:=by exact fun _ _ _ h=>h) (hS:S w∧T w:=by assumption):wpAnyL P md ops Q B S T (n+1) listed a w:=
 wpAnyL_takeS hi hs hf hr hB hQ (Or.inl ⟨hw,hy⟩) hS h
theorem tkE (i:Nat) {oi:Oper} (v:Value) {n:Nat} {listed:Array Bool} {a:Act} {w:World} (hi:ops[i]?=some oi) (hy:∀w,S w→(execOp a.eval oi).run P w=.ok (.value v) w) (h:wpAnyL P md ops Q B S T n (listed.setIfInBounds i true) (a.put oi.dst v) w)
  (hs:Region.noSelect ops=true:=by kernel_rfl) (hf:Region.free md ops listed i=true:=by kernel_rfl) (hr:(Region.ready md ops listed).contains i=true:=by kernel_rfl) (hB:B.contains i=false:=by kernel_rfl) (hF:freshB B listed=false:=by kernel_rfl)
  (hw:Region.wanted oi (yielded ops a.tmps)=true:=by rfl) (hQ:∀c a w,Q (.panic c) (a.put oi.dst v) w→Q (.panic c) a w:=by exact fun _ _ _ h=>h) (hS:S w:=by assumption):wpAnyL P md ops Q B S T (n+1) listed a w:=
 wpAnyL_takeE hi hs hf hr hB hF hQ (Or.inl ⟨hw,hy⟩) hS h
end
end Go.Proofs.YtjpklmighoondaaGreatDoor.Gn
namespace Go.Proofs.YtjpklmighoondaaGreatDoor.Gn
open Go.RowKit
theorem info_parts' {t:TypeId} {z:Value} {s b:Nat} (h:(Tryz.prog.info? t).map (fun i=>(i.zero,i.size,i.bytes))=some (some z,s,b)):∃i,Tryz.prog.info? t=some i∧i.zero=some z∧i.size=s∧i.bytes=b:=by
 cases hi:Tryz.prog.info? t with
 | none=>simp[hi] at h
 | some i=>simp[hi] at h;exact⟨i,rfl,h.1,h.2.1,h.2.2⟩
theorem heap_setCell {w:World} {g:Nat} {cur:Array Value} {t:TypeId} {fr:Nat×Nat} (h:w.heap[g]?=some (.cells cur t fr)) (o:Nat) (u:Value):∃cur',(w.setCell ⟨g,o,none⟩ u).heap[g]?=some (.cells cur' t fr)∧cur'.size=cur.size:=by
 refine⟨cur.setIfInBounds o u,?_,by simp⟩;simp[World.setCell,Array.getElem?_modify,h]
theorem own_cells {w:World} {base:Nat} {e:TypeId} {m:Nat} {v:Value} {n:Nat} {xs:List Value} (h:w.ownsRow base e m v n xs):(v=.slice none 0 0∧n=0)∨∃g cap,v=.slice (some ⟨g,0,none⟩) n cap∧n≤cap∧g < w.heap.size∧∀k,k < n*m→w.cell? ⟨g,k,none⟩=xs[k]?:=by
 obtain⟨hl,⟨rfl,h0⟩ | ⟨g,cap,cur,rfl,hb,hh,h1,h2,h3,h4⟩⟩:=h
 ·exact .inl ⟨rfl,h0⟩
 ·refine .inr ⟨g,cap,rfl,h1,(Array.getElem?_eq_some_iff.1 hh).1,fun k hk=>?_⟩;rw[cell_of_row _ _ _ _ e _ hh];have e':(cur.toList.take (n*m))[k]?=xs[k]?:=by rw[h4]
  rw[List.getElem?_take_of_lt hk,Array.getElem?_toList] at e';exact e'
theorem grown_drew (w:World):w.grownBy w.drew none:=⟨rfl,rfl,rfl,Nat.le_refl _,fun _ _ _=>rfl⟩
theorem step_append_run {P:Program} {ops:Array Oper} {o:Oper} {a:Act} {w:World} {K:Act→World→Prop} {Q:Exit→Act→World→Prop} {E:Prop} (hgd:o.guard=none) (s x:Operand) (t:TypeId)
  (ho:o.op=.call {callee:=.builtin .append,args:=#[s,x],argTypes:=#[t,t]}) (v xv v':Value) (w':World) (hs:a.eval s=v) (hx:a.eval x=xv) (hr:(Builtin.append_ #[t,t] o.type #[v,xv]).run P w=.ok v' w')
  (hK:K (a.put o.dst v') w'):if Region.wanted o (yielded ops a.tmps)=true then Oper.wp P o a w K Q else E:=by
 have hw:Region.wanted o (yielded ops a.tmps)=true:=by simp[Region.wanted,hgd]
 rw[if_pos hw];unfold Oper.wp execOp;simp only[ho,resolve,invoke,builtin,Sem.run_bind,Sem.run_pure,Result.andThen_ok,List.map_toArray,List.map_cons,List.map_nil,hs,hx,hr];exact hK
theorem infoMq:(Tryz.prog.info? 61).map (fun i=>(i.zero,i.size,i.bytes))=some (some .nilIface,1,16):=by kernel_rfl
theorem grown_setCell (w:World) (a:Addr) (u:Value):w.grownBy (w.setCell a u) (some a.block):=grown_set w a u
theorem heap_setCells {g:Nat} {t:TypeId} {fr:Nat×Nat} :∀(vs:List Value) (o:Nat) (w:World) (cur:Array Value),w.heap[g]?=some (.cells cur t fr)→∃cur',(w.setCells g o vs).heap[g]?=some (.cells cur' t fr)∧cur'.size=cur.size
 | [],_,_,cur,h=>⟨cur,h,rfl⟩
 | v::r,o,w,cur,h=>by
  obtain⟨c1,h1,e1⟩:=heap_setCell h o v;obtain⟨c2,h2,e2⟩:=heap_setCells r (o+1) _ c1 h1;exact⟨c2,h2,e2.trans e1⟩
theorem grown_setCells (g:Nat):∀(vs:List Value) (o:Nat) (w:World),w.grownBy (w.setCells g o vs) (some g)
 | [],_,w=>World.grownBy.refl w _
 | v::r,o,w=>(grown_setCell w ⟨g,o,none⟩ v).trans (grown_setCells g r (o+1) _)
theorem owns_of_cells {w:World} {base g cap N e n:Nat} {cur:Array Value} {xs:List Value} (hb:base≤g) (hg:w.heap[g]?=some (.cells cur e (0,0))) (h1:N≤cap) (h2:cap≤maxLen) (h3:cur.size=cap*n) (hl:xs.length=N*n) (hc:∀j,j < N*n→w.cell? ⟨g,j,none⟩=xs[j]?):
  w.ownsRow base e n (.slice (some ⟨g,0,none⟩) N cap) N xs:=by
 refine⟨hl,.inr ⟨g,cap,cur,rfl,hb,hg,h1,h2,h3,?_⟩⟩
 apply List.ext_getElem?
 intro j;by_cases hj:j < N*n
 ·rw[List.getElem?_take_of_lt hj,←hc j hj,cell_of_row _ _ _ _ e _ hg,Array.getElem?_toList]
 ·rw[List.getElem?_eq_none (by rw[List.length_take];omega),List.getElem?_eq_none (by omega)]
theorem run_clear_one {P:Program} (w:World) (t e ty:TypeId) (z:Value) (ht:P.underlying t=some (.slice e)) (hv:∀w,(zeroValue e).run P w=.ok z w) (h1:∀u∈z.cells.toList,u.oneCell'=true) (b o c:Nat)
  (hc:∀j,j < z.cells.size→(w.cell? ⟨b,o+j,none⟩).isSome=true) (hf:∀j,j < z.cells.size→w.frozen? ⟨b,o+j,none⟩=false):
  (Builtin.clear_ #[t] ty #[.slice (some ⟨b,o,none⟩) 1 c]).run P w=.ok (.tuple #[]) (w.setCells b o z.cells.toList):=by
 have hzc:(Builtin.zeroCells z.cells 1).toList=z.cells.toList:=by
  simp[Builtin.zeroCells]
  apply List.ext_getElem
  ·simp
  ·intro i h1 h2;simp at h1;simp[Nat.mod_eq_of_lt h1,h1]
 have hst:=run_storeCells_cells (P:=P) b o z.cells.toList 0 w (by simpa using hc) (by simpa using hf) h1;simp only[Nat.add_zero] at hst;simp[Builtin.clear_,run_underlying ht,hv,hzc,hst]
theorem zeroMq (w:World):(zeroValue 61).run Tryz.prog w=.ok .nilIface w:=by kernel_rfl
def endA (g cap k:Nat):Addr:=if cap=k then⟨g,0,none⟩ else⟨g,k*1,none⟩
theorem gen_drop {L:List Value} {k j:Nat} {u:Value} (h:(L.drop k)[j]?=some u):L[k*1+j]?=some u:=by
 rw[Nat.mul_one];rwa [List.getElem?_drop] at h
theorem mqCs_erase {L:List Value} {k:Nat} (hk:k < L.length) (j:Nat):(L.eraseIdx k)[j]?=if j < k*1 then L[j]? else (L.drop (k+1))[j - k*1]?:=by
 have hl:(L.take k).length=k*1:=by rw[List.length_take];congr 1;omega
 rw[List.eraseIdx_eq_take_drop_succ];by_cases h:j < k*1
 ·rw[if_pos h,List.getElem?_append_left (by omega)]
  conv=>rhs;rw[←List.take_append_drop k L]
  rw[List.getElem?_append_left (by omega)]
 ·rw[if_neg h,List.getElem?_append_right (by omega),hl]
def DelQ (base:Nat) (v:Value) (L:List Value) (k:Nat) (w:World) (e:Ending) (w':World):Prop:=
 ∃v',e=.returned v'∧w.grownBy w' v.ownBlock∧w'.ownsRow base 61 1 v' (L.eraseIdx k).length (L.eraseIdx k)∧v'.ownBlock=v.ownBlock
theorem rest_cells {w:World} {base g cap:Nat} {L:List Value} {k:Nat} (hk:k < L.length) (h:w.ownsRow base 61 1 (.slice (some ⟨g,0,none⟩) L.length cap) L.length L) (hc:L.length≤cap):∀j u,(L.drop (k+1))[j]?=some u→w.cell? ((endA g cap (k+1)).add j)=some u:=fun j u hj=>by
 have hl:(L.drop (k+1)).length=(L.length - (k+1))*1:=by rw[List.length_drop,Nat.mul_one]
 have hj':=(List.getElem?_eq_some_iff.1 hj).1;by_cases e:cap=k+1
 ·rw[hl,show L.length - (k+1)=0 by omega] at hj';omega
 ·unfold endA;rw[if_neg e,Addr.add_lit];have:=h.cells (g:=g) rfl _ _ (gen_drop hj)
  rwa [Addr.add_lit,Nat.zero_add] at this
set_option maxHeartbeats 4000000 in
theorem pdel_any (k:Nat) (base:Nat) (v:Value) (L:List Value) (hL:L.length≤2000) (h1:∀u∈L,u.oneCell'=true) (hk:k < L.length) (w:World) (h:w.ownsRow base 61 1 v L.length L):
  Calls Tryz.prog 318 #[v,.int .i64 (k:Int),.int .i64 ((k:Int)+1)] w fun e w'=>DelQ base v L k w e w':=by
 obtain⟨g,cap,cur,rfl,hbg,hgc,hnc,hcm,hcs,hcx⟩:∃g cap cur,v=.slice (some ⟨g,0,none⟩) L.length cap∧base≤g∧w.heap[g]?=some (.cells cur 61 (0,0))∧L.length≤cap∧cap≤maxLen∧cur.size=cap*1∧cur.toList.take (L.length*1)=L:=by
  rcases h.2 with ⟨_,e⟩ | h
  ·omega
  ·exact h
 obtain⟨inf,i1,i2,i3,i4⟩:=info_parts' infoMq;have HO:=hideIt h;have HNw:Hid (∀j u,(L.drop (k+1))[j]?=some u→w.drew.cell? ((endA g cap (k+1)).add j)=some u):=rest_cells hk h hnc;have hnl:(L.drop (k+1)).length=(L.length - (k+1))*1:=by rw[List.length_drop,Nat.mul_one]
 have hsome:∀(W:World) (cu:Array Value),W.heap[g]?=some (.cells cu 61 (0,0))→cu.size=cap*1→∀j,j < cap*1→(W.cell? ⟨g,j,none⟩).isSome=true:=fun W cu hW hs j hj=>by
  rw[cell_of_row _ _ _ _ 61 _ hW,Array.getElem?_eq_getElem (by omega)];rfl
 have hrun:∀ty,(Builtin.append_ #[188,188] ty #[.slice (some ⟨g,0,none⟩) k cap,.slice (some (endA g cap (k+1))) (L.length - (k+1)) (cap - (k+1))]).run Tryz.prog w.drew=.ok (.slice (some ⟨g,0,none⟩) (k+(L.length - (k+1))) cap) (w.drew.setCells g (0+k*inf.size) (L.drop (k+1))):=fun ty=>
  run_append_room_cells w.drew 188 ty 61 inf Tryz.underlying188 i1 g 0 k cap (endA g cap (k+1)) (L.length - (k+1)) (cap - (k+1)) (L.drop (k+1)) (by rw[i3];exact hnl) HNw.out (fun u hu=>h1 u (List.mem_of_mem_drop hu)) (by omega) (fun j hj=>by rw[i3];exact hsome w.drew cur hgc hcs _ (by omega)) (fun j _=>frozen_of_row _ _ _ _ 61 hgc)
 rw[i3,Nat.zero_add] at hrun;have HRun:=hideIt hrun;obtain⟨c1,hc1,hs1⟩:=heap_setCells (L.drop (k+1)) (k*1) w.drew cur hgc;have HW1:Hid (w.grownBy (w.drew.setCells g (k*1) (L.drop (k+1))) (some g)):=((grown_drew w).but _).trans (grown_setCells g _ _ _);have HC1:Hid (∀j,j < (L.length - 1)*1→(w.drew.setCells g (k*1) (L.drop (k+1))).cell? ⟨g,j,none⟩=(L.eraseIdx k)[j]?):=fun j hj=>by
  rw[mqCs_erase hk];by_cases hjk:j < k*1
  ·rw[if_pos hjk,World.cell?_setCells_out g _ _ _ ⟨g,j,none⟩ (fun _ _=>.inl hjk)];rcases own_cells HO.out with ⟨e,_⟩ | ⟨g',cap',e,_,_,hh⟩
   ·cases e
   ·cases e;exact hh j (by omega)
  ·rw[if_neg hjk];have hj2:j - k*1 < (L.drop (k+1)).length:=by omega
   have:=World.cell?_setCells_in g (L.drop (k+1)) (k*1) w.drew (fun i hi=>hsome w.drew cur hgc hcs _ (by omega)) (j - k*1) hj2;rw[show k*1+(j - k*1)=j by omega] at this;rw[this,List.getElem?_eq_getElem hj2]
 have e1:k+(L.length - (k+1))=L.length - 1:=by omega
 rw[e1] at HRun;generalize w.drew.setCells g (k*1) (L.drop (k+1))=W1 at*
 have hN:(L.eraseIdx k).length=L.length - 1:=List.length_eraseIdx_of_lt hk;have hclr:(Builtin.clear_ #[188] 0 #[.slice (some ⟨g,L.length - 1,none⟩) 1 (cap - (L.length - 1))]).run Tryz.prog W1=.ok (.tuple #[]) (W1.setCells g (L.length - 1) [.nilIface]):=
  run_clear_one W1 188 61 0 .nilIface Tryz.underlying188 zeroMq (by simp[Value.cells,Value.oneCell']) g _ _ (fun j hj=>hsome W1 c1 hc1 (by omega) _ (by simp[Value.cells] at hj;omega)) (fun j _=>frozen_of_row _ _ _ _ 61 hc1)
 obtain⟨c2,hc2,hs2⟩:=heap_setCells [.nilIface] (L.length - 1) W1 c1 hc1;have HEnd:Hid (DelQ base (.slice (some ⟨g,0,none⟩) L.length cap) L k w (.returned (.slice (some ⟨g,0,none⟩) (L.length - 1) cap)) (W1.setCells g (L.length - 1) [.nilIface])):=
  ⟨_,rfl,HW1.out.trans (grown_setCells g _ _ _),by rw[hN];exact owns_of_cells hbg hc2 (by omega) hcm (by omega) (by rw[hN,Nat.mul_one]) (fun j hj=>by rw[World.cell?_setCells_out g _ _ _ ⟨g,j,none⟩ (fun _ _=>.inl (by simpa using hj))];exact HC1.out j hj),rfl⟩
 generalize DelQ base (.slice (some ⟨g,0,none⟩) L.length cap) L k w=Q at*
 have q1:(k:Int)+1≤(L.length:Int):=by omega
 have q2:(L.length:Int)≤(cap:Int):=by omega
 have q3:(0:Int)≤(k:Int)+1:=by omega
 have q4:((k:Int)==(k:Int)+1)=false:=by simp;omega
 have q5:(k:Int)≤(cap:Int):=by omega
 have q6:(k:Int)≤(k:Int)+1:=by omega
 have q7:(k:Int)+1≤(cap:Int):=by omega
 have q8:((k:Int)+1).toNat=k+1:=by omega
 have q9:((L.length:Int)).toNat=L.length:=by omega
 clear HW1 HC1 hsome hgc hcs hcx hc1 hs1 hc2 hs2 HNw hnl hN HO h i1 i2 i3 i4 e1 hbg;go_enter Tryz.func318,Tryz.ntmps318
 go_upto_region 5 with fail
 refine wp_region_L (B:= [6]) (S:=fun _=>True) (T:=fun _=>True) (by kernel_rfl) ⟨trivial,trivial⟩ (fun hHeld=>?_);refine tkS 0 ?_ rfl ?_ ?_;rotate_left 1
 ·intro wz _;go_simp;all_goals with_reducible rfl
 simp only[Act.put,p1,p2,p3,p4,p5];refine tkS 1 ?_ rfl ?_ ?_;rotate_left 1
 ·intro wz _;go_simp;all_goals with_reducible rfl
 simp only[Act.put,p1,p2,p3,p4,p5,p6];refine tkS 2 ?_ rfl ?_ ?_;rotate_left 1
 ·intro wz _;go_simp;all_goals with_reducible rfl
 simp only[Act.put,p1,p2,p3,p4,p5,p6];refine tkS 3 ?_ rfl ?_ ?_;rotate_left 1
 ·intro wz _;go_simp;all_goals with_reducible rfl
 simp only[Act.put,p1,p2,p3,p4,p5,p6];refine tkS 4 ?_ rfl ?_ ?_;rotate_left 1
 ·intro wz _;go_simp;all_goals with_reducible rfl
 simp only[Act.put,p1,p2,p3,p4,p5,p6];refine tkS 5 ?_ rfl ?_ ?_;rotate_left 1
 ·intro wz _;go_simp;all_goals with_reducible rfl
 simp only[Act.put,p1,p2,p3,p4,p5,p6];have hif:(if cap=k+1 then some (⟨g,0,none⟩:Addr) else some ⟨g,k+1,none⟩)=some (endA g cap (k+1)):=by unfold endA;rw[Nat.mul_one];split<;>rfl
 rw[hif];refine wpAnyL_ready (rs:= [6]) (by kernel_rfl) (by simp) (AllReadyL.last rfl (by kernel_rfl) (fun K hK=>?_) AllReadyL.nil);refine step_append_run (by rfl) _ _ 188 rfl _ _ _ W1 rfl rfl (HRun.out _) ?_;simp only[Act.put,List.setIfInBounds_toArray];refine hK.out _ _ trivial (fun _=>?_);clear hK K hHeld hif HRun hrun q1 q3 q4 q5 q6 q7 q8;refine tkE 7 ?_ rfl ?_ ?_;rotate_left 1
 ·intro wz _;go_simp;all_goals with_reducible rfl
 simp only[Act.put,p1,p2,p3,p4,p5,p6];refine wpAnyL_done (by kernel_rfl) ?_ _;have r1:(L.length - 1:Nat)≤L.length:=by omega
 have r2:(((L.length - 1:Nat):Int))≤(L.length:Int):=by omega
 have r3:¬cap=L.length - 1:=by omega
 have r4:L.length - (L.length - 1)=1:=by omega
 have HE2:=hideIt HEnd.out;clear HEnd;generalize L.length - 1=N at*
 go_wp2;exact HE2.out
end Go.Proofs.YtjpklmighoondaaGreatDoor.Gn
