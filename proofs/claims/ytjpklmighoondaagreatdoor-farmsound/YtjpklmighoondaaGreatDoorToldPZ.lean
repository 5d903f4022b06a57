/-
  What the search tells of two ops: what was written is read, and nothing else.
  Package linear's Check, and the statements' own told: walked.
  Rows of one's own and blocks: small facts that each walk uses.
  Regions that draw their order, with loads whose cells a later store of the same region turns: all that waits for such a load is named (B); till one of B has come up a second condition is held. (Nothing of the program in it.)
  Who can talk to whom, in memory: rows of bools.
-/
import Derived.Test.YtjpklmighoondaaGreatDoorVerdictWZ
import Derived.Test.YtjpklmighoondaaGreatDoorGnPZ
import Derived.Maps.AppendAt
import Derived.Deep.RegionLaw
import Derived.WalkSmall
import Derived.Deep.RegionHeld3
namespace Go.Proofs.YtjpklmighoondaaGreatDoor
open Go.RowKit
theorem own_srB {o:Int} {ops:List Opn} {bud:Nat} (hk:∀n,n < ops.length→0≤(opN ops n).k∧(opN ops n).k < 8):OwnNm (srB o ops bud):=own_of_names rfl hk
open Go.RowKit
theorem JTold.wider {o bud:Int} {ops:List Opn} {w W:World} {e:Ending} {w':World} (h:JTold o bud ops W e w') (hb:Below w.heap.size w W):JTold o bud ops w e w':=by
 obtain⟨h1,h2⟩:=h;refine⟨belJ hb h1,?_⟩;rcases h2 with h2 | ⟨hl,ov,he,ho1,ho2⟩
 ·exact .inl h2
 ·exact .inr ⟨hl,ov,he,fun hc=>ownsRow_base (ho1 hc) hb.size,ho2⟩
set_option maxRecDepth 100000 in
set_option maxHeartbeats 2000000 in
theorem check_any (o bud:Int) (ops:List Opn) (u:Value) (w:World) (hlen:ops.length≤60) (hl:OpsIn w u ops) (hK:KnownAt w):
  Calls Tryz.prog 58 #[.int .i64 o,u,.int .i64 bud] w fun e w'=>JTold o bud ops w e w':=by
 have hpos:0 < w.heap.size:=World.block_lt_of_cell? w ⟨0,0*13+0,none⟩ (hK 0 0 (by decide) (by decide));have hb1:Below w.heap.size w (w.alloc (.cells #[.int .i64 0,.slice none 0 0,.int .i64 0] 34)):=belA (Below.refl _ _) _;have HC:=hideIt (judge_any o bud ops u _ hlen (hl.below hb1) (hK.below hpos hb1));have HB1:=hideIt hb1;clear hl hK hb1;go_enter Tryz.func58,Tryz.ntmps58
 go_wp2_with fail
 refine HC.out.mono ?_;intro e w2 hj;have hb2:=hj.1;have hR2:w2.heap[w.heap.size]?=some z33:=(hb2.block w.heap.size (by simp)).trans (heap_alloc_new w _);have s0:w2.cell? ⟨w.heap.size,0,none⟩=some (.int .i64 0):=cell_of_row w2 _ _ _ 34 (0,0) hR2;have s1:w2.cell? ⟨w.heap.size,1,none⟩=some (.slice none 0 0):=cell_of_row w2 _ _ _ 34 (0,0) hR2;have s2:w2.cell? ⟨w.heap.size,2,none⟩=some (.int .i64 0):=cell_of_row w2 _ _ _ 34 (0,0) hR2;have s3:∀i,w2.frozen? ⟨w.heap.size,i,none⟩=false:=fun i=>frozen_of_row w2 _ _ _ 34 hR2
 have hj':=hj.wider HB1.out;have hset:∀x y z,Below w.heap.size w (((w2.setCell ⟨w.heap.size,0,none⟩ x).setCell ⟨w.heap.size,1,none⟩ y).setCell ⟨w.heap.size,2,none⟩ z):=fun x y z=>
  ((hj'.1.setCell (p:=⟨w.heap.size,0,none⟩) (Nat.le_refl _) _).setCell (p:=⟨w.heap.size,1,none⟩) (Nat.le_refl _) _).setCell (p:=⟨w.heap.size,2,none⟩) (Nat.le_refl _) _
 obtain⟨_,⟨n,hn,hlc,rfl⟩ | ⟨hlc,ov,rfl,ho1,ho2⟩⟩:=hj'
 ·have HX:Hid (JTold o bud ops w (.returned (.tuple #[.agg #[.int .i64 0,.slice none 0 0,.int .i64 0],toldV n])) (((w2.setCell ⟨w.heap.size,0,none⟩ (.int .i64 0)).setCell ⟨w.heap.size,1,none⟩ (.slice none 0 0)).setCell ⟨w.heap.size,2,none⟩ (.int .i64 0))):=hideIt ⟨hset _ _ _,.inl ⟨n,hn,hlc,rfl⟩⟩;rw[toldV_some hn] at HX ⊢;clear hj hb2 hset hR2;go_wp2;exact bodyPost_ret (v:=.tuple #[.agg #[.int .i64 0,.slice none 0 0,.int .i64 0],.iface 55 (.int .i64 n)]) (by simp[results,Tryz.results58,go_sem,s0,s1,s2]) rfl HX.out
 ·have hov:∃a l c,ov=.slice a l c:=by
   by_cases h1:(searchM (srB o ops bud.toNat)).code=1
   ·obtain⟨a,c,e⟩:=ownsRow_slice (ho1 h1);exact⟨a,_,c,e⟩
   ·exact⟨_,_,_,ho2 h1⟩
  have HX:Hid (JTold o bud ops w (.returned (.tuple #[.agg #[.int .i64 ((searchM (srB o ops bud.toNat)).code:Int),ov,.int .i64 ((searchM (srB o ops bud.toNat)).ent.length:Int)],.nilIface])) (((w2.setCell ⟨w.heap.size,0,none⟩ (.int .i64 ((searchM (srB o ops bud.toNat)).code:Int))).setCell ⟨w.heap.size,1,none⟩ ov).setCell ⟨w.heap.size,2,none⟩ (.int .i64 ((searchM (srB o ops bud.toNat)).ent.length:Int)))):=hideIt (by
   refine⟨hset _ _ _,.inr ⟨hlc,ov,rfl,fun hc=>?_,ho2⟩⟩;have hrow:=ho1 hc;have n2:=row_off hrow hR2 (by decide);exact ownsRow_setCell_other (ownsRow_setCell_other (ownsRow_setCell_other hrow n2 _) n2 _) n2 _)
  obtain⟨va,vl,vc,rfl⟩:=hov;generalize ((searchM (srB o ops bud.toNat)).code:Int)=xc at HX ⊢;generalize ((searchM (srB o ops bud.toNat)).ent.length:Int)=xe at HX ⊢;clear hj hb2 hset hR2 ho1 ho2;go_wp2;exact bodyPost_ret (v:=.tuple #[.agg #[.int .i64 xc,.slice va vl vc,.int .i64 xe],.nilIface]) (by simp[results,Tryz.results58,go_sem,s0,s1,s2]) rfl HX.out
end Go.Proofs.YtjpklmighoondaaGreatDoor
namespace Go.Proofs.YtjpklmighoondaaGreatDoor.St
open Go.RowKit
theorem lt_of_heap {w:World} {g:Nat} {o:Obj} (h:w.heap[g]?=some o):g < w.heap.size:=by
 rcases Nat.lt_or_ge g w.heap.size with hlt | hge
 ·exact hlt
 ·rw[Array.getElem?_eq_none hge] at h;cases h
theorem heap_setCell {w:World} {g:Nat} {cur:Array Value} {t:TypeId} {fr:Nat×Nat} (h:w.heap[g]?=some (.cells cur t fr)) (o:Nat) (u:Value):∃cur',(w.setCell ⟨g,o,none⟩ u).heap[g]?=some (.cells cur' t fr)∧cur'.size=cur.size:=by
 refine⟨cur.setIfInBounds o u,?_,by simp⟩;simp[World.setCell,Array.getElem?_modify,h]
theorem info3:(Tryz.prog.info? 3).map (fun i=>(i.zero,i.size,i.bytes))=some (some (Value.int .i64 0),1,8):=by kernel_rfl
theorem made_one (v:Value) (n i:Nat) (h:i < n):(madeCells #[v] n)[i]?=some v:=by simp[madeCells,h,Nat.mod_one]
theorem cell_made (w:World) (v:Value) (n t i:Nat) (h:i < n):(w.alloc (.cells (madeCells #[v] n) t)).cell? ⟨w.heap.size,i,none⟩=some v:=by
 rw[cell_of_row _ w.heap.size i _ t _ (heap_alloc_new w _)];exact made_one v n i h
theorem offNe {g a b:Nat} (h:a≠b):(⟨g,a,none⟩:Addr)≠⟨g,b,none⟩:=fun e=>h (by injection e)
theorem blkNe {g g' a b:Nat} (h:g≠g'):(⟨g,a,none⟩:Addr)≠⟨g',b,none⟩:=fun e=>h (by injection e)
theorem ownsRow_slice {w:World} {base:Nat} {e:TypeId} {size:Nat} {v:Value} {n:Nat} {xs:List Value} (h:w.ownsRow base e size v n xs):∃a c,v=.slice a n c:=by
 obtain⟨_,⟨rfl,rfl⟩ | ⟨g,cap,cur,rfl,_⟩⟩:=h
 ·exact⟨_,_,rfl⟩
 ·exact⟨_,_,rfl⟩
theorem ownsRow_same {w w':World} {base:Nat} {e:TypeId} {size:Nat} {v:Value} {n:Nat} {xs:List Value} (h:w.ownsRow base e size v n xs) (hs:∀b,v.ownBlock=some b→w'.heap[b]?=w.heap[b]?):w'.ownsRow base e size v n xs:=by
 obtain⟨hl,h | ⟨g,cap,cur,rfl,hb,hh,h1⟩⟩:=h
 ·exact⟨hl,.inl h⟩
 ·exact⟨hl,.inr ⟨g,cap,cur,rfl,hb,(hs g rfl).trans hh,h1⟩⟩
theorem ownsRow_block {w:World} {base:Nat} {e:TypeId} {size:Nat} {v:Value} {n:Nat} {xs:List Value} (h:w.ownsRow base e size v n xs):∀b,v.ownBlock=some b→base≤b∧b < w.heap.size∧∃cur,w.heap[b]?=some (.cells cur e (0,0)):=by
 intro b hb;have hl:=h.lt b hb;obtain⟨_,⟨rfl,_⟩ | ⟨g,cap,cur,rfl,_,hh,_⟩⟩:=h
 ·cases hb
 ·obtain rfl:g=b:=by simpa [Value.ownBlock] using hb
  exact⟨hl.1,hl.2,cur,hh⟩
theorem wpList_append_run {P:Program} (w:World) {ops:Array Oper} {rest:List Oper} {o:Oper} {a:Act} {Q:Exit→Act→World→Prop} (hgd:o.guard=none) (s x:Operand) (t:TypeId)
  (ho:o.op=.call {callee:=.builtin .append,args:=#[s,x],argTypes:=#[t,t]}) (v xv v':Value) (w':World) (hs:a.eval s=v) (hx:a.eval x=xv) (hr:(Builtin.append_ #[t,t] o.type #[v,xv]).run P w=.ok v' w')
  (hK:wpList P ops Q rest (a.put o.dst v') w'):wpList P ops Q (o::rest) a w:=by
 refine wpList_plain hgd fun K' hK'=>?_
 unfold Oper.wp execOp;simp only[ho,resolve,invoke,builtin,Sem.run_bind,Sem.run_pure,Result.andThen_ok,List.map_toArray,List.map_cons,List.map_nil,hs,hx,hr];exact hK' _ _ hK
theorem step_append_run {P:Program} {ops:Array Oper} {o:Oper} {a:Act} {w:World} {K:Act→World→Prop} {Q:Exit→Act→World→Prop} {E:Prop} (hgd:o.guard=none) (s x:Operand) (t:TypeId)
  (ho:o.op=.call {callee:=.builtin .append,args:=#[s,x],argTypes:=#[t,t]}) (v xv v':Value) (w':World) (hs:a.eval s=v) (hx:a.eval x=xv) (hr:(Builtin.append_ #[t,t] o.type #[v,xv]).run P w=.ok v' w')
  (hK:K (a.put o.dst v') w'):if Region.wanted o (yielded ops a.tmps)=true then Oper.wp P o a w K Q else E:=by
 have hw:Region.wanted o (yielded ops a.tmps)=true:=by simp[Region.wanted,hgd]
 rw[if_pos hw];unfold Oper.wp execOp;simp only[ho,resolve,invoke,builtin,Sem.run_bind,Sem.run_pure,Result.andThen_ok,List.map_toArray,List.map_cons,List.map_nil,hs,hx,hr];exact hK
def tagD:Option Obj→Nat
 | some (.cells _ t _)=>t+1
 | _=>0
theorem ne_tagD {W:World} {a b x y:Nat} (ha:tagD W.heap[a]?=x) (hb:tagD W.heap[b]?=y) (h:x≠y):a≠b:=fun e=>h (by rw[←ha,←hb,e])
theorem own_tagD {W:World} {base:Nat} {e:TypeId} {m:Nat} {v:Value} {l:Nat} {xs:List Value} (h:W.ownsRow base e m v l xs) {b:Nat} (hb:v.ownBlock=some b):tagD W.heap[b]?=e+1:=by
 obtain⟨_,_,cur,hc⟩:=ownsRow_block h b hb;rw[hc];rfl
theorem flat_at {α:Type} {c:α→List Value} {m:Nat} (hc:∀x,(c x).length=m):∀(l:List α) (k j:Nat) (hk:k < l.length),j < m→(l.flatMap c)[k*m+j]?=(c l[k])[j]?
 | [],k,_,hk,_=>absurd hk (by simp)
 | x::l,0,j,_,hj=>by
  rw[List.flatMap_cons,List.getElem?_append_left (by rw[hc];omega),Nat.zero_mul,Nat.zero_add];rfl
 | x::l,k+1,j,hk,hj=>by
  rw[List.flatMap_cons,List.getElem?_append_right (by rw[hc,Nat.add_mul];omega),hc,show (k+1)*m+j - m=k*m+j by rw[Nat.add_mul];omega];exact flat_at hc l k j (by simpa using hk) hj
theorem own_cells {w:World} {base:Nat} {e:TypeId} {m:Nat} {v:Value} {n:Nat} {xs:List Value} (h:w.ownsRow base e m v n xs):(v=.slice none 0 0∧n=0)∨∃g cap,v=.slice (some ⟨g,0,none⟩) n cap∧n≤cap∧g < w.heap.size∧∀k,k < n*m→w.cell? ⟨g,k,none⟩=xs[k]?:=by
 obtain⟨hl,⟨rfl,h0⟩ | ⟨g,cap,cur,rfl,hb,hh,h1,h2,h3,h4⟩⟩:=h
 ·exact .inl ⟨rfl,h0⟩
 ·refine .inr ⟨g,cap,rfl,h1,lt_of_heap hh,fun k hk=>?_⟩;rw[cell_of_row _ _ _ _ e _ hh];have e':(cur.toList.take (n*m))[k]?=xs[k]?:=by rw[h4]
  rw[List.getElem?_take_of_lt hk,Array.getElem?_toList] at e';exact e'
section
variable {P : Program} {ops : Array Oper} {Q : Exit → Act → World → Prop} {md : Region.Mode} {B : List Nat} {S T : World → Prop}
def Fresh (B:List Nat) (listed:Array Bool):Prop:=∀b∈B,listed.getD b true=false
def freshB (B:List Nat) (listed:Array Bool):Bool:=B.all fun b=> !listed.getD b true
theorem fresh_iff {B:List Nat} {listed:Array Bool} :freshB B listed=true↔Fresh B listed:=by simp[freshB,Fresh]
def waitB (md:Region.Mode) (ops:Array Oper) (C:List Nat) (i:Nat):Bool:=C.all fun b=>match ops[b]? with
 | some o=>o.after.any fun e=>Region.binds md e&&(e.on==i||C.contains e.on)
 | none=>false
def WaitC (md:Region.Mode) (ops:Array Oper) (C:List Nat) (i:Nat):Prop:=∀b∈C,∃o,ops[b]?=some o∧∃e∈o.after,Region.binds md e=true∧(e.on=i∨e.on∈C)
theorem wait_spec {C:List Nat} {i:Nat} (h:waitB md ops C i=true):WaitC md ops C i:=fun b hb=>by
 have:=List.all_eq_true.1 h b hb;cases ho:ops[b]? with
 | none=>rw[ho] at this;cases this
 | some o=>
  rw[ho] at this;simp only[Array.any_eq_true'] at this;obtain⟨e,he,hp⟩:=this;rw[Bool.and_eq_true,Bool.or_eq_true,beq_iff_eq,List.contains_iff_mem] at hp;exact⟨o,rfl,e,he,hp⟩
def wpAnyL (P:Program) (md:Region.Mode) (ops:Array Oper) (Q:Exit→Act→World→Prop) (B:List Nat) (S T:World→Prop):Nat→Array Bool→Act→World→Prop
 | 0,listed,a,w=>Region.ready md ops listed= []∧Q .normal a w
 | n+1,listed,a,w=>(Region.ready md ops listed= []→Q .normal a w)∧
  ∀i∈Region.ready md ops listed,wpOp P ops Q i (fun a' w'=>(S w'∧(Fresh B (listed.setIfInBounds i true)→T w'))∧wpAnyL P md ops Q B S T n (listed.setIfInBounds i true) a' w') a w
theorem wpAny_of_L:∀(n:Nat) (listed:Array Bool) (a:Act) (w:World),wpAnyL P md ops Q B S T n listed a w→wpAny P md ops Q n listed a w
 | 0,_,_,_,h=>h
 | n+1,_,_,_,h=>⟨h.1,fun i hi=>wpOp_mono (fun a' w' h'=>wpAny_of_L n _ a' w' h'.2) (h.2 i hi)⟩
theorem unlisted {i:Nat} {listed:Array Bool} (h0:listed.getD i true=false):listed.getD i false=false:=by
 rcases Nat.lt_or_ge i listed.size with h' | h'
 ·simp[h'] at h0 ⊢;exact h0
 ·simp[Array.getElem?_eq_none h']
theorem WaitC.not_ready {C:List Nat} {i j:Nat} {listed:Array Bool} (h:WaitC md ops C i) (hi:listed.getD i true=false) (hF:Fresh C listed) (hj:j∈Region.ready md ops listed):j∉C:=fun hm=>by
 obtain⟨o,ho,x,hx,hb,hon⟩:=h j hm;obtain⟨_,o',ho',hall⟩:=mem_ready.1 hj;rw[ho'] at ho;obtain rfl:=Option.some.inj ho;have h1:=hall x hx hb;rcases hon with e | e
 ·rw[e,unlisted hi] at h1;cases h1
 ·rw[unlisted (hF _ e)] at h1;cases h1
theorem wpAnyL_first {C:List Nat} {i:Nat} {oi:Oper} {v:Value} (hi:ops[i]?=some oi) (hsel:∀(j:Nat) (o:Oper) cs b,ops[j]?=some o→o.op≠.select cs b)
  (hQ:∀c a w,Q (.panic c) (a.put oi.dst v) w→Q (.panic c) a w) (hC:WaitC md ops C i) (hBC:∀b∈B,b∈C):
  ∀(n:Nat) (listed:Array Bool) (a:Act) (w:World),
   (∀j oj,ops[j]?=some oj→j≠i→listed.getD j true=false→(∀e∈oj.after,Region.binds md e=true→e.on≠i)→oi.apart ops oj=true)→
   i∈Region.ready md ops listed→Fresh C listed→YieldsIf P ops (fun w=>S w∧T w) oi v a→S w∧T w→
   wpAnyL P md ops Q B S T n (listed.setIfInBounds i true) (a.put oi.dst v) w→wpAnyL P md ops Q B S T (n+1) listed a w:=by
 intro n
 induction n with
 | zero=>
  intro listed a w _ hr _ hy hS H;refine⟨fun h=>(by rw[h] at hr;cases hr),fun j hj=>?_⟩;by_cases e:j=i
  ·subst e;exact hy.wpOp hi hS ⟨⟨hS.1,fun _=>hS.2⟩,H⟩
  ·have:=ready_mono hj e;rw[H.1] at this;cases this
 | succ n ih=>
  intro listed a w hfree hr hF hy hS H;refine⟨fun h=>(by rw[h] at hr;cases hr),fun j hj=>?_⟩;by_cases e:j=i
  ·subst e;exact hy.wpOp hi hS ⟨⟨hS.1,fun _=>hS.2⟩,H⟩
  ·obtain⟨hju,oj,hoj,hall⟩:=mem_ready.1 hj;have hiu:=(mem_ready.1 hr).1;have hun:=unlisted hiu;have hno:∀x∈oj.after,Region.binds md x=true→x.on≠i:=fun x hx hb he=>by
    have:=hall x hx hb;rw[he,hun] at this;cases this
   have hjC:j∉C:=hC.not_ready hiu hF hj;have hiC:i∉C:=hC.not_ready hiu hF hr;have hF1:Fresh C (listed.setIfInBounds j true):=fun b hb=>by
    have e1:j≠b:=fun h=>hjC (by rw[h];exact hb)
    rw[getD_set_ne true e1];exact hF b hb
   have hF2:Fresh B ((listed.setIfInBounds i true).setIfInBounds j true):=fun b hb=>by
    have e1:j≠b:=fun h=>hjC (by rw[h];exact hBC b hb)
    have e2:i≠b:=fun h=>hiC (by rw[h];exact hBC b hb)
    rw[getD_set_ne true e1,getD_set_ne true e2];exact hF b (hBC b hb)
   have h2:=wpOp_putIf hoj (hfree j oj hoj e hju hno) (fun cs b=>hsel i oi cs b hi) (fun cs b=>hsel j oj cs b hoj) hQ hy (H.2 j (ready_mono hj e));refine wpOp_mono (fun a' w' h3=>?_) h2;have hST:S w'∧T w':=⟨h3.2.1.1,h3.2.1.2 hF2⟩;refine⟨⟨hST.1,fun _=>hST.2⟩,ih _ a' w' (fun k ok hk hki hkl hkn=>hfree k ok hk hki ?_ hkn) (ready_mono hr (Ne.symm e)) hF1 h3.1 hST ?_⟩
   ·by_cases hjk:j=k
    ·subst hjk;exact hju
    ·rw[getD_set_ne true hjk] at hkl;exact hkl
   ·rw[Array.setIfInBounds_comm _ _ e];exact h3.2.2
theorem wpAnyL_take (C:List Nat) {i:Nat} {oi:Oper} {v:Value} {n:Nat} {listed:Array Bool} {a:Act} {w:World} (hi:ops[i]?=some oi)
  (hs:Region.noSelect ops=true) (hf:Region.free md ops listed i=true) (hr:(Region.ready md ops listed).contains i=true) (hC:(waitB md ops C i&&B.all C.contains&&freshB C listed)=true)
  (hQ:∀c a w,Q (.panic c) (a.put oi.dst v) w→Q (.panic c) a w) (hy:YieldsIf P ops (fun w=>S w∧T w) oi v a) (hS:S w∧T w)
  (h:wpAnyL P md ops Q B S T n (listed.setIfInBounds i true) (a.put oi.dst v) w):wpAnyL P md ops Q B S T (n+1) listed a w:=by
 rw[Bool.and_eq_true,Bool.and_eq_true] at hC;exact wpAnyL_first hi (Region.noSelect_spec hs) hQ (wait_spec hC.1.1) (fun b hb=>by simpa using List.all_eq_true.1 hC.1.2 b hb) n listed a w (Region.free_spec hi hf) (by simpa using hr) (fresh_iff.1 hC.2) hy hS h
theorem wpAnyL_firstS {i:Nat} {oi:Oper} {v:Value} (hi:ops[i]?=some oi) (hsel:∀(j:Nat) (o:Oper) cs b,ops[j]?=some o→o.op≠.select cs b)
  (hQ:∀c a w,Q (.panic c) (a.put oi.dst v) w→Q (.panic c) a w) (hB:i∉B):
  ∀(n:Nat) (listed:Array Bool) (a:Act) (w:World),
   (∀j oj,ops[j]?=some oj→j≠i→listed.getD j true=false→(∀e∈oj.after,Region.binds md e=true→e.on≠i)→oi.apart ops oj=true)→
   i∈Region.ready md ops listed→YieldsIf P ops S oi v a→S w→(Fresh B listed→T w)→
   wpAnyL P md ops Q B S T n (listed.setIfInBounds i true) (a.put oi.dst v) w→wpAnyL P md ops Q B S T (n+1) listed a w:=by
 have hback:∀listed,Fresh B (listed.setIfInBounds i true)→Fresh B listed:=fun listed h b hb=>by
  have e2:i≠b:=fun h=>hB (by rw[h];exact hb)
  have:=h b hb
  rwa [getD_set_ne true e2] at this
 intro n
 induction n with
 | zero=>
  intro listed a w _ hr hy hS hT H;refine⟨fun h=>(by rw[h] at hr;cases hr),fun j hj=>?_⟩;by_cases e:j=i
  ·subst e;exact hy.wpOp hi hS ⟨⟨hS,fun hf=>hT (hback _ hf)⟩,H⟩
  ·have:=ready_mono hj e;rw[H.1] at this;cases this
 | succ n ih=>
  intro listed a w hfree hr hy hS hT H;refine⟨fun h=>(by rw[h] at hr;cases hr),fun j hj=>?_⟩;by_cases e:j=i
  ·subst e;exact hy.wpOp hi hS ⟨⟨hS,fun hf=>hT (hback _ hf)⟩,H⟩
  ·obtain⟨hju,oj,hoj,hall⟩:=mem_ready.1 hj;have hun:=unlisted (mem_ready.1 hr).1;have hno:∀x∈oj.after,Region.binds md x=true→x.on≠i:=fun x hx hb he=>by
    have:=hall x hx hb;rw[he,hun] at this;cases this
   have hF2:Fresh B (listed.setIfInBounds j true)→Fresh B ((listed.setIfInBounds i true).setIfInBounds j true):=fun h b hb=>by
    have e2:i≠b:=fun h=>hB (by rw[h];exact hb)
    rw[Array.setIfInBounds_comm _ _ (Ne.symm e),getD_set_ne true e2];exact h b hb
   have h2:=wpOp_putIf hoj (hfree j oj hoj e hju hno) (fun cs b=>hsel i oi cs b hi) (fun cs b=>hsel j oj cs b hoj) hQ hy (H.2 j (ready_mono hj e));refine wpOp_mono (fun a' w' h3=>?_) h2;refine⟨⟨h3.2.1.1,fun hf=>h3.2.1.2 (hF2 hf)⟩,ih _ a' w' (fun k ok hk hki hkl hkn=>hfree k ok hk hki ?_ hkn) (ready_mono hr (Ne.symm e)) h3.1 h3.2.1.1 (fun hf=>h3.2.1.2 (hF2 hf)) ?_⟩
   ·by_cases hjk:j=k
    ·subst hjk;exact hju
    ·rw[getD_set_ne true hjk] at hkl;exact hkl
   ·rw[Array.setIfInBounds_comm _ _ e];exact h3.2.2
theorem wpAnyL_takeS {i:Nat} {oi:Oper} {v:Value} {n:Nat} {listed:Array Bool} {a:Act} {w:World} (hi:ops[i]?=some oi)
  (hs:Region.noSelect ops=true) (hf:Region.free md ops listed i=true) (hr:(Region.ready md ops listed).contains i=true) (hB:B.contains i=false)
  (hQ:∀c a w,Q (.panic c) (a.put oi.dst v) w→Q (.panic c) a w) (hy:YieldsIf P ops S oi v a) (hS:S w∧T w)
  (h:wpAnyL P md ops Q B S T n (listed.setIfInBounds i true) (a.put oi.dst v) w):wpAnyL P md ops Q B S T (n+1) listed a w:=
 wpAnyL_firstS hi (Region.noSelect_spec hs) hQ (by simpa using hB) n listed a w (Region.free_spec hi hf) (by simpa using hr) hy hS.1 (fun _=>hS.2) h
theorem wpAnyL_takeE {i:Nat} {oi:Oper} {v:Value} {n:Nat} {listed:Array Bool} {a:Act} {w:World} (hi:ops[i]?=some oi)
  (hs:Region.noSelect ops=true) (hf:Region.free md ops listed i=true) (hr:(Region.ready md ops listed).contains i=true) (hB:B.contains i=false) (hF:freshB B listed=false)
  (hQ:∀c a w,Q (.panic c) (a.put oi.dst v) w→Q (.panic c) a w) (hy:YieldsIf P ops S oi v a) (hS:S w)
  (h:wpAnyL P md ops Q B S T n (listed.setIfInBounds i true) (a.put oi.dst v) w):wpAnyL P md ops Q B S T (n+1) listed a w:=
 wpAnyL_firstS hi (Region.noSelect_spec hs) hQ (by simpa using hB) n listed a w (Region.free_spec hi hf) (by simpa using hr) hy hS (fun hf=>by rw[fresh_iff.2 hf] at hF;cases hF) h
def AllReadyL (P:Program) (md:Region.Mode) (ops:Array Oper) (Q:Exit→Act→World→Prop) (B:List Nat) (S T:World→Prop) (n:Nat) (listed:Array Bool) (a:Act) (w:World) (rs:List Nat):Prop:=
 ∀i∈rs,wpOp P ops Q i (fun a' w'=>(S w'∧(Fresh B (listed.setIfInBounds i true)→T w'))∧wpAnyL P md ops Q B S T n (listed.setIfInBounds i true) a' w') a w
theorem AllReadyL.nil {n:Nat} {listed:Array Bool} {a:Act} {w:World} :AllReadyL P md ops Q B S T n listed a w []:=fun _ h=>by cases h
theorem AllReadyL.cons {n:Nat} {listed:Array Bool} {a:Act} {w:World} {i:Nat} {o:Oper} {rs:List Nat} (ho:ops[i]?=some o)
  (h:∀K':Act→World→Prop,Shut (∀a w,S w∧T w→(S w∧T w→wpAnyL P md ops Q B S T n (listed.setIfInBounds i true) a w)→K' a w)→if Region.wanted o (yielded ops a.tmps)=true then Oper.wp P o a w K' Q else K' (a.put o.dst undef) w)
  (hs:AllReadyL P md ops Q B S T n listed a w rs):AllReadyL P md ops Q B S T n listed a w (i::rs):=fun j hj=>by
 rcases List.mem_cons.1 hj with rfl | hj
 ·exact wpOp_step ho fun K' hK=>h K' fun a w hST hW=>hK a w ⟨⟨hST.1,fun _=>hST.2⟩,hW hST⟩
 ·exact hs j hj
theorem AllReadyL.last {n:Nat} {listed:Array Bool} {a:Act} {w:World} {i:Nat} {o:Oper} {rs:List Nat} (ho:ops[i]?=some o) (hF:freshB B (listed.setIfInBounds i true)=false)
  (h:∀K':Act→World→Prop,Shut (∀a w,S w→(S w→wpAnyL P md ops Q B S T n (listed.setIfInBounds i true) a w)→K' a w)→if Region.wanted o (yielded ops a.tmps)=true then Oper.wp P o a w K' Q else K' (a.put o.dst undef) w)
  (hs:AllReadyL P md ops Q B S T n listed a w rs):AllReadyL P md ops Q B S T n listed a w (i::rs):=fun j hj=>by
 rcases List.mem_cons.1 hj with rfl | hj
 ·exact wpOp_step ho fun K' hK=>h K' fun a w hS hW=>hK a w ⟨⟨hS,fun hf=>by rw[fresh_iff.2 hf] at hF;cases hF⟩,hW hS⟩
 ·exact hs j hj
theorem wpAnyL_ready {rs:List Nat} {n:Nat} {listed:Array Bool} {a:Act} {w:World} (hr:Region.ready md ops listed=rs) (hne:rs≠ []) (h:AllReadyL P md ops Q B S T n listed a w rs):wpAnyL P md ops Q B S T (n+1) listed a w:=
 ⟨fun h0=>absurd (hr▸h0) hne,hr▸h⟩
theorem wpAnyL_done {listed:Array Bool} {a:Act} {w:World} (hr:Region.ready md ops listed= []) (h:Q .normal a w):∀n,wpAnyL P md ops Q B S T n listed a w
 | 0=>⟨hr,h⟩
 | _+1=>⟨fun _=>h,by rw[hr];simp⟩
theorem wp_region_L {id:Nat} {a:Act} {w:World} (hm:P.follows .mixedOrders=true) (hS:S w.drew∧T w.drew)
  (h:S w.drew∧T w.drew→wpAnyL P .any ops Q B S T ops.size (Array.replicate ops.size false) a w.drew):(Code.region id ops true).wp P Q a w:=
 wp_region_any hm (wpAny_of_L _ _ _ _ (h hS))
end
section
variable {P : Program} {ops : Array Oper} {Q : Exit → Act → World → Prop} {md : Region.Mode} {B : List Nat} {S T : World → Prop}
theorem tkS (i:Nat) {oi:Oper} (v:Value) {n:Nat} {listed:Array Bool} {a:Act} {w:World} (hi:ops[i]?=some oi) (hy:∀w,S w→(execOp a.eval oi).run P w=.ok (.value v) w) (h:wpAnyL P md ops Q B S T n (listed.setIfInBounds i true) (a.put oi.dst v) w)
  (hs:Region.noSelect ops=true:=by kernel_rfl) (hf:Region.free md ops listed i=true:=by kernel_rfl) (hr:(Region.ready md ops listed).contains i=true:=by kernel_rfl) (hB:B.contains i=false:=by kernel_rfl)
  (hw:Region.wanted oi (yielded ops a.tmps)=true:=by rfl) (hQ:∀c a w,Q (.panic c) (a.put oi.dst v) w→Q (.panic c) a w:=by exact fun _ _ _ h=>h) (hS:S w∧T w:=by assumption):wpAnyL P md ops Q B S T (n+1) listed a w:=
 wpAnyL_takeS hi hs hf hr hB hQ (Or.inl ⟨hw,hy⟩) hS h
theorem tkE (i:Nat) {oi:Oper} (v:Value) {n:Nat} {listed:Array Bool} {a:Act} {w:World} (hi:ops[i]?=some oi) (hy:∀w,S w→(execOp a.eval oi).run P w=.ok (.value v) w) (h:wpAnyL P md ops Q B S T n (listed.setIfInBounds i true) (a.put oi.dst v) w)
  (hs:Region.noSelect ops=true:=by kernel_rfl) (hf:Region.free md ops listed i=true:=by kernel_rfl) (hr:(Region.ready md ops listed).contains i=true:=by kernel_rfl) (hB:B.contains i=false:=by kernel_rfl) (hF:freshB B listed=false:=by kernel_rfl)
  (hw:Region.wanted oi (yielded ops a.tmps)=true:=by rfl) (hQ:∀c a w,Q (.panic c) (a.put oi.dst v) w→Q (.panic c) a w:=by exact fun _ _ _ h=>h) (hS:S w:=by assumption):wpAnyL P md ops Q B S T (n+1) listed a w:=
 wpAnyL_takeE hi hs hf hr hB hF hQ (Or.inl ⟨hw,hy⟩) hS h
theorem tkL (C:List Nat) (i:Nat) {oi:Oper} (v:Value) {n:Nat} {listed:Array Bool} {a:Act} {w:World} (hi:ops[i]?=some oi) (hy:∀w,S w∧T w→(execOp a.eval oi).run P w=.ok (.value v) w) (h:wpAnyL P md ops Q B S T n (listed.setIfInBounds i true) (a.put oi.dst v) w)
  (hs:Region.noSelect ops=true:=by kernel_rfl) (hf:Region.free md ops listed i=true:=by kernel_rfl) (hr:(Region.ready md ops listed).contains i=true:=by kernel_rfl) (hC:(waitB md ops C i&&B.all C.contains&&freshB C listed)=true:=by kernel_rfl)
  (hw:Region.wanted oi (yielded ops a.tmps)=true:=by rfl) (hQ:∀c a w,Q (.panic c) (a.put oi.dst v) w→Q (.panic c) a w:=by exact fun _ _ _ h=>h) (hS:S w∧T w:=by assumption):wpAnyL P md ops Q B S T (n+1) listed a w:=
 wpAnyL_take C hi hs hf hr hC hQ (Or.inl ⟨hw,hy⟩) hS h
end
end Go.Proofs.YtjpklmighoondaaGreatDoor.St
namespace Go.Proofs.YtjpklmighoondaaGreatDoor.St
open Go.RowKit
def LnkS (w:World) (X:Nat→Prop) (lv:Value) (M:List (List Bool)):Prop:=
 ∃a cap,lv=.slice a M.length cap∧(M= []∨∃g off,a=some ⟨g,off,none⟩∧X g∧∀i (hi:i < M.length),∃ra rc,w.cell? ⟨g,off+i,none⟩=some (.slice ra M[i].length rc)∧
  (M[i]= []∨∃rg ro,ra=some ⟨rg,ro,none⟩∧X rg∧∀j (hj:j < M[i].length),w.cell? ⟨rg,ro+j,none⟩=some (.bool M[i][j])))
theorem LnkS.keep {w w':World} {X:Nat→Prop} {lv:Value} {M:List (List Bool)} (h:LnkS w X lv M) (hk:∀b,b < w.heap.size→X b→w'.heap[b]?=w.heap[b]?):LnkS w' X lv M:=by
 obtain⟨a,cap,e,h⟩:=h;refine⟨a,cap,e,h.imp id fun⟨g,off,e,hx,h⟩=>⟨g,off,e,hx,fun i hi=>?_⟩⟩;obtain⟨ra,rc,h1,h2⟩:=h i hi;refine⟨ra,rc,(World.cell?_of_block (a:=⟨g,off+i,none⟩) (hk g (World.block_lt_of_cell? w _ h1) hx)).trans h1,h2.imp id fun⟨rg,ro,e,hx',h⟩=>⟨rg,ro,e,hx',fun j hj=>?_⟩⟩;exact(World.cell?_of_block (a:=⟨rg,ro+j,none⟩) (hk rg (World.block_lt_of_cell? w _ (h j hj)) hx')).trans (h j hj)
theorem LnkS.mono {w:World} {X Y:Nat→Prop} {lv:Value} {M:List (List Bool)} (h:LnkS w X lv M) (hk:∀b,b < w.heap.size→X b→Y b):LnkS w Y lv M:=by
 obtain⟨a,cap,e,h⟩:=h;by_cases hM:M= []
 ·exact⟨a,cap,e,.inl hM⟩
 refine⟨a,cap,e,h.imp id fun⟨g,off,e,hx,h⟩=>⟨g,off,e,?_,fun i hi=>?_⟩⟩
 ·obtain⟨_,_,h1,_⟩:=h 0 (List.length_pos_iff.2 hM);exact hk g (World.block_lt_of_cell? w _ h1) hx
 ·obtain⟨ra,rc,h1,h2⟩:=h i hi;by_cases hR:M[i]= []
  ·exact⟨ra,rc,h1,.inl hR⟩
  refine⟨ra,rc,h1,h2.imp id fun⟨rg,ro,e,hx',h⟩=>⟨rg,ro,e,?_,h⟩⟩;exact hk rg (World.block_lt_of_cell? w _ (h 0 (List.length_pos_iff.2 hR))) hx'
theorem LnkS.below {w w':World} {X:Nat→Prop} {lv:Value} {M:List (List Bool)} {B:Nat} (h:LnkS w X lv M) (hb:Below B w w') (hB:w.heap.size≤B):LnkS w' X lv M:=
 h.keep fun b hl _=>hb.block b (Nat.lt_of_lt_of_le hl hB)
theorem LnkS.row {w:World} {X:Nat→Prop} {lv:Value} {M:List (List Bool)} (h:LnkS w X lv M) {i:Nat} (hi:i < M.length):∃g off cap,lv=.slice (some ⟨g,off,none⟩) M.length cap∧X g∧∃ra rc,w.cell? ⟨g,off+i,none⟩=some (.slice ra M[i].length rc)∧
  (M[i]= []∨∃rg ro,ra=some ⟨rg,ro,none⟩∧X rg∧∀j (hj:j < M[i].length),w.cell? ⟨rg,ro+j,none⟩=some (.bool M[i][j])):=by
 obtain⟨a,cap,e,h⟩:=h;rcases h with rfl | ⟨g,off,rfl,hx,h⟩
 ·simp at hi
 ·exact⟨g,off,cap,e,hx,h i hi⟩
def tabL (n:Nat) (r:Nat→Nat→Bool):List (List Bool):=(List.range n).map fun a=>(List.range n).map fun b=>r a b
theorem tabL_len (n:Nat) (r:Nat→Nat→Bool):(tabL n r).length=n:=by simp[tabL]
theorem tabL_row_len {n:Nat} {r:Nat→Nat→Bool} {i:Nat} (h:i < (tabL n r).length):(tabL n r)[i].length=n:=by simp[tabL]
theorem tabL_at {n:Nat} {r:Nat→Nat→Bool} {i j:Nat} (h:i < (tabL n r).length) (h':j < (tabL n r)[i].length):(tabL n r)[i][j]=r i j:=by simp[tabL]
theorem LnkS.tab {w:World} {X:Nat→Prop} {lv:Value} {n:Nat} {r:Nat→Nat→Bool} (h:LnkS w X lv (tabL n r)) {i:Nat} (hi:i < n):∃g off cap,lv=.slice (some ⟨g,off,none⟩) n cap∧∃rg ro rc,w.cell? ⟨g,off+i,none⟩=some (.slice (some ⟨rg,ro,none⟩) n rc)∧∀j,j < n→w.cell? ⟨rg,ro+j,none⟩=some (.bool (r i j)):=by
 have hi':i < (tabL n r).length:=by rw[tabL_len];exact hi
 obtain⟨g,off,cap,e,_,ra,rc,h1,h2⟩:=h.row hi';rw[tabL_len] at e;have hl:=tabL_row_len hi';rcases h2 with h2 | ⟨rg,ro,rfl,_,h3⟩
 ·rw[h2] at hl;simp at hl;omega
 ·rw[hl] at h1;refine⟨g,off,cap,e,rg,ro,rc,h1,fun j hj=>?_⟩;have:=h3 j (by rw[hl];exact hj)
  rwa [tabL_at hi' (by rw[hl];exact hj)] at this
def LTg (w:World) (b:Nat):Prop:=tagD w.heap[b]?=267∨tagD w.heap[b]?=5
def LnkT (w:World) (lv:Value) (M:List (List Bool)):Prop:=LnkS w (LTg w) lv M
theorem LnkT.keep {w w':World} {lv:Value} {M:List (List Bool)} (h:LnkT w lv M) (hk:∀b,LTg w b→w'.heap[b]?=w.heap[b]?):LnkT w' lv M:=
 (LnkS.keep h fun b _ hb=>hk b hb).mono fun b _ hb=>by unfold LTg;rw[hk b hb];exact hb
theorem LTg.lt {w:World} {b:Nat} (h:LTg w b):b < w.heap.size:=by
 rcases Nat.lt_or_ge b w.heap.size with h' | h'
 ·exact h'
 ·unfold LTg at h;rw[Array.getElem?_eq_none h'] at h;rcases h with h | h<;>cases h
end Go.Proofs.YtjpklmighoondaaGreatDoor.St
