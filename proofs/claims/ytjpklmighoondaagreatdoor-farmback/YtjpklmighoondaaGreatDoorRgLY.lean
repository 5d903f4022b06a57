/-
  Regions that draw their order, with loads whose cells a later store of the same region turns: all that waits for such a load is named (B); till one of B has come up a second condition is held. (Nothing of the program in it.)
  Who can talk to whom, in memory: rows of bools.
  The program's net in memory: mails on their way, and who can talk.
-/
import Derived.Deep.RegionHeld3
import Derived.Test.YtjpklmighoondaaGreatDoorJudgeWY
import Derived.Laws.AppendOwn
import Derived.ArgAppend
import Derived.Deep.DeepCutAuto
namespace Go.Proofs.YtjpklmighoondaaGreatDoor.St
section
variable {P : Program} {ops : Array Oper} {Q : Exit → Act → World → Prop} {md : Region.Mode} {B : List Nat} {S T : World → Prop}
def Fresh (B:List Nat) (listed:Array Bool):Prop:=∀b∈B,listed.getD b true=false
def freshB (B:List Nat) (listed:Array Bool):Bool:=B.all fun b=> !listed.getD b true
theorem fresh_iff {B:List Nat} {listed:Array Bool} :freshB B listed=true↔Fresh B listed:=by simp[freshB,Fresh]
def waitB (md:Region.Mode) (ops:Array Oper) (C:List Nat) (i:Nat):Bool:=C.all fun b=>match ops[b]? with
 | some o=>o.after.any fun e=>Region.binds md e&&(e.on==i||C.contains e.on)
 | none=>false
def WaitC (md:Region.Mode) (ops:Array Oper) (C:List Nat) (i:Nat):Prop:=∀b∈C,∃o,ops[b]?=some o∧∃e∈o.after,Region.binds md e=true∧(e.on=i∨e.on∈C)
theorem wait_spec {C:List Nat} {i:Nat} (h:waitB md ops C i=true):WaitC md ops C i:=fun b hb=>by
 have:=List.all_eq_true.1 h b hb;cases ho:ops[b]? with
 | none=>rw[ho] at this;cases this
 | some o=>
  rw[ho] at this;simp only[Array.any_eq_true'] at this;obtain⟨e,he,hp⟩:=this;rw[Bool.and_eq_true,Bool.or_eq_true,beq_iff_eq,List.contains_iff_mem] at hp;exact⟨o,rfl,e,he,hp⟩
def wpAnyL (P:Program) (md:Region.Mode) (ops:Array Oper) (Q:Exit→Act→World→Prop) (B:List Nat) (S T:World→Prop):Nat→Array Bool→Act→World→Prop
 | 0,listed,a,w=>Region.ready md ops listed= []∧Q .normal a w
 | n+1,listed,a,w=>(Region.ready md ops listed= []→Q .normal a w)∧
  ∀i∈Region.ready md ops listed,wpOp P ops Q i (fun a' w'=>(S w'∧(Fresh B (listed.setIfInBounds i true)→T w'))∧wpAnyL P md ops Q B S T n (listed.setIfInBounds i true) a' w') a w
theorem wpAny_of_L:∀(n:Nat) (listed:Array Bool) (a:Act) (w:World),wpAnyL P md ops Q B S T n listed a w→wpAny P md ops Q n listed a w
 | 0,_,_,_,h=>h
 | n+1,_,_,_,h=>⟨h.1,fun i hi=>wpOp_mono (fun a' w' h'=>wpAny_of_L n _ a' w' h'.2) (h.2 i hi)⟩
theorem unlisted {i:Nat} {listed:Array Bool} (h0:listed.getD i true=false):listed.getD i false=false:=by
 rcases Nat.lt_or_ge i listed.size with h' | h'
 ·simp[h'] at h0 ⊢;exact h0
 ·simp[Array.getElem?_eq_none h']
theorem WaitC.not_ready {C:List Nat} {i j:Nat} {listed:Array Bool} (h:WaitC md ops C i) (hi:listed.getD i true=false) (hF:Fresh C listed) (hj:j∈Region.ready md ops listed):j∉C:=fun hm=>by
 obtain⟨o,ho,x,hx,hb,hon⟩:=h j hm;obtain⟨_,o',ho',hall⟩:=mem_ready.1 hj;rw[ho'] at ho;obtain rfl:=Option.some.inj ho;have h1:=hall x hx hb;rcases hon with e | e
 ·rw[e,unlisted hi] at h1;cases h1
 ·rw[unlisted (hF _ e)] at h1;cases h1
theorem wpAnyL_first {C:List Nat} {i:Nat} {oi:Oper} {v:Value} (hi:ops[i]?=some oi) (hsel:∀(j:Nat) (o:Oper) cs b,ops[j]?=some o→o.op≠.select cs b)
  (hQ:∀c a w,Q (.panic c) (a.put oi.dst v) w→Q (.panic c) a w) (hC:WaitC md ops C i) (hBC:∀b∈B,b∈C):
  ∀(n:Nat) (listed:Array Bool) (a:Act) (w:World),
   (∀j oj,ops[j]?=some oj→j≠i→listed.getD j true=false→(∀e∈oj.after,Region.binds md e=true→e.on≠i)→oi.apart ops oj=true)→
   i∈Region.ready md ops listed→Fresh C listed→YieldsIf P ops (fun w=>S w∧T w) oi v a→S w∧T w→
   wpAnyL P md ops Q B S T n (listed.setIfInBounds i true) (a.put oi.dst v) w→wpAnyL P md ops Q B S T (n+1) listed a w:=by
 intro n
 induction n with
 | zero=>
  intro listed a w _ hr _ hy hS H;refine⟨fun h=>(by rw[h] at hr;cases hr),fun j hj=>?_⟩;by_cases e:j=i
  ·subst e;exact hy.wpOp hi hS ⟨⟨hS.1,fun _=>hS.2⟩,H⟩
  ·have:=ready_mono hj e;rw[H.1] at this;cases this
 | succ n ih=>
  intro listed a w hfree hr hF hy hS H;refine⟨fun h=>(by rw[h] at hr;cases hr),fun j hj=>?_⟩;by_cases e:j=i
  ·subst e;exact hy.wpOp hi hS ⟨⟨hS.1,fun _=>hS.2⟩,H⟩
  ·obtain⟨hju,oj,hoj,hall⟩:=mem_ready.1 hj;have hiu:=(mem_ready.1 hr).1;have hun:=unlisted hiu;have hno:∀x∈oj.after,Region.binds md x=true→x.on≠i:=fun x hx hb he=>by
    have:=hall x hx hb;rw[he,hun] at this;cases this
   have hjC:j∉C:=hC.not_ready hiu hF hj;have hiC:i∉C:=hC.not_ready hiu hF hr;have hF1:Fresh C (listed.setIfInBounds j true):=fun b hb=>by
    have e1:j≠b:=fun h=>hjC (by rw[h];exact hb)
    rw[getD_set_ne true e1];exact hF b hb
   have hF2:Fresh B ((listed.setIfInBounds i true).setIfInBounds j true):=fun b hb=>by
    have e1:j≠b:=fun h=>hjC (by rw[h];exact hBC b hb)
    have e2:i≠b:=fun h=>hiC (by rw[h];exact hBC b hb)
    rw[getD_set_ne true e1,getD_set_ne true e2];exact hF b (hBC b hb)
   have h2:=wpOp_putIf hoj (hfree j oj hoj e hju hno) (fun cs b=>hsel i oi cs b hi) (fun cs b=>hsel j oj cs b hoj) hQ hy (H.2 j (ready_mono hj e));refine wpOp_mono (fun a' w' h3=>?_) h2;have hST:S w'∧T w':=⟨h3.2.1.1,h3.2.1.2 hF2⟩;refine⟨⟨hST.1,fun _=>hST.2⟩,ih _ a' w' (fun k ok hk hki hkl hkn=>hfree k ok hk hki ?_ hkn) (ready_mono hr (Ne.symm e)) hF1 h3.1 hST ?_⟩
   ·by_cases hjk:j=k
    ·subst hjk;exact hju
    ·rw[getD_set_ne true hjk] at hkl;exact hkl
   ·rw[Array.setIfInBounds_comm _ _ e];exact h3.2.2
theorem wpAnyL_take (C:List Nat) {i:Nat} {oi:Oper} {v:Value} {n:Nat} {listed:Array Bool} {a:Act} {w:World} (hi:ops[i]?=some oi)
  (hs:Region.noSelect ops=true) (hf:Region.free md ops listed i=true) (hr:(Region.ready md ops listed).contains i=true) (hC:(waitB md ops C i&&B.all C.contains&&freshB C listed)=true)
  (hQ:∀c a w,Q (.panic c) (a.put oi.dst v) w→Q (.panic c) a w) (hy:YieldsIf P ops (fun w=>S w∧T w) oi v a) (hS:S w∧T w)
  (h:wpAnyL P md ops Q B S T n (listed.setIfInBounds i true) (a.put oi.dst v) w):wpAnyL P md ops Q B S T (n+1) listed a w:=by
 rw[Bool.and_eq_true,Bool.and_eq_true] at hC;exact wpAnyL_first hi (Region.noSelect_spec hs) hQ (wait_spec hC.1.1) (fun b hb=>by simpa using List.all_eq_true.1 hC.1.2 b hb) n listed a w (Region.free_spec hi hf) (by simpa using hr) (fresh_iff.1 hC.2) hy hS h
theorem wpAnyL_firstS {i:Nat} {oi:Oper} {v:Value} (hi:ops[i]?=some oi) (hsel:∀(j:Nat) (o:Oper) cs b,ops[j]?=some o→o.op≠.select cs b)
  (hQ:∀c a w,Q (.panic c) (a.put oi.dst v) w→Q (.panic c) a w) (hB:i∉B):
  ∀(n:Nat) (listed:Array Bool) (a:Act) (w:World),
   (∀j oj,ops[j]?=some oj→j≠i→listed.getD j true=false→(∀e∈oj.after,Region.binds md e=true→e.on≠i)→oi.apart ops oj=true)→
   i∈Region.ready md ops listed→YieldsIf P ops S oi v a→S w→(Fresh B listed→T w)→
   wpAnyL P md ops Q B S T n (listed.setIfInBounds i true) (a.put oi.dst v) w→wpAnyL P md ops Q B S T (n+1) listed a w:=by
 have hback:∀listed,Fresh B (listed.setIfInBounds i true)→Fresh B listed:=fun listed h b hb=>by
  have e2:i≠b:=fun h=>hB (by rw[h];exact hb)
  have:=h b hb
  rwa [getD_set_ne true e2] at this
 intro n
 induction n with
 | zero=>
  intro listed a w _ hr hy hS hT H;refine⟨fun h=>(by rw[h] at hr;cases hr),fun j hj=>?_⟩;by_cases e:j=i
  ·subst e;exact hy.wpOp hi hS ⟨⟨hS,fun hf=>hT (hback _ hf)⟩,H⟩
  ·have:=ready_mono hj e;rw[H.1] at this;cases this
 | succ n ih=>
  intro listed a w hfree hr hy hS hT H;refine⟨fun h=>(by rw[h] at hr;cases hr),fun j hj=>?_⟩;by_cases e:j=i
  ·subst e;exact hy.wpOp hi hS ⟨⟨hS,fun hf=>hT (hback _ hf)⟩,H⟩
  ·obtain⟨hju,oj,hoj,hall⟩:=mem_ready.1 hj;have hun:=unlisted (mem_ready.1 hr).1;have hno:∀x∈oj.after,Region.binds md x=true→x.on≠i:=fun x hx hb he=>by
    have:=hall x hx hb;rw[he,hun] at this;cases this
   have hF2:Fresh B (listed.setIfInBounds j true)→Fresh B ((listed.setIfInBounds i true).setIfInBounds j true):=fun h b hb=>by
    have e2:i≠b:=fun h=>hB (by rw[h];exact hb)
    rw[Array.setIfInBounds_comm _ _ (Ne.symm e),getD_set_ne true e2];exact h b hb
   have h2:=wpOp_putIf hoj (hfree j oj hoj e hju hno) (fun cs b=>hsel i oi cs b hi) (fun cs b=>hsel j oj cs b hoj) hQ hy (H.2 j (ready_mono hj e));refine wpOp_mono (fun a' w' h3=>?_) h2;refine⟨⟨h3.2.1.1,fun hf=>h3.2.1.2 (hF2 hf)⟩,ih _ a' w' (fun k ok hk hki hkl hkn=>hfree k ok hk hki ?_ hkn) (ready_mono hr (Ne.symm e)) h3.1 h3.2.1.1 (fun hf=>h3.2.1.2 (hF2 hf)) ?_⟩
   ·by_cases hjk:j=k
    ·subst hjk;exact hju
    ·rw[getD_set_ne true hjk] at hkl;exact hkl
   ·rw[Array.setIfInBounds_comm _ _ e];exact h3.2.2
theorem wpAnyL_takeS {i:Nat} {oi:Oper} {v:Value} {n:Nat} {listed:Array Bool} {a:Act} {w:World} (hi:ops[i]?=some oi)
  (hs:Region.noSelect ops=true) (hf:Region.free md ops listed i=true) (hr:(Region.ready md ops listed).contains i=true) (hB:B.contains i=false)
  (hQ:∀c a w,Q (.panic c) (a.put oi.dst v) w→Q (.panic c) a w) (hy:YieldsIf P ops S oi v a) (hS:S w∧T w)
  (h:wpAnyL P md ops Q B S T n (listed.setIfInBounds i true) (a.put oi.dst v) w):wpAnyL P md ops Q B S T (n+1) listed a w:=
 wpAnyL_firstS hi (Region.noSelect_spec hs) hQ (by simpa using hB) n listed a w (Region.free_spec hi hf) (by simpa using hr) hy hS.1 (fun _=>hS.2) h
theorem wpAnyL_takeE {i:Nat} {oi:Oper} {v:Value} {n:Nat} {listed:Array Bool} {a:Act} {w:World} (hi:ops[i]?=some oi)
  (hs:Region.noSelect ops=true) (hf:Region.free md ops listed i=true) (hr:(Region.ready md ops listed).contains i=true) (hB:B.contains i=false) (hF:freshB B listed=false)
  (hQ:∀c a w,Q (.panic c) (a.put oi.dst v) w→Q (.panic c) a w) (hy:YieldsIf P ops S oi v a) (hS:S w)
  (h:wpAnyL P md ops Q B S T n (listed.setIfInBounds i true) (a.put oi.dst v) w):wpAnyL P md ops Q B S T (n+1) listed a w:=
 wpAnyL_firstS hi (Region.noSelect_spec hs) hQ (by simpa using hB) n listed a w (Region.free_spec hi hf) (by simpa using hr) hy hS (fun hf=>by rw[fresh_iff.2 hf] at hF;cases hF) h
def AllReadyL (P:Program) (md:Region.Mode) (ops:Array Oper) (Q:Exit→Act→World→Prop) (B:List Nat) (S T:World→Prop) (n:Nat) (listed:Array Bool) (a:Act) (w:World) (rs:List Nat):Prop:=
 ∀i∈rs,wpOp P ops Q i (fun a' w'=>(S w'∧(Fresh B (listed.setIfInBounds i true)→T w'))∧wpAnyL P md ops Q B S T n (listed.setIfInBounds i true) a' w') a w
theorem AllReadyL.nil {n:Nat} {listed:Array Bool} {a:Act} {w:World} :AllReadyL P md ops Q B S T n listed a w []:=fun _ h=>by cases h
theorem AllReadyL.cons {n:Nat} {listed:Array Bool} {a:Act} {w:World} {i:Nat} {o:Oper} {rs:List Nat} (ho:ops[i]?=some o)
  (h:∀K':Act→World→Prop,Shut (∀a w,S w∧T w→(S w∧T w→wpAnyL P md ops Q B S T n (listed.setIfInBounds i true) a w)→K' a w)→if Region.wanted o (yielded ops a.tmps)=true then Oper.wp P o a w K' Q else K' (a.put o.dst undef) w)
  (hs:AllReadyL P md ops Q B S T n listed a w rs):AllReadyL P md ops Q B S T n listed a w (i::rs):=fun j hj=>by
 rcases List.mem_cons.1 hj with rfl | hj
 ·exact wpOp_step ho fun K' hK=>h K' fun a w hST hW=>hK a w ⟨⟨hST.1,fun _=>hST.2⟩,hW hST⟩
 ·exact hs j hj
theorem AllReadyL.last {n:Nat} {listed:Array Bool} {a:Act} {w:World} {i:Nat} {o:Oper} {rs:List Nat} (ho:ops[i]?=some o) (hF:freshB B (listed.setIfInBounds i true)=false)
  (h:∀K':Act→World→Prop,Shut (∀a w,S w→(S w→wpAnyL P md ops Q B S T n (listed.setIfInBounds i true) a w)→K' a w)→if Region.wanted o (yielded ops a.tmps)=true then Oper.wp P o a w K' Q else K' (a.put o.dst undef) w)
  (hs:AllReadyL P md ops Q B S T n listed a w rs):AllReadyL P md ops Q B S T n listed a w (i::rs):=fun j hj=>by
 rcases List.mem_cons.1 hj with rfl | hj
 ·exact wpOp_step ho fun K' hK=>h K' fun a w hS hW=>hK a w ⟨⟨hS,fun hf=>by rw[fresh_iff.2 hf] at hF;cases hF⟩,hW hS⟩
 ·exact hs j hj
theorem wpAnyL_ready {rs:List Nat} {n:Nat} {listed:Array Bool} {a:Act} {w:World} (hr:Region.ready md ops listed=rs) (hne:rs≠ []) (h:AllReadyL P md ops Q B S T n listed a w rs):wpAnyL P md ops Q B S T (n+1) listed a w:=
 ⟨fun h0=>absurd (hr▸h0) hne,hr▸h⟩
theorem wpAnyL_done {listed:Array Bool} {a:Act} {w:World} (hr:Region.ready md ops listed= []) (h:Q .normal a w):∀n,wpAnyL P md ops Q B S T n listed a w
 | 0=>⟨hr,h⟩
 | _+1=>⟨fun _=>h,by rw[hr];simp⟩
theorem wp_region_L {id:Nat} {a:Act} {w:World} (hm:P.follows .mixedOrders=true) (hS:S w.drew∧T w.drew)
  (h:S w.drew∧T w.drew→wpAnyL P .any ops Q B S T ops.size (Array.replicate ops.size false) a w.drew):(Code.region id ops true).wp P Q a w:=
 wp_region_any hm (wpAny_of_L _ _ _ _ (h hS))
end
section
variable {P : Program} {ops : Array Oper} {Q : Exit → Act → World → Prop} {md : Region.Mode} {B : List Nat} {S T : World → Prop}
theorem tkS (i:Nat) {oi:Oper} (v:Value) {n:Nat} {listed:Array Bool} {a:Act} {w:World} (hi:ops[i]?=some oi) (hy:∀w,S w→(execOp a.eval oi).run P w=.ok (.value v) w) (h:wpAnyL P md ops Q B S T n (listed.setIfInBounds i true) (a.put oi.dst v) w)
  (hs:Region.noSelect ops=true:=by kernel_rfl) (hf:Region.free md ops listed i=true:=by kernel_rfl) (hr:(Region.ready md ops listed).contains i=true:=by kernel_rfl) (hB:B.contains i=false:=by kernel_rfl)
  (hw:Region.wanted oi (yielded ops a.tmps)=true:=by rfl) (hQ:∀c a w,Q (.panic c) (a.put oi.dst v) w→Q (.panic c) a w:=by exact fun _ _ _ h=>h) (hS:S w∧T w:=by assumption):wpAnyL P md ops Q B S T (n+1) listed a w:=
 wpAnyL_takeS hi hs hf hr hB hQ (Or.inl ⟨hw,hy⟩) hS h
theorem tkE (i:Nat) {oi:Oper} (v:Value) {n:Nat} {listed:Array Bool} {a:Act} {w:World} (hi:ops[i]?=some oi) (hy:∀w,S w→(execOp a.eval oi).run P w=.ok (.value v) w) (h:wpAnyL P md ops Q B S T n (listed.setIfInBounds i true) (a.put oi.dst v) w)
  (hs:Region.noSelect ops=true:=by kernel_rfl) (hf:Region.free md ops listed i=true:=by kernel_rfl) (hr:(Region.ready md ops listed).contains i=true:=by kernel_rfl) (hB:B.contains i=false:=by kernel_rfl) (hF:freshB B listed=false:=by kernel_rfl)
  (hw:Region.wanted oi (yielded ops a.tmps)=true:=by rfl) (hQ:∀c a w,Q (.panic c) (a.put oi.dst v) w→Q (.panic c) a w:=by exact fun _ _ _ h=>h) (hS:S w:=by assumption):wpAnyL P md ops Q B S T (n+1) listed a w:=
 wpAnyL_takeE hi hs hf hr hB hF hQ (Or.inl ⟨hw,hy⟩) hS h
theorem tkL (C:List Nat) (i:Nat) {oi:Oper} (v:Value) {n:Nat} {listed:Array Bool} {a:Act} {w:World} (hi:ops[i]?=some oi) (hy:∀w,S w∧T w→(execOp a.eval oi).run P w=.ok (.value v) w) (h:wpAnyL P md ops Q B S T n (listed.setIfInBounds i true) (a.put oi.dst v) w)
  (hs:Region.noSelect ops=true:=by kernel_rfl) (hf:Region.free md ops listed i=true:=by kernel_rfl) (hr:(Region.ready md ops listed).contains i=true:=by kernel_rfl) (hC:(waitB md ops C i&&B.all C.contains&&freshB C listed)=true:=by kernel_rfl)
  (hw:Region.wanted oi (yielded ops a.tmps)=true:=by rfl) (hQ:∀c a w,Q (.panic c) (a.put oi.dst v) w→Q (.panic c) a w:=by exact fun _ _ _ h=>h) (hS:S w∧T w:=by assumption):wpAnyL P md ops Q B S T (n+1) listed a w:=
 wpAnyL_take C hi hs hf hr hC hQ (Or.inl ⟨hw,hy⟩) hS h
end
end Go.Proofs.YtjpklmighoondaaGreatDoor.St
namespace Go.Proofs.YtjpklmighoondaaGreatDoor.St
open Go.RowKit
def LnkS (w:World) (X:Nat→Prop) (lv:Value) (M:List (List Bool)):Prop:=
 ∃a cap,lv=.slice a M.length cap∧(M= []∨∃g off,a=some ⟨g,off,none⟩∧X g∧∀i (hi:i < M.length),∃ra rc,w.cell? ⟨g,off+i,none⟩=some (.slice ra M[i].length rc)∧
  (M[i]= []∨∃rg ro,ra=some ⟨rg,ro,none⟩∧X rg∧∀j (hj:j < M[i].length),w.cell? ⟨rg,ro+j,none⟩=some (.bool M[i][j])))
theorem LnkS.keep {w w':World} {X:Nat→Prop} {lv:Value} {M:List (List Bool)} (h:LnkS w X lv M) (hk:∀b,b < w.heap.size→X b→w'.heap[b]?=w.heap[b]?):LnkS w' X lv M:=by
 obtain⟨a,cap,e,h⟩:=h;refine⟨a,cap,e,h.imp id fun⟨g,off,e,hx,h⟩=>⟨g,off,e,hx,fun i hi=>?_⟩⟩;obtain⟨ra,rc,h1,h2⟩:=h i hi;refine⟨ra,rc,(World.cell?_of_block (a:=⟨g,off+i,none⟩) (hk g (World.block_lt_of_cell? w _ h1) hx)).trans h1,h2.imp id fun⟨rg,ro,e,hx',h⟩=>⟨rg,ro,e,hx',fun j hj=>?_⟩⟩;exact(World.cell?_of_block (a:=⟨rg,ro+j,none⟩) (hk rg (World.block_lt_of_cell? w _ (h j hj)) hx')).trans (h j hj)
theorem LnkS.mono {w:World} {X Y:Nat→Prop} {lv:Value} {M:List (List Bool)} (h:LnkS w X lv M) (hk:∀b,b < w.heap.size→X b→Y b):LnkS w Y lv M:=by
 obtain⟨a,cap,e,h⟩:=h;by_cases hM:M= []
 ·exact⟨a,cap,e,.inl hM⟩
 refine⟨a,cap,e,h.imp id fun⟨g,off,e,hx,h⟩=>⟨g,off,e,?_,fun i hi=>?_⟩⟩
 ·obtain⟨_,_,h1,_⟩:=h 0 (List.length_pos_iff.2 hM);exact hk g (World.block_lt_of_cell? w _ h1) hx
 ·obtain⟨ra,rc,h1,h2⟩:=h i hi;by_cases hR:M[i]= []
  ·exact⟨ra,rc,h1,.inl hR⟩
  refine⟨ra,rc,h1,h2.imp id fun⟨rg,ro,e,hx',h⟩=>⟨rg,ro,e,?_,h⟩⟩;exact hk rg (World.block_lt_of_cell? w _ (h 0 (List.length_pos_iff.2 hR))) hx'
theorem LnkS.below {w w':World} {X:Nat→Prop} {lv:Value} {M:List (List Bool)} {B:Nat} (h:LnkS w X lv M) (hb:Below B w w') (hB:w.heap.size≤B):LnkS w' X lv M:=
 h.keep fun b hl _=>hb.block b (Nat.lt_of_lt_of_le hl hB)
theorem LnkS.row {w:World} {X:Nat→Prop} {lv:Value} {M:List (List Bool)} (h:LnkS w X lv M) {i:Nat} (hi:i < M.length):∃g off cap,lv=.slice (some ⟨g,off,none⟩) M.length cap∧X g∧∃ra rc,w.cell? ⟨g,off+i,none⟩=some (.slice ra M[i].length rc)∧
  (M[i]= []∨∃rg ro,ra=some ⟨rg,ro,none⟩∧X rg∧∀j (hj:j < M[i].length),w.cell? ⟨rg,ro+j,none⟩=some (.bool M[i][j])):=by
 obtain⟨a,cap,e,h⟩:=h;rcases h with rfl | ⟨g,off,rfl,hx,h⟩
 ·simp at hi
 ·exact⟨g,off,cap,e,hx,h i hi⟩
def tabL (n:Nat) (r:Nat→Nat→Bool):List (List Bool):=(List.range n).map fun a=>(List.range n).map fun b=>r a b
theorem tabL_len (n:Nat) (r:Nat→Nat→Bool):(tabL n r).length=n:=by simp[tabL]
theorem tabL_row_len {n:Nat} {r:Nat→Nat→Bool} {i:Nat} (h:i < (tabL n r).length):(tabL n r)[i].length=n:=by simp[tabL]
theorem tabL_at {n:Nat} {r:Nat→Nat→Bool} {i j:Nat} (h:i < (tabL n r).length) (h':j < (tabL n r)[i].length):(tabL n r)[i][j]=r i j:=by simp[tabL]
theorem LnkS.tab {w:World} {X:Nat→Prop} {lv:Value} {n:Nat} {r:Nat→Nat→Bool} (h:LnkS w X lv (tabL n r)) {i:Nat} (hi:i < n):∃g off cap,lv=.slice (some ⟨g,off,none⟩) n cap∧∃rg ro rc,w.cell? ⟨g,off+i,none⟩=some (.slice (some ⟨rg,ro,none⟩) n rc)∧∀j,j < n→w.cell? ⟨rg,ro+j,none⟩=some (.bool (r i j)):=by
 have hi':i < (tabL n r).length:=by rw[tabL_len];exact hi
 obtain⟨g,off,cap,e,_,ra,rc,h1,h2⟩:=h.row hi';rw[tabL_len] at e;have hl:=tabL_row_len hi';rcases h2 with h2 | ⟨rg,ro,rfl,_,h3⟩
 ·rw[h2] at hl;simp at hl;omega
 ·rw[hl] at h1;refine⟨g,off,cap,e,rg,ro,rc,h1,fun j hj=>?_⟩;have:=h3 j (by rw[hl];exact hj)
  rwa [tabL_at hi' (by rw[hl];exact hj)] at this
def LTg (w:World) (b:Nat):Prop:=tagD w.heap[b]?=267∨tagD w.heap[b]?=5
def LnkT (w:World) (lv:Value) (M:List (List Bool)):Prop:=LnkS w (LTg w) lv M
theorem LnkT.keep {w w':World} {lv:Value} {M:List (List Bool)} (h:LnkT w lv M) (hk:∀b,LTg w b→w'.heap[b]?=w.heap[b]?):LnkT w' lv M:=
 (LnkS.keep h fun b _ hb=>hk b hb).mono fun b _ hb=>by unfold LTg;rw[hk b hb];exact hb
theorem LTg.lt {w:World} {b:Nat} (h:LTg w b):b < w.heap.size:=by
 rcases Nat.lt_or_ge b w.heap.size with h' | h'
 ·exact h'
 ·unfold LTg at h;rw[Array.getElem?_eq_none h'] at h;rcases h with h | h<;>cases h
open Go.RowKit
structure Mq where
 fr:Int
 tt:Int
 key:Int
 rd:Int
 tells:Bool
 t:Int
 c:Int
 v:Int
def mqC (m:Mq):List Value:= [.int .i64 m.fr,.int .i64 m.tt,.int .i64 m.key,.int .i64 m.rd,.bool m.tells,.int .i64 m.t,.int .i64 m.c,.int .i64 m.v]
def mqV (m:Mq):Value:=.agg #[.int .i64 m.fr,.int .i64 m.tt,.int .i64 m.key,.int .i64 m.rd,.bool m.tells,.int .i64 m.t,.int .i64 m.c,.int .i64 m.v]
def mq0:Mq:=⟨0,0,0,0,false,0,0,0⟩
def mqCs (L:List Mq):List Value:=L.flatMap mqC
theorem mqCs_app (L M:List Mq):mqCs (L++M)=mqCs L++mqCs M:=by simp[mqCs]
theorem mqCs_one (m:Mq):mqCs [m]=mqC m:=by simp[mqCs]
theorem mqCs_len (L:List Mq):(mqCs L).length=L.length*8:=by
 induction L with
 | nil=>rfl
 | cons m L ih=>rw[show m::L= [m]++L from rfl,mqCs_app,List.length_append,ih,mqCs_one];simp[mqC];omega
theorem mqC_one {m:Mq} {u:Value} (h:u∈mqC m):u.oneCell'=true:=by
 simp[mqC] at h;rcases h with rfl | rfl | rfl | rfl | rfl | rfl | rfl | rfl<;>rfl
theorem mqCs_ones {L:List Mq} {u:Value} (h:u∈mqCs L):u.oneCell'=true:=by
 obtain⟨m,_,hm⟩:=List.mem_flatMap.1 h;exact mqC_one hm
theorem infoMq:(Tryz.prog.info? 202).map (fun i=>(i.zero,i.size,i.bytes))=some (some (Value.agg #[.int .i64 0,.int .i64 0,.int .i64 0,.int .i64 0,.bool false,.int .i64 0,.int .i64 0,.int .i64 0]),8,64):=by kernel_rfl
theorem sizeMq:(Tryz.prog.info? 202).map (·.size)=some 8:=by kernel_rfl
theorem blkMq {w:World} {b:Nat} {t:TypeId} {m:Mq} (h:w.heap[b]?=some (.cells #[.int .i64 m.fr,.int .i64 m.tt,.int .i64 m.key,.int .i64 m.rd,.bool m.tells,.int .i64 m.t,.int .i64 m.c,.int .i64 m.v] t)):w.cell? ⟨b,0,none⟩=some (.int .i64 m.fr)∧w.cell? ⟨b,1,none⟩=some (.int .i64 m.tt)∧w.cell? ⟨b,2,none⟩=some (.int .i64 m.key)∧w.cell? ⟨b,3,none⟩=some (.int .i64 m.rd)∧w.cell? ⟨b,4,none⟩=some (.bool m.tells)∧w.cell? ⟨b,5,none⟩=some (.int .i64 m.t)∧w.cell? ⟨b,6,none⟩=some (.int .i64 m.c)∧w.cell? ⟨b,7,none⟩=some (.int .i64 m.v):=
 ⟨by rw[cell_of_row _ _ _ _ t _ h];rfl,by rw[cell_of_row _ _ _ _ t _ h];rfl,by rw[cell_of_row _ _ _ _ t _ h];rfl,by rw[cell_of_row _ _ _ _ t _ h];rfl,by rw[cell_of_row _ _ _ _ t _ h];rfl,by rw[cell_of_row _ _ _ _ t _ h];rfl,by rw[cell_of_row _ _ _ _ t _ h];rfl,by rw[cell_of_row _ _ _ _ t _ h];rfl⟩
theorem mqCs_at {L:List Mq} {k j:Nat} (hk:k < L.length) {u:Value} (h:(mqC L[k])[j]?=some u):(mqCs L)[k*8+j]?=some u:=by
 have:=flat_at (c:=mqC) (m:=8) (fun _=>rfl) L k j hk (by have:=(List.getElem?_eq_some_iff.1 h).1;exact this);unfold mqCs;rw[this];exact h
theorem mqCs_drop {L:List Mq} {k j:Nat} (hk:k≤L.length) {u:Value} (h:(mqCs (L.drop k))[j]?=some u):(mqCs L)[k*8+j]?=some u:=by
 have hl:(mqCs (L.take k)).length=k*8:=by rw[mqCs_len,List.length_take,Nat.min_eq_left hk]
 rw[←List.take_append_drop k L,mqCs_app,List.getElem?_append_right (by omega),hl,show k*8+j - k*8=j by omega];exact h
theorem setMq {W:World} {b:Nat} {t:TypeId} {x0 x1 x2 x3 x4 x5 x6 x7 y0 y1 y2 y3 y4 y5 y6 y7:Value} (h:W.heap[b]?=some (.cells #[x0,x1,x2,x3,x4,x5,x6,x7] t (0,0))):(((((((((W).setCell ⟨b,0,none⟩ (y0)).setCell ⟨b,1,none⟩ (y1)).setCell ⟨b,2,none⟩ (y2)).setCell ⟨b,3,none⟩ (y3)).setCell ⟨b,4,none⟩ (y4)).setCell ⟨b,5,none⟩ (y5)).setCell ⟨b,6,none⟩ (y6)).setCell ⟨b,7,none⟩ (y7)).heap[b]?=some (.cells #[y0,y1,y2,y3,y4,y5,y6,y7] t (0,0)):=by
 have h0:((W).setCell ⟨b,0,none⟩ y0).heap[b]?=some (.cells #[y0,x1,x2,x3,x4,x5,x6,x7] t (0,0)):=heap_setCell_same _ b 0 _ t _ h;have h1:(((W).setCell ⟨b,0,none⟩ y0).setCell ⟨b,1,none⟩ y1).heap[b]?=some (.cells #[y0,y1,x2,x3,x4,x5,x6,x7] t (0,0)):=heap_setCell_same _ b 1 _ t _ h0;have h2:((((W).setCell ⟨b,0,none⟩ y0).setCell ⟨b,1,none⟩ y1).setCell ⟨b,2,none⟩ y2).heap[b]?=some (.cells #[y0,y1,y2,x3,x4,x5,x6,x7] t (0,0)):=heap_setCell_same _ b 2 _ t _ h1;have h3:(((((W).setCell ⟨b,0,none⟩ y0).setCell ⟨b,1,none⟩ y1).setCell ⟨b,2,none⟩ y2).setCell ⟨b,3,none⟩ y3).heap[b]?=some (.cells #[y0,y1,y2,y3,x4,x5,x6,x7] t (0,0)):=heap_setCell_same _ b 3 _ t _ h2;have h4:((((((W).setCell ⟨b,0,none⟩ y0).setCell ⟨b,1,none⟩ y1).setCell ⟨b,2,none⟩ y2).setCell ⟨b,3,none⟩ y3).setCell ⟨b,4,none⟩ y4).heap[b]?=some (.cells #[y0,y1,y2,y3,y4,x5,x6,x7] t (0,0)):=heap_setCell_same _ b 4 _ t _ h3;have h5:(((((((W).setCell ⟨b,0,none⟩ y0).setCell ⟨b,1,none⟩ y1).setCell ⟨b,2,none⟩ y2).setCell ⟨b,3,none⟩ y3).setCell ⟨b,4,none⟩ y4).setCell ⟨b,5,none⟩ y5).heap[b]?=some (.cells #[y0,y1,y2,y3,y4,y5,x6,x7] t (0,0)):=heap_setCell_same _ b 5 _ t _ h4;have h6:((((((((W).setCell ⟨b,0,none⟩ y0).setCell ⟨b,1,none⟩ y1).setCell ⟨b,2,none⟩ y2).setCell ⟨b,3,none⟩ y3).setCell ⟨b,4,none⟩ y4).setCell ⟨b,5,none⟩ y5).setCell ⟨b,6,none⟩ y6).heap[b]?=some (.cells #[y0,y1,y2,y3,y4,y5,y6,x7] t (0,0)):=heap_setCell_same _ b 6 _ t _ h5
 have h7:(((((((((W).setCell ⟨b,0,none⟩ y0).setCell ⟨b,1,none⟩ y1).setCell ⟨b,2,none⟩ y2).setCell ⟨b,3,none⟩ y3).setCell ⟨b,4,none⟩ y4).setCell ⟨b,5,none⟩ y5).setCell ⟨b,6,none⟩ y6).setCell ⟨b,7,none⟩ y7).heap[b]?=some (.cells #[y0,y1,y2,y3,y4,y5,y6,y7] t (0,0)):=heap_setCell_same _ b 7 _ t _ h6;exact h7
theorem setMq_bel {B:Nat} {w W:World} {b:Nat} (y0 y1 y2 y3 y4 y5 y6 y7:Value) (h:Below B w W) (hb:B≤b):Below B w (((((((((W).setCell ⟨b,0,none⟩ (y0)).setCell ⟨b,1,none⟩ (y1)).setCell ⟨b,2,none⟩ (y2)).setCell ⟨b,3,none⟩ (y3)).setCell ⟨b,4,none⟩ (y4)).setCell ⟨b,5,none⟩ (y5)).setCell ⟨b,6,none⟩ (y6)).setCell ⟨b,7,none⟩ (y7)):=
 ((((((((h).setCell (p:=⟨b,0,none⟩) hb _).setCell (p:=⟨b,1,none⟩) hb _).setCell (p:=⟨b,2,none⟩) hb _).setCell (p:=⟨b,3,none⟩) hb _).setCell (p:=⟨b,4,none⟩) hb _).setCell (p:=⟨b,5,none⟩) hb _).setCell (p:=⟨b,6,none⟩) hb _).setCell (p:=⟨b,7,none⟩) hb _
theorem grown_setCell (w:World) (a:Addr) (u:Value):w.grownBy (w.setCell a u) (some a.block):=
 ⟨rfl,rfl,rfl,by simp[World.setCell],fun k _ hne=>by
  have:a.block≠k:=fun e=>hne (by rw[e])
  simp[World.setCell,Array.getElem?_modify,this]⟩
theorem grown_drew (w:World):w.grownBy w.drew none:=⟨rfl,rfl,rfl,Nat.le_refl _,fun _ _ _=>rfl⟩
theorem grown_below {w w':World} (h:Below w.heap.size w w'):w.grownBy w' none:=⟨h.os,h.tape,h.output,h.size,fun k hk _=>h.block k hk⟩
structure NetP (w : World) (base B o : Nat) (lv v : Value) (L : List Mq) : Prop where
 c0:w.cell? ⟨B,o,none⟩=some v
 c1:w.cell? ⟨B,o+1,none⟩=some lv
 f0:w.frozen? ⟨B,o,none⟩=false
 row:w.ownsRow base 202 8 v L.length (mqCs L)
 lo:base≤w.heap.size
 ne:v.ownBlock≠some B
section
variable {w w' : World} {base B o : Nat} {lv v : Value} {L : List Mq}
theorem NetP.slice (h:NetP w base B o lv v L):∃a cap,v=.slice a L.length cap:=ownsRow_slice h.row
theorem NetP.lt (h:NetP w base B o lv v L):B < w.heap.size:=World.block_lt_of_cell? w _ h.c0
theorem NetP.keep (h:NetP w base B o lv v L) (hb:w'.heap[B]?=w.heap[B]?) (hv:∀b,v.ownBlock=some b→w'.heap[b]?=w.heap[b]?) (hs:w.heap.size≤w'.heap.size):NetP w' base B o lv v L:=
 ⟨(World.cell?_of_block (a:=⟨B,o,none⟩) hb).trans h.c0,(World.cell?_of_block (a:=⟨B,o+1,none⟩) hb).trans h.c1,(World.frozen?_of_block (a:=⟨B,o,none⟩) hb).trans h.f0,ownsRow_same h.row hv,Nat.le_trans h.lo hs,h.ne⟩
theorem NetP.below (h:NetP w base B o lv v L) (hb:Below w.heap.size w w'):NetP w' base B o lv v L:=
 h.keep (hb.block B h.lt) (fun b hv=>hb.block b (ownsRow_block h.row b hv).2.1) hb.size
theorem NetP.at (h:NetP w base B o lv v L) {k:Nat} (hk:k < L.length):∃g cap,v=.slice (some ⟨g,0,none⟩) L.length cap∧L.length≤cap∧base≤g∧∀m,L[k]?=some m→w.cell? ⟨g,k*8,none⟩=some (.int .i64 m.fr)∧w.cell? ⟨g,k*8+1,none⟩=some (.int .i64 m.tt)∧w.cell? ⟨g,k*8+2,none⟩=some (.int .i64 m.key)∧w.cell? ⟨g,k*8+3,none⟩=some (.int .i64 m.rd)∧w.cell? ⟨g,k*8+4,none⟩=some (.bool m.tells)∧w.cell? ⟨g,k*8+5,none⟩=some (.int .i64 m.t)∧w.cell? ⟨g,k*8+6,none⟩=some (.int .i64 m.c)∧w.cell? ⟨g,k*8+7,none⟩=some (.int .i64 m.v):=by
 rcases h.row.2 with ⟨_,e⟩ | ⟨g,cap,cur,e,hb,_,h1,_⟩
 ·omega
 ·refine⟨g,cap,e,h1,hb,fun m hm=>?_⟩;obtain rfl:L[k]=m:=by rw[List.getElem?_eq_getElem hk] at hm;exact Option.some.inj hm
  have hcel:=h.row.cells (g:=g) (by rw[e];rfl);have hh:∀j u,(mqC L[k])[j]?=some u→w.cell? ⟨g,k*8+j,none⟩=some u:=fun j u hj=>by
   have:=hcel _ _ (mqCs_at hk hj)
   rwa [Addr.add_lit,Nat.zero_add] at this
  exact⟨hh 0 _ rfl,hh 1 _ rfl,hh 2 _ rfl,hh 3 _ rfl,hh 4 _ rfl,hh 5 _ rfl,hh 6 _ rfl,hh 7 _ rfl⟩
structure MailT (base B o : Nat) (v : Value) (L' : List Mq) (w w' : World) (v' : Value) : Prop where
 blk:w'.heap[B]?=(w.setCell ⟨B,o,none⟩ v').heap[B]?
 row:w'.ownsRow base 202 8 v' L'.length (mqCs L')
 own:v'.ownBlock=v.ownBlock∨∃b,v'.ownBlock=some b∧w.heap.size≤b
 rest:∀b,b < w.heap.size→b≠B→v.ownBlock≠some b→w'.heap[b]?=w.heap[b]?
 size:w.heap.size≤w'.heap.size
 os:w'.os=w.os
 tape:w'.tape=w.tape
 output:w'.output=w.output
def MailTold (base B o:Nat) (v:Value) (L':List Mq) (w w':World):Prop:=∃v',MailT base B o v L' w w' v'
theorem MailT.of {w1:World} {v':Value} {L':List Mq} (h:NetP w base B o lv v L) (hg:w.grownBy w1 v.ownBlock) (hr:w1.ownsRow base 202 8 v' L'.length (mqCs L')) (hv:v'.ownBlock=v.ownBlock∨∃b,v'.ownBlock=some b∧w.heap.size≤b):MailT base B o v L' w (w1.setCell ⟨B,o,none⟩ v') v':=by
 have hB:=h.lt;have e1:w1.heap[B]?=w.heap[B]?:=hg.block B hB fun e=>h.ne e.symm
 have hne:v'.ownBlock≠some B:=by
  rcases hv with e | ⟨b,e,hb⟩
  ·rw[e];exact h.ne
  ·rw[e];intro e';cases e';omega
 refine⟨?_,ownsRow_same hr fun b hb=>Below.heap_setCell _ _ _ b (fun e=>hne (by rw[hb];exact congrArg some e)),hv,fun b hb h1 h2=>(Below.heap_setCell w1 ⟨B,o,none⟩ v' b h1).trans (hg.block b hb (fun e=>h2 e.symm)),by have:=hg.size;simpa using this,hg.os,hg.tape,hg.output⟩;simp only[World.setCell,Array.getElem?_modify,if_true,e1]
theorem MailT.pre {w0:World} {v':Value} {L':List Mq} (h:NetP w0 base B o lv v L) (hb:Below w0.heap.size w0 w) (ht:MailT base B o v L' w w' v'):MailT base B o v L' w0 w' v':=by
 refine⟨?_,ht.row,ht.own.imp id fun⟨b,e,hb'⟩=>⟨b,e,Nat.le_trans hb.size hb'⟩,fun b h1 h2 h3=>(ht.rest b (Nat.lt_of_lt_of_le h1 hb.size) h2 h3).trans (hb.block b h1),Nat.le_trans hb.size ht.size,ht.os.trans hb.os,ht.tape.trans hb.tape,ht.output.trans hb.output⟩;rw[ht.blk];simp only[World.setCell,Array.getElem?_modify,if_true,hb.block B h.lt]
theorem MailT.past {w2:World} {v':Value} {L':List Mq} (h:NetP w base B o lv v L) (ht:MailT base B o v L' w w' v') (hk:∀b,(b < w.heap.size∨v'.ownBlock=some b)→w2.heap[b]?=w'.heap[b]?) (hs:w'.heap.size≤w2.heap.size) (h1:w2.os=w'.os) (h2:w2.tape=w'.tape) (h3:w2.output=w'.output):MailT base B o v L' w w2 v':=
 ⟨(hk B (.inl h.lt)).trans ht.blk,ownsRow_same ht.row fun b hb=>hk b (.inr hb),ht.own,fun b hb h1 h2=>(hk b (.inl hb)).trans (ht.rest b hb h1 h2),Nat.le_trans ht.size hs,h1.trans ht.os,h2.trans ht.tape,h3.trans ht.output⟩
theorem MailT.set {v':Value} {L':List Mq} (ht:MailT base B o v L' w w' v') (h:NetP w base B o lv v L) {p:Addr} (hp:w.heap.size≤p.block) (hne:v'.ownBlock≠some p.block) (u:Value):MailT base B o v L' w (w'.setCell p u) v':=
 ht.past h (fun b hb=>Below.heap_setCell w' p u b (fun e=>hb.elim (fun h1=>by omega) (fun h1=>hne (by rw[h1,e])))) (by simp) rfl rfl rfl
theorem MailT.below {B0:Nat} {w0:World} {v':Value} {L':List Mq} (ht:MailT base B o v L' w w' v') (hb:Below B0 w0 w) (h1:B0≤B) (h2:∀b,v.ownBlock=some b→B0≤b) (hs:B0≤w.heap.size):Below B0 w0 w':=
 ⟨ht.os.trans hb.os,ht.tape.trans hb.tape,ht.output.trans hb.output,Nat.le_trans hb.size ht.size,fun b hb'=>(ht.rest b (Nat.lt_of_lt_of_le hb' hs) (by omega) (fun e=>by have:=h2 b e;omega)).trans (hb.block b hb')⟩
end
end Go.Proofs.YtjpklmighoondaaGreatDoor.St
