/-
  slices.Delete at generators.
-/
import Derived.Test.YtjpklmighoondaaGreatDoorMnZ
import Derived.Test.YtjpklmighoondaaGreatDoorTpWZ
import Derived.Test.YtjpklmighoondaaGreatDoorNxBZ
import Derived.Laws.AppendOwn
import Derived.ArgAppend
import Derived.Deep.DeepCutAuto
namespace Go.Proofs.YtjpklmighoondaaGreatDoor.Gn
open Go.RowKit
theorem info_parts' {t:TypeId} {z:Value} {s b:Nat} (h:(Tryz.prog.info? t).map (fun i=>(i.zero,i.size,i.bytes))=some (some z,s,b)):∃i,Tryz.prog.info? t=some i∧i.zero=some z∧i.size=s∧i.bytes=b:=by
 cases hi:Tryz.prog.info? t with
 | none=>simp[hi] at h
 | some i=>simp[hi] at h;exact⟨i,rfl,h.1,h.2.1,h.2.2⟩
theorem heap_setCell {w:World} {g:Nat} {cur:Array Value} {t:TypeId} {fr:Nat×Nat} (h:w.heap[g]?=some (.cells cur t fr)) (o:Nat) (u:Value):∃cur',(w.setCell ⟨g,o,none⟩ u).heap[g]?=some (.cells cur' t fr)∧cur'.size=cur.size:=by
 refine⟨cur.setIfInBounds o u,?_,by simp⟩;simp[World.setCell,Array.getElem?_modify,h]
theorem own_cells {w:World} {base:Nat} {e:TypeId} {m:Nat} {v:Value} {n:Nat} {xs:List Value} (h:w.ownsRow base e m v n xs):(v=.slice none 0 0∧n=0)∨∃g cap,v=.slice (some ⟨g,0,none⟩) n cap∧n≤cap∧g < w.heap.size∧∀k,k < n*m→w.cell? ⟨g,k,none⟩=xs[k]?:=by
 obtain⟨hl,⟨rfl,h0⟩ | ⟨g,cap,cur,rfl,hb,hh,h1,h2,h3,h4⟩⟩:=h
 ·exact .inl ⟨rfl,h0⟩
 ·refine .inr ⟨g,cap,rfl,h1,(Array.getElem?_eq_some_iff.1 hh).1,fun k hk=>?_⟩;rw[cell_of_row _ _ _ _ e _ hh];have e':(cur.toList.take (n*m))[k]?=xs[k]?:=by rw[h4]
  rw[List.getElem?_take_of_lt hk,Array.getElem?_toList] at e';exact e'
theorem grown_drew (w:World):w.grownBy w.drew none:=⟨rfl,rfl,rfl,Nat.le_refl _,fun _ _ _=>rfl⟩
theorem step_append_run {P:Program} {ops:Array Oper} {o:Oper} {a:Act} {w:World} {K:Act→World→Prop} {Q:Exit→Act→World→Prop} {E:Prop} (hgd:o.guard=none) (s x:Operand) (t:TypeId)
  (ho:o.op=.call {callee:=.builtin .append,args:=#[s,x],argTypes:=#[t,t]}) (v xv v':Value) (w':World) (hs:a.eval s=v) (hx:a.eval x=xv) (hr:(Builtin.append_ #[t,t] o.type #[v,xv]).run P w=.ok v' w')
  (hK:K (a.put o.dst v') w'):if Region.wanted o (yielded ops a.tmps)=true then Oper.wp P o a w K Q else E:=by
 have hw:Region.wanted o (yielded ops a.tmps)=true:=by simp[Region.wanted,hgd]
 rw[if_pos hw];unfold Oper.wp execOp;simp only[ho,resolve,invoke,builtin,Sem.run_bind,Sem.run_pure,Result.andThen_ok,List.map_toArray,List.map_cons,List.map_nil,hs,hx,hr];exact hK
theorem infoMq:(Tryz.prog.info? 61).map (fun i=>(i.zero,i.size,i.bytes))=some (some .nilIface,1,16):=by kernel_rfl
theorem grown_setCell (w:World) (a:Addr) (u:Value):w.grownBy (w.setCell a u) (some a.block):=grown_set w a u
theorem heap_setCells {g:Nat} {t:TypeId} {fr:Nat×Nat} :∀(vs:List Value) (o:Nat) (w:World) (cur:Array Value),w.heap[g]?=some (.cells cur t fr)→∃cur',(w.setCells g o vs).heap[g]?=some (.cells cur' t fr)∧cur'.size=cur.size
 | [],_,_,cur,h=>⟨cur,h,rfl⟩
 | v::r,o,w,cur,h=>by
  obtain⟨c1,h1,e1⟩:=heap_setCell h o v;obtain⟨c2,h2,e2⟩:=heap_setCells r (o+1) _ c1 h1;exact⟨c2,h2,e2.trans e1⟩
theorem grown_setCells (g:Nat):∀(vs:List Value) (o:Nat) (w:World),w.grownBy (w.setCells g o vs) (some g)
 | [],_,w=>World.grownBy.refl w _
 | v::r,o,w=>(grown_setCell w ⟨g,o,none⟩ v).trans (grown_setCells g r (o+1) _)
theorem owns_of_cells {w:World} {base g cap N e n:Nat} {cur:Array Value} {xs:List Value} (hb:base≤g) (hg:w.heap[g]?=some (.cells cur e (0,0))) (h1:N≤cap) (h2:cap≤maxLen) (h3:cur.size=cap*n) (hl:xs.length=N*n) (hc:∀j,j < N*n→w.cell? ⟨g,j,none⟩=xs[j]?):
  w.ownsRow base e n (.slice (some ⟨g,0,none⟩) N cap) N xs:=by
 refine⟨hl,.inr ⟨g,cap,cur,rfl,hb,hg,h1,h2,h3,?_⟩⟩
 apply List.ext_getElem?
 intro j;by_cases hj:j < N*n
 ·rw[List.getElem?_take_of_lt hj,←hc j hj,cell_of_row _ _ _ _ e _ hg,Array.getElem?_toList]
 ·rw[List.getElem?_eq_none (by rw[List.length_take];omega),List.getElem?_eq_none (by omega)]
theorem run_clear_one {P:Program} (w:World) (t e ty:TypeId) (z:Value) (ht:P.underlying t=some (.slice e)) (hv:∀w,(zeroValue e).run P w=.ok z w) (h1:∀u∈z.cells.toList,u.oneCell'=true) (b o c:Nat)
  (hc:∀j,j < z.cells.size→(w.cell? ⟨b,o+j,none⟩).isSome=true) (hf:∀j,j < z.cells.size→w.frozen? ⟨b,o+j,none⟩=false):
  (Builtin.clear_ #[t] ty #[.slice (some ⟨b,o,none⟩) 1 c]).run P w=.ok (.tuple #[]) (w.setCells b o z.cells.toList):=by
 have hzc:(Builtin.zeroCells z.cells 1).toList=z.cells.toList:=by
  simp[Builtin.zeroCells]
  apply List.ext_getElem
  ·simp
  ·intro i h1 h2;simp at h1;simp[Nat.mod_eq_of_lt h1,h1]
 have hst:=run_storeCells_cells (P:=P) b o z.cells.toList 0 w (by simpa using hc) (by simpa using hf) h1;simp only[Nat.add_zero] at hst;simp[Builtin.clear_,run_underlying ht,hv,hzc,hst]
theorem zeroMq (w:World):(zeroValue 61).run Tryz.prog w=.ok .nilIface w:=by kernel_rfl
def endA (g cap k:Nat):Addr:=if cap=k then⟨g,0,none⟩ else⟨g,k*1,none⟩
theorem gen_drop {L:List Value} {k j:Nat} {u:Value} (h:(L.drop k)[j]?=some u):L[k*1+j]?=some u:=by
 rw[Nat.mul_one];rwa [List.getElem?_drop] at h
theorem mqCs_erase {L:List Value} {k:Nat} (hk:k < L.length) (j:Nat):(L.eraseIdx k)[j]?=if j < k*1 then L[j]? else (L.drop (k+1))[j - k*1]?:=by
 have hl:(L.take k).length=k*1:=by rw[List.length_take];congr 1;omega
 rw[List.eraseIdx_eq_take_drop_succ];by_cases h:j < k*1
 ·rw[if_pos h,List.getElem?_append_left (by omega)]
  conv=>rhs;rw[←List.take_append_drop k L]
  rw[List.getElem?_append_left (by omega)]
 ·rw[if_neg h,List.getElem?_append_right (by omega),hl]
def DelQ (base:Nat) (v:Value) (L:List Value) (k:Nat) (w:World) (e:Ending) (w':World):Prop:=
 ∃v',e=.returned v'∧w.grownBy w' v.ownBlock∧w'.ownsRow base 61 1 v' (L.eraseIdx k).length (L.eraseIdx k)∧v'.ownBlock=v.ownBlock
theorem rest_cells {w:World} {base g cap:Nat} {L:List Value} {k:Nat} (hk:k < L.length) (h:w.ownsRow base 61 1 (.slice (some ⟨g,0,none⟩) L.length cap) L.length L) (hc:L.length≤cap):∀j u,(L.drop (k+1))[j]?=some u→w.cell? ((endA g cap (k+1)).add j)=some u:=fun j u hj=>by
 have hl:(L.drop (k+1)).length=(L.length - (k+1))*1:=by rw[List.length_drop,Nat.mul_one]
 have hj':=(List.getElem?_eq_some_iff.1 hj).1;by_cases e:cap=k+1
 ·rw[hl,show L.length - (k+1)=0 by omega] at hj';omega
 ·unfold endA;rw[if_neg e,Addr.add_lit];have:=h.cells (g:=g) rfl _ _ (gen_drop hj)
  rwa [Addr.add_lit,Nat.zero_add] at this
set_option maxRecDepth 100000 in
set_option maxHeartbeats 4000000 in
theorem pdel_any (k:Nat) (base:Nat) (v:Value) (L:List Value) (hL:L.length≤2000) (h1:∀u∈L,u.oneCell'=true) (hk:k < L.length) (w:World) (h:w.ownsRow base 61 1 v L.length L):
  Calls Tryz.prog 318 #[v,.int .i64 (k:Int),.int .i64 ((k:Int)+1)] w fun e w'=>DelQ base v L k w e w':=by
 obtain⟨g,cap,cur,rfl,hbg,hgc,hnc,hcm,hcs,hcx⟩:∃g cap cur,v=.slice (some ⟨g,0,none⟩) L.length cap∧base≤g∧w.heap[g]?=some (.cells cur 61 (0,0))∧L.length≤cap∧cap≤maxLen∧cur.size=cap*1∧cur.toList.take (L.length*1)=L:=by
  rcases h.2 with ⟨_,e⟩ | h
  ·omega
  ·exact h
 obtain⟨inf,i1,i2,i3,i4⟩:=info_parts' infoMq;have HO:=hideIt h;have HNw:Hid (∀j u,(L.drop (k+1))[j]?=some u→w.drew.cell? ((endA g cap (k+1)).add j)=some u):=rest_cells hk h hnc;have hnl:(L.drop (k+1)).length=(L.length - (k+1))*1:=by rw[List.length_drop,Nat.mul_one]
 have hsome:∀(W:World) (cu:Array Value),W.heap[g]?=some (.cells cu 61 (0,0))→cu.size=cap*1→∀j,j < cap*1→(W.cell? ⟨g,j,none⟩).isSome=true:=fun W cu hW hs j hj=>by
  rw[cell_of_row _ _ _ _ 61 _ hW,Array.getElem?_eq_getElem (by omega)];rfl
 have hrun:∀ty,(Builtin.append_ #[188,188] ty #[.slice (some ⟨g,0,none⟩) k cap,.slice (some (endA g cap (k+1))) (L.length - (k+1)) (cap - (k+1))]).run Tryz.prog w.drew=.ok (.slice (some ⟨g,0,none⟩) (k+(L.length - (k+1))) cap) (w.drew.setCells g (0+k*inf.size) (L.drop (k+1))):=fun ty=>
  run_append_room_cells w.drew 188 ty 61 inf Tryz.underlying188 i1 g 0 k cap (endA g cap (k+1)) (L.length - (k+1)) (cap - (k+1)) (L.drop (k+1)) (by rw[i3];exact hnl) HNw.out (fun u hu=>h1 u (List.mem_of_mem_drop hu)) (by omega) (fun j hj=>by rw[i3];exact hsome w.drew cur hgc hcs _ (by omega)) (fun j _=>frozen_of_row _ _ _ _ 61 hgc)
 rw[i3,Nat.zero_add] at hrun;have HRun:=hideIt hrun;obtain⟨c1,hc1,hs1⟩:=heap_setCells (L.drop (k+1)) (k*1) w.drew cur hgc;have HW1:Hid (w.grownBy (w.drew.setCells g (k*1) (L.drop (k+1))) (some g)):=((grown_drew w).but _).trans (grown_setCells g _ _ _);have HC1:Hid (∀j,j < (L.length - 1)*1→(w.drew.setCells g (k*1) (L.drop (k+1))).cell? ⟨g,j,none⟩=(L.eraseIdx k)[j]?):=fun j hj=>by
  rw[mqCs_erase hk];by_cases hjk:j < k*1
  ·rw[if_pos hjk,World.cell?_setCells_out g _ _ _ ⟨g,j,none⟩ (fun _ _=>.inl hjk)];rcases own_cells HO.out with ⟨e,_⟩ | ⟨g',cap',e,_,_,hh⟩
   ·cases e
   ·cases e;exact hh j (by omega)
  ·rw[if_neg hjk];have hj2:j - k*1 < (L.drop (k+1)).length:=by omega
   have:=World.cell?_setCells_in g (L.drop (k+1)) (k*1) w.drew (fun i hi=>hsome w.drew cur hgc hcs _ (by omega)) (j - k*1) hj2;rw[show k*1+(j - k*1)=j by omega] at this;rw[this,List.getElem?_eq_getElem hj2]
 have e1:k+(L.length - (k+1))=L.length - 1:=by omega
 rw[e1] at HRun;generalize w.drew.setCells g (k*1) (L.drop (k+1))=W1 at*
 have hN:(L.eraseIdx k).length=L.length - 1:=List.length_eraseIdx_of_lt hk;have hclr:(Builtin.clear_ #[188] 0 #[.slice (some ⟨g,L.length - 1,none⟩) 1 (cap - (L.length - 1))]).run Tryz.prog W1=.ok (.tuple #[]) (W1.setCells g (L.length - 1) [.nilIface]):=
  run_clear_one W1 188 61 0 .nilIface Tryz.underlying188 zeroMq (by simp[Value.cells,Value.oneCell']) g _ _ (fun j hj=>hsome W1 c1 hc1 (by omega) _ (by simp[Value.cells] at hj;omega)) (fun j _=>frozen_of_row _ _ _ _ 61 hc1)
 obtain⟨c2,hc2,hs2⟩:=heap_setCells [.nilIface] (L.length - 1) W1 c1 hc1;have HEnd:Hid (DelQ base (.slice (some ⟨g,0,none⟩) L.length cap) L k w (.returned (.slice (some ⟨g,0,none⟩) (L.length - 1) cap)) (W1.setCells g (L.length - 1) [.nilIface])):=
  ⟨_,rfl,HW1.out.trans (grown_setCells g _ _ _),by rw[hN];exact owns_of_cells hbg hc2 (by omega) hcm (by omega) (by rw[hN,Nat.mul_one]) (fun j hj=>by rw[World.cell?_setCells_out g _ _ _ ⟨g,j,none⟩ (fun _ _=>.inl (by simpa using hj))];exact HC1.out j hj),rfl⟩
 generalize DelQ base (.slice (some ⟨g,0,none⟩) L.length cap) L k w=Q at*
 have q1:(k:Int)+1≤(L.length:Int):=by omega
 have q2:(L.length:Int)≤(cap:Int):=by omega
 have q3:(0:Int)≤(k:Int)+1:=by omega
 have q4:((k:Int)==(k:Int)+1)=false:=by simp;omega
 have q5:(k:Int)≤(cap:Int):=by omega
 have q6:(k:Int)≤(k:Int)+1:=by omega
 have q7:(k:Int)+1≤(cap:Int):=by omega
 have q8:((k:Int)+1).toNat=k+1:=by omega
 have q9:((L.length:Int)).toNat=L.length:=by omega
 clear HW1 HC1 hsome hgc hcs hcx hc1 hs1 hc2 hs2 HNw hnl hN HO h i1 i2 i3 i4 e1 hbg;go_enter Tryz.func318,Tryz.ntmps318
 go_upto_region 5 with fail
 refine wp_region_L (B:= [6]) (S:=fun _=>True) (T:=fun _=>True) (by kernel_rfl) ⟨trivial,trivial⟩ (fun hHeld=>?_);refine tkS 0 ?_ rfl ?_ ?_;rotate_left 1
 ·intro wz _;go_simp;all_goals with_reducible rfl
 simp only[Act.put,p1,p2,p3,p4,p5];refine tkS 1 ?_ rfl ?_ ?_;rotate_left 1
 ·intro wz _;go_simp;all_goals with_reducible rfl
 simp only[Act.put,p1,p2,p3,p4,p5,p6];refine tkS 2 ?_ rfl ?_ ?_;rotate_left 1
 ·intro wz _;go_simp;all_goals with_reducible rfl
 simp only[Act.put,p1,p2,p3,p4,p5,p6];refine tkS 3 ?_ rfl ?_ ?_;rotate_left 1
 ·intro wz _;go_simp;all_goals with_reducible rfl
 simp only[Act.put,p1,p2,p3,p4,p5,p6];refine tkS 4 ?_ rfl ?_ ?_;rotate_left 1
 ·intro wz _;go_simp;all_goals with_reducible rfl
 simp only[Act.put,p1,p2,p3,p4,p5,p6];refine tkS 5 ?_ rfl ?_ ?_;rotate_left 1
 ·intro wz _;go_simp;all_goals with_reducible rfl
 simp only[Act.put,p1,p2,p3,p4,p5,p6];have hif:(if cap=k+1 then some (⟨g,0,none⟩:Addr) else some ⟨g,k+1,none⟩)=some (endA g cap (k+1)):=by unfold endA;rw[Nat.mul_one];split<;>rfl
 rw[hif];refine wpAnyL_ready (rs:= [6]) (by kernel_rfl) (by simp) (AllReadyL.last rfl (by kernel_rfl) (fun K hK=>?_) AllReadyL.nil);refine step_append_run (by rfl) _ _ 188 rfl _ _ _ W1 rfl rfl (HRun.out _) ?_;simp only[Act.put,List.setIfInBounds_toArray];refine hK.out _ _ trivial (fun _=>?_);clear hK K hHeld hif HRun hrun q1 q3 q4 q5 q6 q7 q8;refine tkE 7 ?_ rfl ?_ ?_;rotate_left 1
 ·intro wz _;go_simp;all_goals with_reducible rfl
 simp only[Act.put,p1,p2,p3,p4,p5,p6];refine wpAnyL_done (by kernel_rfl) ?_ _;have r1:(L.length - 1:Nat)≤L.length:=by omega
 have r2:(((L.length - 1:Nat):Int))≤(L.length:Int):=by omega
 have r3:¬cap=L.length - 1:=by omega
 have r4:L.length - (L.length - 1)=1:=by omega
 have HE2:=hideIt HEnd.out;clear HEnd;generalize L.length - 1=N at*
 go_wp2;exact HE2.out
end Go.Proofs.YtjpklmighoondaaGreatDoor.Gn
