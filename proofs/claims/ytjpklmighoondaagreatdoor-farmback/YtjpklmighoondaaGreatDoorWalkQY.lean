/-
  A call of a queue, of a stack: what is one's own is appended to, or shortened, in place.
  Four functions of package slices laid at this program: numbers of its functions and types, and a fact a field.
  The library's search, insert and delete over a state that is one's own.
-/
import Derived.Test.YtjpklmighoondaaGreatDoorPlainHY
import Derived.ArgAppend
import Derived.Lib.JoinLaws
import Derived.Shelf.Slices.SearchI
import Derived.Shelf.Slices.Clone
import Derived.Shelf.Slices.Delete
import Derived.Shelf.Slices.Empties
import Derived.Shelf.Spec.SlicesInsertGrow
import Derived.Test.YtjpklmighoondaaGreatDoorProg
set_option maxRecDepth 100000
namespace Go.Proofs.YtjpklmighoondaaGreatDoor
open Go.RowKit
structure Turned (w : World) (base : Nat) (v : Value) (w' : World) (v' : Value) (st' : List Int) : Prop where
 row:RowAt w' base v' st'
 grown:w.grownBy w' v.ownBlock
 own:∀k,v'.ownBlock=some k→v.ownBlock=some k∨w.heap.size≤k
theorem Turned.behind {w w1:World} {base:Nat} {v:Value} {w':World} {v':Value} {st':List Int} (h:Turned w1 base v w' v' st') (hg:w.grownBy w1 none):Turned w base v w' v' st':=
 ⟨h.row,(hg.but _).trans h.grown,fun k hk=>(h.own k hk).imp id (fun e=>Nat.le_trans hg.size e)⟩
theorem RowAt.new {w w':World} {base:Nat} {v:Value} {st:List Int} (h:RowAt w base v st) (hg:w.grownBy w' none):RowAt w' base v st:=h.kept hg (Classical.em _)
theorem turned_same {w:World} {base:Nat} {v:Value} {st:List Int} (h:RowAt w base v st):Turned w base v w v st:=⟨h,grown_refl _ _,fun _ hk=>.inl hk⟩
theorem info3:(Tryz.prog.info? 3).map (fun i=>(i.zero,i.size,i.bytes))=some (some (Value.int .i64 0),1,8):=by kernel_rfl
section
variable {w : World}
theorem wpList_append_row {ops:Array Oper} {rest:List Oper} {o:Oper} {a:Act} {Q:Exit→Act→World→Prop} (hgd:o.guard=none) (s x:Operand)
  (ho:o.op=.call {callee:=.builtin .append,args:=#[s,x],argTypes:=#[26,26]})
  (base:Nat) (v:Value) (st:List Int) (hs:a.eval s=v) (hrow:RowAt w base v st)
  (B c:Nat) (n:Int) (hx:a.eval x=.slice (some ⟨B,0,none⟩) 1 c) (hn:w.cell? ⟨B,0,none⟩=some (.int .i64 n))
  (hlen:st.length≤100000) (hbase:base≤w.heap.size)
  (h:∀v' w',Turned w base v w' v' (st++ [n])→wpList Tryz.prog ops Q rest (a.put o.dst v') w'):wpList Tryz.prog ops Q (o::rest) a w:=by
 obtain⟨i,hi,hz,hsz,hby⟩:=info_parts info3;have hnews:∀j u,[Value.int .i64 n][j]?=some u→w.cell? ((⟨B,0,none⟩:Addr).add j)=some u:=by
  intro j u hj
  match j,hj with
  | 0,hj=>simp at hj;subst hj;simpa [Addr.add] using hn
 have hmk:∀v' w',w'.ownsRow w.heap.size 3 1 v' (st.length+1) (st.map (Value.int .i64)++ [.int .i64 n])→w.grownBy w' none→Turned w base v w' v' (st++ [n]):=by
  intro v' w' ho' hg;have hr:RowAt w' w.heap.size v' (st++ [n]):=rowAt_owns (by simpa using ho');exact⟨hr.base hbase,hg.but _,fun k hk=>.inr (hr.lt k hk).1⟩
 rcases hrow with ⟨rfl,rfl⟩ | ⟨g,off,cap,cur,rfl,hb,hg,h1,h2,h3,h4⟩
 ·refine wpList_append_grows w hgd s x 26 ho 3 i _ 1 8 Tryz.underlying26 hi hz hsz hby rfl (by decide) none 0 0 [] hs (fun _=>⟨rfl,rfl⟩) rfl (fun b hb=>by cases hb) ⟨B,0,none⟩ 1 c [.int .i64 n] hx rfl hnews (by simp[Value.oneCell']) (by decide) (by decide) (by decide) ?_;intro v' w' ho' hg';exact h v' w' (hmk v' w' ho' hg')
 ·by_cases hroom:st.length+1≤cap
  ·refine wpList_append_room1 w hgd s x 26 26 ho 3 (.int .i64 0) 8 Tryz.underlying26 info3 g off st.length cap hs _ hx 1 [.int .i64 n]
    (Src.ofSlice w Tryz.underlying26 ⟨B,0,none⟩ 1 c [.int .i64 n] (by simp) hnews (by simp[Value.oneCell'])) hroom
    (fun j hj=>some_of_heap hg (by simp at hj;omega)) (fun j _=>unfrozen_of_heap hg _) ?_
   have hc:(w.setCells g (off+st.length) [.int .i64 n]).cell? ⟨g,off+st.length,none⟩=some (.int .i64 n):=by
    simpa using World.cell?_setCells_in g [.int .i64 n] (off+st.length) w (fun j hj=>some_of_heap hg (by simp at hj;omega)) 0 (by simp)
   refine h _ _ ⟨rowAt_put hb (heap_setCells _ _ _ _ hg) (by simpa using hroom) h2 h3 (fun j hj=>?_) (by simp),grown_setCells _ _ _ _,fun k hk=>.inl hk⟩;by_cases hj':j < st.length
   ·rw[List.getElem_append_left hj',World.cell?_setCells_out g _ _ _ _ (fun _ _=>.inl (by show off+j < off+st.length;omega))];exact h4 j hj'
   ·obtain rfl:j=st.length:=by simp at hj;omega
    rw[hc];simp
  ·refine wpList_append_grows w hgd s x 26 ho 3 i _ 1 8 Tryz.underlying26 hi hz hsz hby rfl (by decide) (some ⟨g,off,none⟩) st.length cap (st.map (Value.int .i64)) hs (fun e=>by cases e) (by simp) (fun b hb j u hu=>?_) ⟨B,0,none⟩ 1 c [.int .i64 n] hx rfl hnews (by simp[Value.oneCell']) (by omega) (by unfold maxLen;omega) (by omega) ?_
   ·obtain rfl:=Option.some.inj hb;have hj:j < st.length:=by
     have:=(List.getElem?_eq_some_iff.1 hu).1
     simpa using this
    rw[List.getElem?_map,List.getElem?_eq_getElem hj] at hu;simp at hu;subst hu;rw[Addr.add_lit];exact h4 j hj
   ·intro v' w' ho' hg';exact h v' w' (hmk v' w' ho' hg')
end
theorem queM_push {st:List Int} {k a:Int} (h:k=9):queM st k a=(st++ [a],0):=by simp[queM,h]
theorem queM_none {k a:Int} (h:k≠9):queM [] k a=([],-1):=by simp[queM,h]
theorem queM_pop {st:List Int} {k a:Int} (h:k≠9) (h0:0 < st.length):queM st k a=(st.drop 1,st[0]):=by
 cases st with
 | nil=>simp at h0
 | cons x r=>simp[queM,h]
theorem staM_push {st:List Int} {k a:Int} (h:k=9):staM st k a=(st++ [a],0):=by simp[staM,h]
theorem staM_none {k a:Int} (h:k≠9):staM [] k a=([],-1):=by simp[staM,h]
theorem staM_pop {st:List Int} {k a:Int} (h:k≠9) (h0:0 < st.length):staM st k a=(st.take (st.length - 1),st[st.length - 1]):=by
 have:st≠ []:=fun e=>by simp[e] at h0
 simp[staM,h,this,List.getD_eq_getElem?_getD,List.getElem?_eq_getElem (show st.length - 1 < st.length by omega)]
theorem RowAt.drop1 {w:World} {base g off cap:Nat} {st:List Int} (h:RowAt w base (.slice (some ⟨g,off,none⟩) st.length cap) st) (h0:0 < st.length):
  RowAt w base (.slice (if cap=1 then some ⟨g,off,none⟩ else some ⟨g,off+1,none⟩) (st.length - 1) (cap - 1)) (st.drop 1):=by
 rcases h with ⟨h,_⟩ | ⟨g',off',cap',cur,e,hb,hg,h1,h2,h3,h4⟩
 ·cases h
 ·obtain⟨⟨rfl,rfl⟩,rfl⟩:(g=g'∧off=off')∧cap=cap':=by simpa using e
  by_cases hc:cap=1
  ·rw[if_pos hc];refine rowAt_put hb ⟨cur,hg,rfl⟩ (by simp;omega) (by omega) (by omega) (fun j hj=>?_) (by simp);simp at hj;omega
  ·rw[if_neg hc];refine rowAt_put hb ⟨cur,hg,rfl⟩ (by simp;omega) (by omega) (by omega) (fun j hj=>?_) (by simp);have:=h4 (1+j) (by simp at hj;omega);rw[List.getElem_drop,show off+1+j=off+(1+j) by omega];exact this
theorem RowAt.init {w:World} {base g off cap:Nat} {st:List Int} (h:RowAt w base (.slice (some ⟨g,off,none⟩) st.length cap) st):
  RowAt w base (.slice (some ⟨g,off,none⟩) (st.length - 1) cap) (st.take (st.length - 1)):=by
 rcases h with ⟨h,_⟩ | ⟨g',off',cap',cur,e,hb,hg,h1,h2,h3,h4⟩
 ·cases h
 ·obtain⟨⟨rfl,rfl⟩,rfl⟩:(g=g'∧off=off')∧cap=cap':=by simpa using e
  refine rowAt_put hb ⟨cur,hg,rfl⟩ (by simp;omega) (by omega) (by omega) (fun j hj=>?_) (by simp);rw[List.getElem_take];exact h4 j (by simp at hj;omega)
set_option maxHeartbeats 1000000 in
theorem callQueue_push (st:List Int) (op:Opn) (v:Value) (base:Nat) (w:World) (h:RowAt w base v st) (hlen:st.length≤100000) (hbase:base≤w.heap.size) (hd:op.d=9):
  Calls Tryz.prog 208 #[v,op.agg] w fun e w'=>∃v',e=.returned (.tuple #[v',.int .i64 (queM st op.d op.a).2])∧Turned w base v w' v' (queM st op.d op.a).1:=by
 rw[queM_push hd];have h2:(op.d==9)=true:=by simpa using hd
 have hgr:=World.grownBy_alloc w op.obj none;unfold Opn.obj at hgr;unfold Opn.agg;have H:=hideIt h;clear h hd;go_enter Tryz.func208,Tryz.ntmps208
 go_wp2_with (at_builtin;refine wpList_append_row rfl _ _ rfl base v st rfl ((H.out.new hgr).new (World.grownBy_alloc _ (.cells #[.int .i64 op.a] 3) none)) (w.heap.size+1) 1 op.a rfl ?c1 hlen ?c2 ?_)
 case c1=>simp
 case c2=>simp;omega
 intro v' w' ht;have HT:=hideIt (ht.behind (hgr.trans (World.grownBy_alloc _ _ none)));clear ht;go_wp2;go_ret2;exact⟨_,rfl,HT.out⟩
set_option maxHeartbeats 1000000 in
theorem callStack_push (st:List Int) (op:Opn) (v:Value) (base:Nat) (w:World) (h:RowAt w base v st) (hlen:st.length≤100000) (hbase:base≤w.heap.size) (hd:op.d=9):
  Calls Tryz.prog 209 #[v,op.agg] w fun e w'=>∃v',e=.returned (.tuple #[v',.int .i64 (staM st op.d op.a).2])∧Turned w base v w' v' (staM st op.d op.a).1:=by
 rw[staM_push hd];have h2:(op.d==9)=true:=by simpa using hd
 have hgr:=World.grownBy_alloc w op.obj none;unfold Opn.obj at hgr;unfold Opn.agg;have H:=hideIt h;clear h hd;go_enter Tryz.func209,Tryz.ntmps209
 go_wp2_with (at_builtin;refine wpList_append_row rfl _ _ rfl base v st rfl ((H.out.new hgr).new (World.grownBy_alloc _ (.cells #[.int .i64 op.a] 3) none)) (w.heap.size+1) 1 op.a rfl ?c1 hlen ?c2 ?_)
 case c1=>simp
 case c2=>simp;omega
 intro v' w' ht;have HT:=hideIt (ht.behind (hgr.trans (World.grownBy_alloc _ _ none)));clear ht;go_wp2;go_ret2;exact⟨_,rfl,HT.out⟩
set_option maxHeartbeats 1000000 in
theorem callQueue_pop (st:List Int) (op:Opn) (v:Value) (base:Nat) (w:World) (h:RowAt w base v st) (hd:op.d≠9) (hlen:st.length≤100000):
  Calls Tryz.prog 208 #[v,op.agg] w fun e w'=>∃v',e=.returned (.tuple #[v',.int .i64 (queM st op.d op.a).2])∧Turned w base v w' v' (queM st op.d op.a).1:=by
 have h2:(op.d==9)=false:=by simpa using hd
 have hgr:=World.grownBy_alloc w op.obj none;have HR:=hideIt (h.new hgr);have HG:=hideIt hgr;unfold Opn.obj at HR HG;clear hgr;by_cases h0:st= []
 ·subst h0;rw[queM_none hd];obtain⟨a,cap,rfl,_⟩:=h.has;unfold Opn.agg;clear h hd;go_enter Tryz.func208,Tryz.ntmps208
  go_wp2;go_ret2;exact⟨_,rfl,(turned_same HR.out).behind HG.out⟩
 ·have hpos:0 < st.length:=List.length_pos_iff.2 h0;rw[queM_pop hd hpos];rcases h with ⟨_,h⟩ | ⟨g,off,cap,cur,rfl,hb,hg,h1,h2',h3,h4⟩
  ·exact absurd h h0
  have c1:(w.alloc op.obj).cell? ⟨g,off,none⟩=some (.int .i64 st[0]):=HG.out.cell (h4 0 hpos) (by simp);have hT:Hid (Turned w base (.slice (some ⟨g,off,none⟩) st.length cap) ((w.alloc op.obj).drew) (.slice (if cap=1 then some ⟨g,off,none⟩ else some ⟨g,off+1,none⟩) (st.length - 1) (cap - 1)) (st.drop 1)):=by
   refine⟨(HR.out.drop1 hpos).new (grown_drew _ _),(HG.out.trans (grown_drew _ _)).but _,fun k hk=>.inl ?_⟩
   revert hk
   split<;>exact fun hk=>hk
  have k1:(1:Int)≤(st.length:Int):=by omega
  have k2:(st.length:Int)≤(cap:Int):=by omega
  have k3:(0:Int) < (st.length:Int):=by omega
  have k4:((st.length:Int)==0)=false:=by simp;omega
  have k5:(1:Int)≤(cap:Int):=by omega
  have hcap:cap≤9223372036854775807:=by unfold maxLen at h3;omega
  unfold Opn.obj at c1 hT;unfold Opn.agg;clear hd h0 h4 hg h2' HR HG h3 hb;by_cases hc:cap=1
  ·subst hc;go_enter Tryz.func208,Tryz.ntmps208
   go_wp2_with fail
   go_region
   go_wp2;go_ret2;exact⟨_,rfl,by simpa [show st.length=1 by omega] using hT.out⟩
  ·go_enter Tryz.func208,Tryz.ntmps208
   go_wp2_with fail
   go_region
   go_wp2;go_ret2;exact⟨_,rfl,by simpa [hc] using hT.out⟩
set_option maxHeartbeats 1000000 in
theorem callStack_pop (st:List Int) (op:Opn) (v:Value) (base:Nat) (w:World) (h:RowAt w base v st) (hd:op.d≠9) (hlen:st.length≤100000):
  Calls Tryz.prog 209 #[v,op.agg] w fun e w'=>∃v',e=.returned (.tuple #[v',.int .i64 (staM st op.d op.a).2])∧Turned w base v w' v' (staM st op.d op.a).1:=by
 have h2:(op.d==9)=false:=by simpa using hd
 have hgr:=World.grownBy_alloc w op.obj none;have HR:=hideIt (h.new hgr);have HG:=hideIt hgr;unfold Opn.obj at HR HG;clear hgr;by_cases h0:st= []
 ·subst h0;rw[staM_none hd];obtain⟨a,cap,rfl,_⟩:=h.has;unfold Opn.agg;clear h hd;go_enter Tryz.func209,Tryz.ntmps209
  go_wp2;go_ret2;exact⟨_,rfl,(turned_same HR.out).behind HG.out⟩
 ·have hpos:0 < st.length:=List.length_pos_iff.2 h0;rw[staM_pop hd hpos];rcases h with ⟨_,h⟩ | ⟨g,off,cap,cur,rfl,hb,hg,h1,h2',h3,h4⟩
  ·exact absurd h h0
  have c1:(w.alloc op.obj).cell? ⟨g,off+(st.length - 1),none⟩=some (.int .i64 (st[st.length - 1]'(by omega))):=HG.out.cell (h4 (st.length - 1) (by omega)) (by simp);have hT:Hid (Turned w base (.slice (some ⟨g,off,none⟩) st.length cap) ((w.alloc op.obj).drew) (.slice (some ⟨g,off,none⟩) (st.length - 1) cap) (st.take (st.length - 1))):=
   ⟨HR.out.init.new (grown_drew _ _),(HG.out.trans (grown_drew _ _)).but _,fun k hk=>.inl hk⟩
  obtain⟨z,hz⟩:∃z,z=st[st.length - 1]'(by omega):=⟨_,rfl⟩;rw[←hz] at c1 ⊢;obtain⟨n,hn⟩:∃n,st.length=n+1:=⟨st.length - 1,by omega⟩;rw[hn] at c1 hT ⊢;rw[Nat.add_sub_cancel] at c1 hT ⊢;have k0:IntKind.i64.wrap (((n+1:Nat):Int) - 1)=(n:Int):=by rw[IntKind.wrap_i64];omega
  have k1:(0:Int)≤(n:Int):=by omega
  have k2:(n:Int) < ((n+1:Nat):Int):=by omega
  have k3:(n:Int)≤(cap:Int):=by omega
  have k4:decide ((n:Int) < 0)=false:=by simp
  have hcap:cap≤9223372036854775807:=by unfold maxLen at h3;omega
  unfold Opn.obj at c1 hT;unfold Opn.agg;clear hd h0 h4 hg h2' HR HG h3 hb hz;go_enter Tryz.func209,Tryz.ntmps209
  go_wp2_with fail
  go_region
  go_wp2;go_ret2;exact⟨_,rfl,by simpa using hT.out⟩
end Go.Proofs.YtjpklmighoondaaGreatDoor
namespace Go.Proofs.YtjpklmighoondaaGreatDoor
open Go.Shelf
def sl_ren:Go.Shelf.Ren:=⟨fun | 25=>246 | 31=>274 | 32=>275 | 37=>137 | 21=>247 | 27=>276 | 28=>277 | 35=>287 | 39=>292 | 23=>248 | 15=>291 | n=>n,fun | 22=>26 | 40=>70 | 0=>0 | 3=>3 | 4=>4 | n=>n,fun | n=>n⟩
theorem laySearch:Go.Proofs.Lays2.n25 Tryz.prog sl_ren:= {
 mixed:=by kernel_rfl
 f25:=Tryz.func246.trans (congrArg some (by kernel_rfl))
 f31:=Tryz.func274.trans (congrArg some (by kernel_rfl))
 f32:=Tryz.func275.trans (congrArg some (by kernel_rfl))
 f37:=Tryz.func137.trans (congrArg some (by kernel_rfl))
 t0:=Tryz.underlying0
 a0:=Tryz.isAgg0
 z0:=Tryz.sizeOf0
 v0:=Tryz.zeroValue0
 t3:=Tryz.underlying3
 a3:=Tryz.isAgg3
 z3:=Tryz.sizeOf3
 v3:=Tryz.zeroValue3
 t4:=Tryz.underlying4
 a4:=Tryz.isAgg4
 z4:=Tryz.sizeOf4
 v4:=Tryz.zeroValue4
 t22:=Tryz.underlying26
 a22:=Tryz.isAgg26
 z22:=Tryz.sizeOf26
 v22:=Tryz.zeroValue26
 t40:=Tryz.underlying70
 a40:=Tryz.isAgg70
 z40:=Tryz.sizeOf70
 v40:=Tryz.zeroValue70
}
theorem layInsert:Go.Proofs.Lays2.n21 Tryz.prog sl_ren:= {
 mixed:=by kernel_rfl
 f21:=Tryz.func247.trans (congrArg some (by kernel_rfl))
 f27:=Tryz.func276.trans (congrArg some (by kernel_rfl))
 f28:=Tryz.func277.trans (congrArg some (by kernel_rfl))
 f35:=Tryz.func287.trans (congrArg some (by kernel_rfl))
 f39:=Tryz.func292.trans (congrArg some (by kernel_rfl))
 t0:=Tryz.underlying0
 a0:=Tryz.isAgg0
 z0:=Tryz.sizeOf0
 v0:=Tryz.zeroValue0
 t3:=Tryz.underlying3
 a3:=Tryz.isAgg3
 z3:=Tryz.sizeOf3
 v3:=Tryz.zeroValue3
 t4:=Tryz.underlying4
 a4:=Tryz.isAgg4
 z4:=Tryz.sizeOf4
 v4:=Tryz.zeroValue4
 t22:=Tryz.underlying26
 a22:=Tryz.isAgg26
 z22:=Tryz.sizeOf26
 v22:=Tryz.zeroValue26
 i3:=by kernel_rfl
}
theorem layDelete:Go.Proofs.Lays2.n23 Tryz.prog sl_ren:= {
 mixed:=by kernel_rfl
 f23:=Tryz.func248.trans (congrArg some (by kernel_rfl))
 t0:=Tryz.underlying0
 a0:=Tryz.isAgg0
 z0:=Tryz.sizeOf0
 v0:=Tryz.zeroValue0
 t3:=Tryz.underlying3
 a3:=Tryz.isAgg3
 z3:=Tryz.sizeOf3
 v3:=Tryz.zeroValue3
 t4:=Tryz.underlying4
 a4:=Tryz.isAgg4
 z4:=Tryz.sizeOf4
 v4:=Tryz.zeroValue4
 t22:=Tryz.underlying26
 a22:=Tryz.isAgg26
 z22:=Tryz.sizeOf26
 v22:=Tryz.zeroValue26
 i3:=by kernel_rfl
}
theorem layClone:Go.Proofs.Lays2.n15 Tryz.prog sl_ren:= {
 mixed:=by kernel_rfl
 f15:=Tryz.func291.trans (congrArg some (by kernel_rfl))
 t3:=Tryz.underlying3
 a3:=Tryz.isAgg3
 z3:=Tryz.sizeOf3
 v3:=Tryz.zeroValue3
 t4:=Tryz.underlying4
 a4:=Tryz.isAgg4
 z4:=Tryz.sizeOf4
 v4:=Tryz.zeroValue4
 t22:=Tryz.underlying26
 a22:=Tryz.isAgg26
 z22:=Tryz.sizeOf26
 v22:=Tryz.zeroValue26
 i3:=by kernel_rfl
}
open Go.RowKit Go.Sort
theorem getD_at {st:List Int} {j:Nat} (h:j < st.length):st.getD j 0=st[j]:=by
 rw[List.getD_eq_getElem?_getD,List.getElem?_eq_getElem h];rfl
theorem search_any (st:List Int) (a:Int) (v:Value) (base:Nat) (w:World) (h:RowAt w base v st) (hs:st.Pairwise (· ≤ ·)) (hlen:st.length≤100000):
  Calls Tryz.prog 246 #[v,.int .i64 a] w fun e w'=>e=.returned (.tuple #[.int .i64 (placeOf st a:Nat),.bool (st.contains a)])∧∃q,w'=w.drewN q:=by
 rcases h with ⟨rfl,rfl⟩ | ⟨g,off,cap,cur,rfl,hb,hg,h1,h2,h3,h4⟩
 ·exact(Any.slices_BinarySearch_int_empty laySearch none 0 a w).mono fun e w' ⟨he,hw⟩=>⟨he,0,hw⟩
 ·have:=Any.slices_BinarySearch_int laySearch g off st.length cap st a w (Nat.le_refl _) (by omega) (fun j hj=>by rw[getD_at hj];exact h4 j hj) (by rw[List.take_length];exact hs);rw[List.take_length] at this;exact this
theorem map_getElem? {st:List Int} {j:Nat} {u:Value} (h:(st.map (Value.int .i64))[j]?=some u):∃hj:j < st.length,u=.int .i64 st[j]:=by
 have hj:j < st.length:=by
  have:=(List.getElem?_eq_some_iff.1 h).1
  simpa using this
 rw[List.getElem?_map,List.getElem?_eq_getElem hj] at h;exact⟨hj,by simpa using h.symm⟩
theorem one_cells (st:List Int):∀u∈st.map (Value.int .i64),u.oneCell'=true:=by
 intro u hu;obtain⟨x,_,rfl⟩:=List.mem_map.1 hu;rfl
def insL (st:List Int) (i:Nat) (a:Int):List Int:=st.take i++a::st.drop i
theorem insL_len {st:List Int} {i:Nat} {a:Int} (h:i≤st.length):(insL st i a).length=st.length+1:=by simp[insL];omega
theorem insL_lo {st:List Int} {i j:Nat} {a:Int} (h:i≤st.length) (hj:j < i):(insL st i a)[j]?=st[j]?:=by
 unfold insL;rw[List.getElem?_append_left (by simp;omega),List.getElem?_take_of_lt hj]
theorem insL_at {st:List Int} {i:Nat} {a:Int} (h:i≤st.length):(insL st i a)[i]?=some a:=by
 unfold insL;rw[List.getElem?_append_right (by simp;omega)];simp[Nat.min_eq_left h]
theorem insL_hi {st:List Int} {i j:Nat} {a:Int} (h:i≤st.length) (hj:i≤j):(insL st i a)[j+1]?=st[j]?:=by
 unfold insL;rw[List.getElem?_append_right (by simp;omega)];simp only[List.length_take,Nat.min_eq_left h,show j+1 - i=(j - i)+1 by omega,List.getElem?_cons_succ,List.getElem?_drop]
 congr 1;omega
theorem insL_end {st:List Int} {a:Int} :insL st st.length a=st++ [a]:=by simp[insL]
def OneAt (w:World) (vb:Nat) (a:Int):Prop:=w.heap[vb]?=some (.cells #[.int .i64 a] 3 (0,0))
theorem size_zero (n:Nat):(Builtin.zeroCells (Value.int .i64 0).cells n).size=n:=by rw[size_zeroCells];simp[Value.cells]
theorem insL_cell {st:List Int} {i j:Nat} {a:Int} (hj:j < (insL st i a).length) {u:Int} (h:(insL st i a)[j]?=some u):(insL st i a)[j]=u:=by
 rw[List.getElem?_eq_getElem hj] at h;exact Option.some.inj h
theorem insert_end_grow (st:List Int) (a:Int) (base vb vc:Nat) (w:World) (hlen:st.length≤100000) (hbase:base≤w.heap.size) (hv:OneAt w vb a) (b:Option Addr) (cap:Nat) (hnc:st.length≤cap) (hroom:cap < st.length+1)
  (hb0:b=none→st.length=0) (hcs:∀A,b=some A→∀j u,(st.map (Value.int .i64))[j]?=some u→w.cell? (A.add j)=some u):
  Calls Tryz.prog 247 #[.slice b st.length cap,.int .i64 st.length,.slice (some ⟨vb,0,none⟩) 1 vc] w fun e w'=>∃v',e=.returned v'∧∀v0,Turned w base v0 w' v' (insL st st.length a):=by
 have hvs:∀j u,[Value.int .i64 a][j]?=some u→w.cell? ⟨vb,0+j,none⟩=some u:=by
  intro j u hj
  match j,hj with
  | 0,hj=>
   simp at hj;subst hj;rw[cell_of_row w vb _ _ _ _ hv];rfl
 refine(Any2.slices_Insert_int_end_grow layInsert b st.length cap vb 0 1 vc (st.map (Value.int .i64)) [.int .i64 a] w (by decide) hnc hroom (by omega) (by simp) rfl hb0 hcs hvs (by simp[Value.oneCell'])).mono ?_;rintro e w' ⟨he,rfl⟩;refine⟨_,he,fun v0=>?_⟩;have hge:=grownCap_ge w (st.length+1) cap 3;refine⟨.inr ⟨w.heap.size,0,grownCap w (st.length+1) cap 3,_,by rw[insL_end,List.length_append];rfl,hbase,heap_alloc_new w.drew _,by rw[insL_end];simpa using hge,?_,grownCap_le_maxLen _ _ _ _ (by unfold maxLen;omega),fun j hj=>?_⟩,((grown_drew w none).trans (World.grownBy_alloc _ _ _)).but _,fun k hk=>.inr ?_⟩
 ·rw[Array.size_append,size_zeroCells];simp[Value.cells];show grownCap w (st.length+1) cap 3≤st.length+1+(grownCap w (st.length+1) cap 3 - (st.length+1));omega
 ·refine(cell_of_row _ w.heap.size (0+j) _ _ _ (heap_alloc_new w.drew _)).trans ?_;have hj':j < st.length+1:=by rw[insL_end] at hj;simpa using hj
  rw[Array.getElem?_append_left (by simp;omega)];have e:(insL st st.length a).map (Value.int .i64)=st.map (Value.int .i64)++ [.int .i64 a]:=by rw[insL_end];simp
  rw[←e,Nat.zero_add];simp[List.getElem?_eq_getElem hj]
 ·obtain rfl:w.heap.size=k:=by simpa [Value.ownBlock] using hk
  exact Nat.le_refl _
theorem insert_any (st:List Int) (i:Nat) (a:Int) (v:Value) (base vb vc:Nat) (w:World) (h:RowAt w base v st) (hi:i≤st.length) (hlen:st.length≤100000) (hbase:base≤w.heap.size)
  (hv:OneAt w vb a) (hne:v.ownBlock≠some vb):
  Calls Tryz.prog 247 #[v,.int .i64 i,.slice (some ⟨vb,0,none⟩) 1 vc] w fun e w'=>∃v',e=.returned v'∧Turned w base v w' v' (insL st i a):=by
 have hvs:∀j u,[Value.int .i64 a][j]?=some u→w.cell? ⟨vb,0+j,none⟩=some u:=by
  intro j u hj
  match j,hj with
  | 0,hj=>
   simp at hj;subst hj;rw[cell_of_row w vb _ _ _ _ hv];rfl
 have h1v:∀u∈ [Value.int .i64 a],u.oneCell'=true:=by simp[Value.oneCell']
 rcases h with ⟨rfl,rfl⟩ | ⟨g,off,cap,cur,rfl,hb,hg,h1,h2,h3,h4⟩
 ·obtain rfl:i=0:=by simpa using hi
  exact(insert_end_grow [] a base vb vc w (by decide) hbase hv none 0 (by decide) (by decide) (fun _=>rfl) (fun A hA=>by cases hA)).mono fun e w' ⟨v',he,ht⟩=>⟨v',he,ht _⟩
 ·have hcs:∀j u,(st.map (Value.int .i64))[j]?=some u→w.cell? ⟨g,off+j,none⟩=some u:=fun j u hu=>by
   obtain⟨hj,rfl⟩:=map_getElem? hu;exact h4 j hj
  by_cases hend:i=st.length
  ·subst hend;by_cases hroom:st.length+1≤cap
   ·refine(Any2.slices_Insert_int_end_room layInsert g off st.length cap vb 0 1 vc [.int .i64 a] w (by decide) hroom (by unfold maxLen at h3;omega) rfl (fun j hj=>some_of_heap hg (by omega)) (fun j _=>unfrozen_of_heap hg _) hvs h1v).mono ?_;rintro e w' ⟨he,rfl⟩;refine⟨_,he,rowAt_put hb (heap_setCells _ _ _ _ hg) (by rw[insL_len (Nat.le_refl _)];exact hroom) h2 h3 (fun j hj=>?_) (insL_len (Nat.le_refl _)).symm,grown_setCells _ _ _ _,fun k hk=>.inl hk⟩;by_cases hj':j < st.length
    ·rw[insL_cell hj ((insL_lo (Nat.le_refl _) hj').trans (List.getElem?_eq_getElem hj')),World.cell?_setCells_out g _ _ _ _ (fun _ _=>.inl (by show off+j < off+st.length;omega))];exact h4 j hj'
    ·obtain rfl:j=st.length:=by rw[insL_len (Nat.le_refl _)] at hj;omega
     rw[insL_cell hj (insL_at (Nat.le_refl _))]
     simpa using World.cell?_setCells_in g [.int .i64 a] (off+st.length) w (fun j hj=>some_of_heap hg (by simp at hj;omega)) 0 (by simp)
   ·exact(insert_end_grow st a base vb vc w hlen hbase hv (some ⟨g,off,none⟩) cap h1 (by omega) (fun hA=>by cases hA) (fun A hA j u hu=>by obtain rfl:=Option.some.inj hA;rw[Addr.add_lit];exact hcs j u hu)).mono fun e w' ⟨v',he,ht⟩=>⟨v',he,ht _⟩
  ·have hlt:i < st.length:=by omega
   by_cases hroom:st.length+1≤cap
   ·refine(Any2.slices_Insert_int_shift layInsert g off st.length cap i vb 0 1 vc (st.map (Value.int .i64)) [.int .i64 a] w hlt (by decide) hroom (by unfold maxLen at h3;omega) (fun e=>hne (by rw[e];rfl)) (by simp) rfl hcs (fun j hj=>some_of_heap hg (by omega)) (fun j _=>unfrozen_of_heap hg _) hvs (one_cells st) h1v 3 3 1 cur.size (by simp[World.shape?,OneAt] at hv ⊢;rw[hv];simp) (shape_of_heap hg) (by omega) (frozen_of_row w vb _ _ _ hv) (frozen_of_row w vb _ _ _ hv)).mono ?_;rintro e w' ⟨he,rfl⟩;obtain⟨c1,e1,z1⟩:=heap_setCells ((st.map (Value.int .i64)).drop i) (off+(i+1)) w.drew cur hg;refine⟨_,he,rowAt_put hb (by obtain⟨c2,e2,z2⟩:=heap_setCells [.int .i64 a] (off+i) _ c1 e1;exact⟨c2,e2,z2.trans z1⟩) (by rw[insL_len hi];exact hroom) h2 h3 (fun j hj=>?_) (insL_len hi).symm,((grown_drew w _).trans (grown_setCells _ _ _ _)).trans (grown_setCells _ _ _ _),fun k hk=>.inl hk⟩;have hin:∀t,t < ((st.map (Value.int .i64)).drop i).length→(w.drew.cell? ⟨g,off+(i+1)+t,none⟩).isSome=true:=fun t ht=>some_of_heap (w:=w) hg (by simp at ht;omega)
    by_cases hj1:j < i
    ·rw[insL_cell hj ((insL_lo hi hj1).trans (List.getElem?_eq_getElem (by omega))),World.cell?_setCells_out g _ _ _ _ (fun _ _=>.inl (by show off+j < off+i;omega)),World.cell?_setCells_out g _ _ _ _ (fun _ _=>.inl (by show off+j < off+(i+1);omega))];exact h4 j (by omega)
    ·by_cases hj2:j=i
     ·subst hj2;rw[insL_cell hj (insL_at hi)]
      simpa using World.cell?_setCells_in g [.int .i64 a] (off+j) _ (fun t ht=>by rw[cell_of_row _ _ _ _ _ _ e1,Array.getElem?_eq_getElem (by simp at ht;omega)];rfl) 0 (by simp)
     ·obtain⟨t,rfl⟩:∃t,j=i+t+1:=⟨j - i - 1,by omega⟩;have hjl:i+t < st.length:=by rw[insL_len hi] at hj;omega
      rw[insL_cell hj ((insL_hi hi (by omega)).trans (List.getElem?_eq_getElem hjl)),World.cell?_setCells_out g _ _ _ _ (fun _ _=>.inr (by show off+i+1≤off+(i+t+1);omega))];have:=World.cell?_setCells_in g ((st.map (Value.int .i64)).drop i) (off+(i+1)) w.drew hin t (by simp;omega);rw[show off+(i+1)+t=off+(i+t+1) by omega] at this;rw[this];simp
   ·refine(Any2.slices_Insert_int_grow layInsert g off st.length cap i vb 0 1 vc (st.map (Value.int .i64)) [.int .i64 a] w hlt (by decide) h1 (by omega) (by omega) (by simp) rfl hcs hvs (one_cells st) h1v).mono ?_;rintro e w' ⟨he,rfl⟩;refine⟨_,he,?_⟩;have hge:=grownCap_ge w (st.length+1) cap 3;obtain⟨c0,hc0⟩:∃c0,c0=(((st.map (Value.int .i64)).take i).toArray++Builtin.zeroCells (Value.int .i64 0).cells (st.length+1 - i)++Builtin.zeroCells (Value.int .i64 0).cells (grownCap w (st.length+1) cap 3 - (st.length+1))):=⟨_,rfl⟩;have hsz:c0.size=grownCap w (st.length+1) cap 3:=by
     rw[hc0,Array.size_append,Array.size_append,size_zero,size_zero];simp;omega
    have e0:(w.alloc (.cells c0 3)).drew.heap[w.heap.size]?=some (.cells c0 3 (0,0)):=heap_alloc_new w _;have hlow:∀t (ht:t < st.length),t < i→(w.alloc (.cells c0 3)).drew.cell? ⟨w.heap.size,t,none⟩=some (.int .i64 st[t]):=by
     intro t ht hti;rw[cell_of_row _ _ _ _ _ _ e0,hc0,Array.append_assoc,Array.getElem?_append_left (by simp;omega)];simp[List.getElem?_take_of_lt hti,List.getElem?_eq_getElem ht]
    obtain⟨c1,e1,z1⟩:=heap_setCells [.int .i64 a] i _ c0 e0;have e1':((w.alloc (.cells c0 3)).drew.setCells w.heap.size i [.int .i64 a]).drew.heap[w.heap.size]?=some (.cells c1 3 (0,0)):=e1;obtain⟨c2,e2,z2⟩:=heap_setCells ((st.map (Value.int .i64)).drop i) (i+1) _ c1 e1';show Turned w base _ ((((w.alloc (.cells (((st.map (Value.int .i64)).take i).toArray++Builtin.zeroCells (Value.int .i64 0).cells (st.length+1 - i)++Builtin.zeroCells (Value.int .i64 0).cells (grownCap w (st.length+1) cap 3 - (st.length+1))) 3)).drew.setCells w.heap.size i [.int .i64 a]).drew).setCells w.heap.size (i+1) ((st.map (Value.int .i64)).drop i)) (.slice (some ⟨w.heap.size,0,none⟩) (st.length+1) (grownCap w (st.length+1) cap 3)) _;rw[←hc0];refine⟨rowAt_put (cur:=c0) hbase ⟨c2,e2,z2.trans z1⟩ (by rw[insL_len hi];exact hge) (by omega) (grownCap_le_maxLen _ _ _ _ (by unfold maxLen;omega)) (fun j hj=>?_) (insL_len hi).symm,?_,fun k hk=>.inr ?_⟩
    ·rw[Nat.zero_add];by_cases hj1:j < i
     ·rw[insL_cell hj ((insL_lo hi hj1).trans (List.getElem?_eq_getElem (by omega))),World.cell?_setCells_out w.heap.size _ _ _ _ (fun _ _=>.inl (by show j < i+1;omega))];refine(World.cell?_setCells_out w.heap.size [.int .i64 a] i (w.alloc (.cells c0 3)).drew ⟨w.heap.size,j,none⟩ (fun _ _=>.inl (by show j < i;omega))).trans ?_;exact hlow j (by omega) hj1
     ·by_cases hj2:j=i
      ·subst hj2;rw[insL_cell hj (insL_at hi),World.cell?_setCells_out w.heap.size _ _ _ _ (fun _ _=>.inl (by show j < j+1;omega))];exact World.cell?_setCells_in w.heap.size [.int .i64 a] j (w.alloc (.cells c0 3)).drew (fun t ht=>by rw[cell_of_row _ _ _ _ _ _ e0,Array.getElem?_eq_getElem (by simp at ht;omega)];rfl) 0 (by simp)
      ·obtain⟨t,rfl⟩:∃t,j=i+t+1:=⟨j - i - 1,by omega⟩;have hjl:i+t < st.length:=by rw[insL_len hi] at hj;omega
       rw[insL_cell hj ((insL_hi hi (by omega)).trans (List.getElem?_eq_getElem hjl))];have:=World.cell?_setCells_in w.heap.size ((st.map (Value.int .i64)).drop i) (i+1) _ (fun t ht=>by rw[cell_of_row _ _ _ _ _ _ e1',Array.getElem?_eq_getElem (by simp at ht;omega)];rfl) t (by simp;omega);rw[show i+1+t=i+t+1 by omega] at this;rw[this];simp
    ·have G:=((((World.grownBy_alloc w (.cells c0 3) none).trans (grown_drew _ _)).but (some w.heap.size)).trans (grown_setCells w.heap.size [.int .i64 a] i _)).trans ((grown_drew _ _).trans (grown_setCells w.heap.size ((st.map (Value.int .i64)).drop i) (i+1) _));exact⟨G.os,G.tape,G.output,G.size,fun k hk _=>G.block k hk (by simp;omega)⟩
    ·obtain rfl:w.heap.size=k:=by simpa [Value.ownBlock] using hk
     exact Nat.le_refl _
def delL (st:List Int) (i:Nat):List Int:=st.take i++st.drop (i+1)
theorem delete_any (st:List Int) (i:Nat) (v:Value) (base:Nat) (w:World) (h:RowAt w base v st) (hi:i < st.length):
  Calls Tryz.prog 248 #[v,.int .i64 i,.int .i64 ((i+1:Nat):Int)] w fun e w'=>∃v',e=.returned v'∧Turned w base v w' v' (delL st i):=by
 rcases h with ⟨rfl,rfl⟩ | ⟨g,off,cap,cur,rfl,hb,hg,h1,h2,h3,h4⟩
 ·simp at hi
 ·have hH:Holds (Value.int .i64) w g off st.toArray:=fun j hj=>by
   have hj':j < st.length:=by simpa using hj
   refine⟨?_,unfrozen_of_heap hg _⟩;rw[h4 j hj'];simp[hj']
  refine(Any.slices_Delete_int layDelete g off cap i (i+1) st w hH h1 (by unfold maxLen at h3;omega) (by omega) (by omega)).mono ?_;rintro e w' ⟨he,q,rfl⟩;have hd:(st.take i++st.drop (i+1)++List.replicate (i+1 - i) 0).toArray.size=st.toArray.size:=by simp;omega
  have hgr:w.grownBy (putRow (Value.int .i64) (Sort.ahead w q) g off (st.take i++st.drop (i+1)++List.replicate (i+1 - i) 0).toArray) (some g):=
   ⟨rfl,rfl,rfl,by simp[Sort.ahead],fun k _ hne=>by
    have:g≠k:=fun e=>hne (by rw[e])
    simp[putRow,mapBlock,Sort.ahead,Array.getElem?_modify,this]⟩
  refine⟨_,he,rowAt_put (cur:=cur) hb ⟨putCells (Value.int .i64) off (st.take i++st.drop (i+1)++List.replicate (i+1 - i) 0).toArray cur,?_,by simp[putCells]⟩ (by simp[delL];omega) h2 h3 (fun j hj=>?_) (by simp[delL];omega),hgr,fun k hk=>.inl hk⟩
  ·simp[putRow,mapBlock,Sort.ahead,Array.getElem?_modify,hg,onCells]
  ·have hj':j < st.length - 1:=by simp[delL] at hj;omega
   have:=cell?_putRow (Value.int .i64) (Sort.ahead w q) g off st.toArray (st.take i++st.drop (i+1)++List.replicate (i+1 - i) 0).toArray hH hd j (by simp;omega);rw[this]
   congr 2
   rw[getElem!_pos _ j (by simp;omega)];simp only[List.getElem_toArray];exact List.getElem_append_left (by simp;omega)
end Go.Proofs.YtjpklmighoondaaGreatDoor
