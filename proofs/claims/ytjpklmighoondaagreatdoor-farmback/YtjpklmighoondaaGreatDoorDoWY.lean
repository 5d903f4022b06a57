/-
  Package linear's do and undo: walked.
  Package linear's appendName: walked.
  What holds of each state that the search comes to: numbers, lengths, rising.
  Package linear's undo: walked.
-/
import Derived.Test.YtjpklmighoondaaGreatDoorFmtY
import Derived.Deep.RegionHeld3
import Derived.Deep.RegionWith
set_option maxRecDepth 100000
namespace Go.Proofs.YtjpklmighoondaaGreatDoor
open Go.RowKit
theorem blk_cells {p:Par} {w:World} {done:Nat} {vs:Nat→Value} {ov nv:Value} (h:w.heap[p.B]?=some (.cells (blkA p done vs ov nv) 272 (0,0))) (i:Nat):w.cell? ⟨p.B,i,none⟩=(blkA p done vs ov nv)[i]?:=cell_of_row w _ _ _ 272 (0,0) h
theorem blk_fz {p:Par} {w:World} {cs:Array Value} (h:w.heap[p.B]?=some (.cells cs 272 (0,0))) (i:Nat):w.frozen? ⟨p.B,i,none⟩=false:=frozen_of_row w _ _ _ 272 h
theorem blk_set {p:Par} {w:World} {cs:Array Value} (h:w.heap[p.B]?=some (.cells cs 272 (0,0))) (i:Nat) (x:Value):(w.setCell ⟨p.B,i,none⟩ x).heap[p.B]?=some (.cells (cs.setIfInBounds i x) 272 (0,0)):=by
 simp[World.setCell,Array.getElem?_modify,h]
def setV (vs:Nat→Value) (q:Nat) (x:Value):Nat→Value:=fun k=>if k=q then x else vs k
theorem blkA_done (p:Par) (done d':Nat) (vs:Nat→Value) (ov nv:Value):(blkA p done vs ov nv).setIfInBounds 7 (.int .u64 d')=blkA p d' vs ov nv:=rfl
theorem blkA_ord (p:Par) (done:Nat) (vs:Nat→Value) (ov ov' nv:Value):(blkA p done vs ov nv).setIfInBounds 16 ov'=blkA p done vs ov' nv:=rfl
theorem blkA_name (p:Par) (done:Nat) (vs:Nat→Value) (ov nv nv':Value):(blkA p done vs ov nv).setIfInBounds 17 nv'=blkA p done vs ov nv':=rfl
theorem blkA_key (p:Par) (done:Nat) (vs:Nat→Value) (ov nv:Value) (q:Nat) (hq:q < 8) (x:Value):(blkA p done vs ov nv).setIfInBounds (8+q) x=blkA p done (setV vs q x) ov nv:=by
 match q,hq with
 | 0,_=>rfl
 | 1,_=>rfl
 | 2,_=>rfl
 | 3,_=>rfl
 | 4,_=>rfl
 | 5,_=>rfl
 | 6,_=>rfl
 | 7,_=>rfl
theorem blkA_vs (p:Par) (done:Nat) (vs:Nat→Value) (ov nv:Value) (q:Nat) (hq:q < 8):(blkA p done vs ov nv)[8+q]?=some (vs q):=by
 match q,hq with
 | 0,_=>rfl
 | 1,_=>rfl
 | 2,_=>rfl
 | 3,_=>rfl
 | 4,_=>rfl
 | 5,_=>rfl
 | 6,_=>rfl
 | 7,_=>rfl
theorem ops_cell {p:Par} {w:World} (h:OpsIn w p.u p.ops) (hb:∀a n c,p.u=.slice (some a) n c→0 < n→a.block < p.b0) {n:Nat} (hn:n < p.ops.length):
  ∃bo offo cap,p.u=.slice (some ⟨bo,offo,none⟩) p.ops.length cap∧bo < p.b0∧∀w',Below p.b0 w w'→OpAt w' bo (offo+n*8) p.ops[n]:=by
 obtain⟨a,cap,e,hc,hm,h⟩:=h;rcases h with h | ⟨b,off,rfl,hlt,h⟩
 ·rw[h] at hn;simp at hn
 ·have hb0:b < p.b0:=hb ⟨b,off,none⟩ _ _ e (by omega);exact⟨b,off,cap,e,hb0,fun w' hw=>(h n hn).below hb0 hw⟩
theorem RowAt.slice {w:World} {base:Nat} {v:Value} {st:List Int} (h:RowAt w base v st):∃a l c,v=.slice a l c:=by
 rcases h with ⟨rfl,_⟩ | ⟨g,off,cap,cur,rfl,_⟩
 ·exact⟨_,_,_,rfl⟩
 ·exact⟨_,_,_,rfl⟩
theorem ownsRow_slice {w:World} {base:Nat} {e:TypeId} {size:Nat} {v:Value} {n:Nat} {xs:List Value} (h:w.ownsRow base e size v n xs):∃a c,v=.slice a n c:=by
 obtain⟨_,⟨rfl,rfl⟩ | ⟨g,cap,cur,rfl,_⟩⟩:=h
 ·exact⟨_,_,rfl⟩
 ·exact⟨_,_,rfl⟩
def DoTold (p:Par) (w:World) (ord':List Nat) (S':Int→List Int) (vs':Nat→Value) (ov nv:Value) (ent:List (List UInt8)) (e:Ending) (w':World):Prop:=
 ∃ov',e=.returned (.tuple #[])∧SearchAt p w' ord' S' vs' ov' nv ent∧VFr p ov w ov' w'
theorem rows_set {p:Par} {w:World} {S:Int→List Int} {vs:Nat→Value} {nx:Value} {st:List Int} {q:Nat} (h:∀k,k < 8→RowAt w p.b0 (vs k) (S k)) (hx:RowAt w p.b0 nx st):∀k:Nat,k < 8→RowAt w p.b0 (setV vs q nx k) (setK S (q:Int) st k):=by
 intro k hk;by_cases e:k=q
 ·subst e;rw[setK_same];simpa [setV] using hx
 ·rw[setK_other _ _ _ _ (by omega)];simpa [setV,e] using h k hk
theorem sep_set {vs:Nat→Value} {nx ov:Value} {q:Nat} (h:∀k,k < 8→∀b,(vs k).ownBlock=some b→ov.ownBlock≠some b) (hx:∀b,nx.ownBlock=some b→ov.ownBlock≠some b):∀k:Nat,k < 8→∀b,(setV vs q nx k).ownBlock=some b→ov.ownBlock≠some b:=by
 intro k hk b;by_cases e:k=q
 ·subst e;simpa [setV] using hx b
 ·simpa [setV,e] using h k hk b
set_option maxHeartbeats 4000000 in
theorem do_any (p:Par) (n q:Nat) (ord:List Nat) (S:Int→List Int) (vs:Nat→Value) (ov nv nx:Value) (ent:List (List UInt8)) (st:List Int) (w:World) (h:SearchAt p w ord S vs ov nv ent)
  (hn:n < p.ops.length) (hlen:p.ops.length≤60) (hkq:(opN p.ops n).k=(q:Int)) (hq:q < 8) (hord:∀m∈ord,m < 60) (hol:ord.length≤60) (hnx:RowAt w p.b0 nx st) (hsep:∀b,nx.ownBlock=some b→ov.ownBlock≠some b):
  Calls Tryz.prog 268 #[.pointer (some ⟨p.B,0,none⟩),.int .i64 n,nx] w fun e w'=>DoTold p w (ord++ [n]) (setK S (q:Int) st) (setV vs q nx) ov nv ent e w':=by
 have hml:maskN ord < 18446744073709551616:=maskN_lt (fun m hm=>by have:=hord m hm;omega);obtain⟨pw,hp,hcall⟩:=bit_call n (by omega);have HC:=hideIt hcall;have R1:Hid (bits .or .u64 (maskN ord:Int) (pw:Int)=(maskN (ord++ [n]):Int)):=hideIt (by rw[hp,or_bits hml (by omega),or_bit]);have b7:w.cell? ⟨p.B,7,none⟩=some (.int .u64 (maskN ord)):=blk_cells h.blk 7;have f7:=blk_fz h.blk 7;obtain⟨bo,offo,cap,hu,hbo,hop⟩:=ops_cell h.ops h.opsb hn;obtain⟨i3,hi3,hz3,hs3,hb3⟩:=info_parts info3;obtain⟨na,nl,nc,rfl⟩:=hnx.slice;have HH:=hideIt h;have HU:=hideIt hu;have HX:=hideIt hnx;have HSP:=hideIt hsep;have HKQ:=hideIt hkq;rw[opN_at hn] at hkq
 -- behind the first region
 have h1:Hid (∀W1,W1=(w.setCell ⟨p.B,7,none⟩ (.int .u64 (bits .or .u64 (maskN ord:Int) (pw:Int)))).drew→(W1.heap[p.B]?=some (.cells (blkA p (maskN (ord++ [n])) vs ov nv) 272 (0,0))∧Tch (OwnT p ov) w W1)
   ∧(∀b,ov.ownBlock=some b→b≠p.B→W1.heap[b]?=w.heap[b]?)
   ∧W1.cell? ⟨p.B,1,none⟩=some (.slice (some ⟨bo,offo,none⟩) p.ops.length cap)∧W1.cell? ⟨bo,offo+n*8+1,none⟩=some (.int .i64 q)∧W1.frozen? ⟨p.B,8+q,none⟩=false∧∃x,W1.cell? ⟨p.B,8+q,none⟩=some x):=hideIt (fun W1 e=>by
  subst e;have hb:(w.setCell ⟨p.B,7,none⟩ (.int .u64 (bits .or .u64 (maskN ord:Int) (pw:Int)))).drew.heap[p.B]?=some (.cells (blkA p (maskN (ord++ [n])) vs ov nv) 272 (0,0)):=by
   rw[R1.out];exact(blk_set h.blk 7 _).trans (by rw[blkA_done])
  have hf:Tch (OwnT p ov) w (w.setCell ⟨p.B,7,none⟩ (.int .u64 (bits .or .u64 (maskN ord:Int) (pw:Int)))).drew:=(tch_set (a:=⟨p.B,7,none⟩) _ (.inl rfl)).drew;refine⟨⟨hb,hf⟩,fun b _ hne=>Below.heap_setCell _ _ _ _ hne,?_,?_,blk_fz hb _,vs q,?_⟩
  ·rw[blk_cells hb 1];show some p.u=_;rw[hu]
  ·have:=(hop _ ((vfr_tch hf (fun _ h=>.inl h)).below h.b0B h.b0M (fun b e=>(h.ordr.lt b e).1) (by have:=lt_of_heap h.blk;have:=h.b0B;omega))).2.1;rw[hkq] at this;exact this
  ·rw[blk_cells hb,blkA_vs _ _ _ _ _ _ hq])
 clear hp hcall hop hu hnx hkq h hsep;have n1:(0:Int)≤(n:Int):=by omega
 have n2:(n:Int) < (p.ops.length:Int):=by omega
 have q1:(0:Int)≤(q:Int):=by omega
 have q2:(q:Int) < 8:=by omega
 go_enter Tryz.func268,Tryz.ntmps268
 go_wp2_with fail
 go_region_with (go_at_call 83;refine(HC.out _).mono ?_;rintro e w' ⟨rfl,rfl⟩)
 all_goals
  generalize hW1:(w.setCell ⟨p.B,7,none⟩ (.int .u64 (bits .or .u64 (maskN ord:Int) (pw:Int)))).drew=W1;obtain⟨HB1,HO1,c1,c2,c3,x,c4⟩:=h1.out W1 hW1.symm;have HB1:=hideIt HB1;have HO1:=hideIt HO1;clear hW1 b7 f7;go_wp2_with fail
  go_region
 all_goals
  generalize hW2:(W1.setCell ⟨p.B,8+q,none⟩ (.slice na nl nc)).drew=W2;have hB2:W2.heap[p.B]?=some (.cells (blkA p (maskN (ord++ [n])) (setV vs q (.slice na nl nc)) ov nv) 272 (0,0)):=by
   rw[←hW2];exact(blk_set HB1.out.1 (8+q) _).trans (by rw[blkA_key _ _ _ _ _ _ hq])
  have hT2:Tch (OwnT p ov) w W2:=by
   rw[←hW2];exact HB1.out.2.trans (tch_set (a:=⟨p.B,8+q,none⟩) _ (.inl rfl)).drew
  have hO2:W2.ownsRow p.b0 3 1 ov ord.length (ordV ord):=ownsRow_same HH.out.ordr fun b hb=>by
   rw[←hW2];have hne:b≠p.B:=by
    rintro rfl;obtain⟨_,_,cur,hc⟩:=ownsRow_block HH.out.ordr _ hb;rw[HH.out.blk] at hc;simp at hc
   rw[show (W1.setCell ⟨p.B,8+q,none⟩ (.slice na nl nc)).drew.heap[b]?=W1.heap[b]? from Below.heap_setCell _ _ _ _ hne];exact HO1.out b hb hne
  have c5:W2.cell? ⟨p.B,16,none⟩=some ov:=blk_cells hB2 16;have hs2:p.b0≤W2.heap.size:=by have:=lt_of_heap hB2;have:=HH.out.b0B;omega
  have HB2:=hideIt hB2;have HT2:=hideIt hT2;have HO2:=hideIt hO2;clear hW2 hB2 hT2 hO2 c1 c2 c3 c4;go_wp2_with (at_builtin;refine wpList_append_own_at _ rfl _ _ 26 rfl p.b0 3 i3 (.int .i64 0) 1 8 Tryz.underlying26 hi3 hz3 hs3 hb3 rfl (by decide) ov ord.length (ordV ord) rfl (HO2.out.alloc _) ⟨W2.heap.size,0,none⟩ 1 1 [.int .i64 n] rfl rfl (cell_one_new _ _ _) ?c2 ?c3 ?c4 ?c5 ?_)
  case c2=>intro u hu;simp at hu;subst hu;rfl
  case c3=>unfold maxLen;omega
  case c4=>omega
  case c5=>simp;omega
  intro v' w3 hown hgr _ hloc;have hex:=ownsRow_slice hown;obtain⟨va,vc,hv⟩:=hex;have hg3:W2.grownBy w3 ov.ownBlock:=(World.grownBy_alloc W2 _ _).trans hgr;have hT3:Tch (OwnT p ov) w w3:=HT2.out.trans (tch_grown hg3 (fun k hk=>.inr hk));have hne:some p.B≠ov.ownBlock:=fun e=>by
   obtain⟨_,_,cur,hc⟩:=ownsRow_block HH.out.ordr _ e.symm;rw[HH.out.blk] at hc;simp at hc
  have hB3:w3.heap[p.B]?=some (.cells (blkA p (maskN (ord++ [n])) (setV vs q (.slice na nl nc)) ov nv) 272 (0,0)):=(hg3.block p.B (lt_of_heap HB2.out) hne).trans HB2.out;have c6:w3.cell? ⟨p.B,16,none⟩=some ov:=blk_cells hB3 16;have f6:=blk_fz hB3 16;have hov:∀b,v'.ownBlock=some b→ov.ownBlock=some b∨w.heap.size≤b:=fun b hb=>by
   rcases hloc with e | e
   ·exact .inl (e▸hb)
   ·right
    rw[e] at hb;have:=HT2.out.size;have:b=W2.heap.size+1:=by simpa using (Option.some.inj hb).symm
    omega
  have hvB:v'.ownBlock≠some p.B:=fun e=>by
   rcases hov _ e with e1 | e1
   ·exact hne e1.symm
   ·have:=lt_of_heap HH.out.blk;omega
  have HF:Hid (DoTold p w (ord++ [n]) (setK S (q:Int) st) (setV vs q (.slice na nl nc)) ov nv ent (.returned (.tuple #[])) (w3.setCell ⟨p.B,16,none⟩ v')):=hideIt ⟨v',rfl,
   HH.out.after (hT3.trans (tch_set (a:=⟨p.B,16,none⟩) _ (.inl rfl))) ((blk_set hB3 16 v').trans (by rw[blkA_ord]))
    (by
     have:w3.ownsRow p.b0 3 1 v' (ord++ [n]).length (ordV (ord++ [n])):=by simpa [ordV] using hown
     exact ownsRow_same this fun b hb=>Below.heap_setCell _ _ _ _ (fun e=>hvB (by rw[←show b=p.B from e];exact hb))) hov (rows_set HH.out.rows HX.out) (sep_set HH.out.sep HSP.out),
   vfr_tch (hT3.trans (tch_set (a:=⟨p.B,16,none⟩) _ (.inl rfl))) hov⟩
  clear hown hgr hloc hg3 hT3 hB3 hov hvB hne c5;subst hv;go_wp2
  go_end0
  exact HF.out
open Go.RowKit
theorem keysB_snoc (S:Int→List Int) (ks:List Nat) (k:Nat):keysB S (ks++ [k])=keysB S ks++59::rowB (S k):=by simp[keysB]
theorem rowB_snoc (st:List Int) (x:Int):rowB (st++ [x])=rowB st++(n36 x++ [44]):=by simp[rowB]
theorem RowAt.bfr {w w':World} {base b1:Nat} {v:Value} {st:List Int} (h:RowAt w base v st) (hf:BFr b1 w w'):RowAt w' base v st:=h.same fun b hb=>by
 obtain⟨_,hlt,cur,hc⟩:=h.block b hb;exact hf.block b hlt (fun⟨_,c,fz,e⟩=>by rw[hc] at e;simp at e)
theorem index8_0 (v0 v1 v2 v3 v4 v5 v6 v7:Value) (w:World):(Instr.index 268 (.agg #[v0,v1,v2,v3,v4,v5,v6,v7]) (.int .i64 (0:Nat))).run Tryz.prog w=.ok v0 w:=by kernel_rfl
theorem index8_1 (v0 v1 v2 v3 v4 v5 v6 v7:Value) (w:World):(Instr.index 268 (.agg #[v0,v1,v2,v3,v4,v5,v6,v7]) (.int .i64 (1:Nat))).run Tryz.prog w=.ok v1 w:=by kernel_rfl
theorem index8_2 (v0 v1 v2 v3 v4 v5 v6 v7:Value) (w:World):(Instr.index 268 (.agg #[v0,v1,v2,v3,v4,v5,v6,v7]) (.int .i64 (2:Nat))).run Tryz.prog w=.ok v2 w:=by kernel_rfl
theorem index8_3 (v0 v1 v2 v3 v4 v5 v6 v7:Value) (w:World):(Instr.index 268 (.agg #[v0,v1,v2,v3,v4,v5,v6,v7]) (.int .i64 (3:Nat))).run Tryz.prog w=.ok v3 w:=by kernel_rfl
theorem index8_4 (v0 v1 v2 v3 v4 v5 v6 v7:Value) (w:World):(Instr.index 268 (.agg #[v0,v1,v2,v3,v4,v5,v6,v7]) (.int .i64 (4:Nat))).run Tryz.prog w=.ok v4 w:=by kernel_rfl
theorem index8_5 (v0 v1 v2 v3 v4 v5 v6 v7:Value) (w:World):(Instr.index 268 (.agg #[v0,v1,v2,v3,v4,v5,v6,v7]) (.int .i64 (5:Nat))).run Tryz.prog w=.ok v5 w:=by kernel_rfl
theorem index8_6 (v0 v1 v2 v3 v4 v5 v6 v7:Value) (w:World):(Instr.index 268 (.agg #[v0,v1,v2,v3,v4,v5,v6,v7]) (.int .i64 (6:Nat))).run Tryz.prog w=.ok v6 w:=by kernel_rfl
theorem index8_7 (v0 v1 v2 v3 v4 v5 v6 v7:Value) (w:World):(Instr.index 268 (.agg #[v0,v1,v2,v3,v4,v5,v6,v7]) (.int .i64 (7:Nat))).run Tryz.prog w=.ok v7 w:=by kernel_rfl
theorem index8 (vs:Nat→Value) (k:Nat) (hk:k < 8) (w:World):
  (Instr.index 268 (.agg #[vs 0,vs 1,vs 2,vs 3,vs 4,vs 5,vs 6,vs 7]) (.int .i64 k)).run Tryz.prog w=.ok (vs k) w:=by
 rcases(by omega:k=0∨k=1∨k=2∨k=3∨k=4∨k=5∨k=6∨k=7) with rfl | rfl | rfl | rfl | rfl | rfl | rfl | rfl
 ·exact index8_0 _ _ _ _ _ _ _ _ w
 ·exact index8_1 _ _ _ _ _ _ _ _ w
 ·exact index8_2 _ _ _ _ _ _ _ _ w
 ·exact index8_3 _ _ _ _ _ _ _ _ w
 ·exact index8_4 _ _ _ _ _ _ _ _ w
 ·exact index8_5 _ _ _ _ _ _ _ _ w
 ·exact index8_6 _ _ _ _ _ _ _ _ w
 ·exact index8_7 _ _ _ _ _ _ _ _ w
theorem wpList_byte {ops:Array Oper} {rest:List Oper} {o:Oper} {a:Act} {Q:Exit→Act→World→Prop} {w W:World} {base:Nat} {l:List UInt8} (c:UInt8) (cn:Int) (hcn:cn=(c.toNat:Int)) (hgd:o.guard=none) (s x:Operand)
  (ho:o.op=.call {callee:=.builtin .append,args:=#[s,x],argTypes:=#[134,134]}) (v:Value) (hs:a.eval s=v) (hx:a.eval x=.slice (some ⟨W.heap.size,0,none⟩) 1 1)
  (hw:Wrote base w 0 [] l v W) (hlen:l.length≤100000) (hb:base≤W.heap.size)
  (h:∀v' W',Wrote base w 0 [] (l++ [c]) v' W'→wpList Tryz.prog ops Q rest (a.put o.dst v') W'):wpList Tryz.prog ops Q (o::rest) a (W.alloc (.cells #[.int .u8 cn] 5)):=by
 subst hcn;obtain⟨i5,hi5,hz5,hs5,hb5⟩:=info_parts info5;refine wpList_append_own _ hgd s x 134 ho base 5 i5 (.int .u8 0) 1 1 Tryz.underlying134 hi5 hz5 hs5 hb5 rfl (by decide) v (0+l.length) ([]++byteV l) hs (hw.row.alloc _) ⟨W.heap.size,0,none⟩ 1 1 (byteV [c]) hx rfl ?_ ?_ ?_ ?_ ?_ ?_
 ·intro j u' hj
  match j,hj with
  | 0,hj=>simp[byteV] at hj;subst hj;simp[Addr.add]
 ·intro u' hu';simp only[byteV,List.mem_map] at hu';obtain⟨b,_,rfl⟩:=hu';rfl
 ·unfold maxLen;omega
 ·omega
 ·simp;omega
 intro v' W' hown hgr _;refine h v' W' (hw.then (b:= [c]) ⟨by simpa using hown,?_⟩);exact(bfr_new (World.grownBy_alloc W _ none)).trans (bfr_of_grown (hw.row.alloc _) hgr)
def I64 (x:Int):Prop:= -9223372036854775808≤x∧x < 9223372036854775808
theorem n36_len {x:Int} (h:I64 x):(n36 x).length≤14:=by
 unfold n36;obtain⟨h1,h2⟩:=h
 split
 ·have:=d36_length64 (u:=(-x).toNat) (by omega);simp;omega
 ·have:=d36_length64 (u:=x.toNat) (by omega);omega
theorem rowB_len:∀{st:List Int},(∀x∈st,I64 x)→(rowB st).length≤15*st.length
 | [],_=>by simp[rowB]
 | x::st,h=>by
  have h1:=n36_len (h x (by simp));have h2:=rowB_len (st:=st) (fun y hy=>h y (List.mem_cons_of_mem _ hy));rw[rowB_cons];simp;omega
theorem keysB_len {S:Int→List Int} :∀{ks:List Nat},(∀k∈ks,(∀x∈S (k:Nat),I64 x)∧(S (k:Nat)).length≤100)→(keysB S ks).length≤1501*ks.length
 | [],_=>by simp[keysB]
 | k::ks,h=>by
  have h1:=rowB_len (h k (by simp)).1;have h2:=(h k (by simp)).2;have h3:=keysB_len (ks:=ks) (fun y hy=>h y (List.mem_cons_of_mem _ hy));rw[keysB_cons];simp;omega
def NmTold (p:Par) (w:World) (ord:List Nat) (S:Int→List Int) (e:Ending) (w':World):Prop:=∃v',e=.returned v'∧Wrote p.b0 w 0 [] (nameB ord S) v' w'
set_option maxHeartbeats 4000000 in
theorem appendName_any (p:Par) (ord:List Nat) (S:Int→List Int) (vs:Nat→Value) (ov nv sv:Value) (w:World) (hblk:w.heap[p.B]?=some (.cells (blkA p (maskN ord) vs ov nv) 272 (0,0))) (hrows:∀k,k < 8→RowAt w p.b0 (vs k) (S k))
  (hown:w.ownsRow p.b0 5 1 sv 0 []) (hb0:p.b0≤w.heap.size) (hord:∀m∈ord,m < 60) (hS:∀k,k < 8→(∀x∈S (k:Nat),I64 x)∧(S (k:Nat)).length≤100):
  Calls Tryz.prog 266 #[.pointer (some ⟨p.B,7,none⟩),sv] w fun e w'=>NmTold p w ord S e w':=by
 have hml:maskN ord < 18446744073709551616:=maskN_lt (fun m hm=>by have:=hord m hm;omega);have hdl:=d36_length64 hml;have HC:=hideIt (appendUint36 p.b0 0 (maskN ord) hml sv [] w hown hb0 (by omega));have HKL:Hid (∀k,k≤8→(keysB S (List.range k)).length≤1501*k):=hideIt (fun k hk=>by
  have:=keysB_len (S:=S) (ks:=List.range k) (fun j hj=>hS j (by have:=List.mem_range.1 hj;omega))
  simpa using this)
 have HS:=hideIt hS;have HR:=hideIt hrows;have b7:w.cell? ⟨p.B,7,none⟩=some (.int .u64 (maskN ord)):=blk_cells hblk 7;have HBB:Hid (∀W,BFr p.b0 w W→W.cell? ⟨p.B,8,none⟩=some (vs 0)∧W.cell? ⟨p.B,9,none⟩=some (vs 1)∧W.cell? ⟨p.B,10,none⟩=some (vs 2)∧W.cell? ⟨p.B,11,none⟩=some (vs 3)∧W.cell? ⟨p.B,12,none⟩=some (vs 4)∧W.cell? ⟨p.B,13,none⟩=some (vs 5)∧W.cell? ⟨p.B,14,none⟩=some (vs 6)∧W.cell? ⟨p.B,15,none⟩=some (vs 7)):=hideIt (fun W hf=>by
  have e:=hf.block p.B (lt_of_heap hblk) (fun⟨_,c,fz,e⟩=>by rw[hblk] at e;simp at e);have e:=e.trans hblk;exact⟨blk_cells e 8,blk_cells e 9,blk_cells e 10,blk_cells e 11,blk_cells e 12,blk_cells e 13,blk_cells e 14,blk_cells e 15⟩)
 clear hown hS hrows hblk;go_enter Tryz.func266,Tryz.ntmps266
 go_wp2_with (first | (go_at_call 282;refine HC.out.mono ?_;rintro e w1 ⟨v1,rfl,hw1⟩;have HW1:=hideIt hw1;obtain⟨e0,e1,e2,e3,e4,e5,e6,e7⟩:=HBB.out w1 hw1.fr;clear hw1))
 go_loopw [1,19] (fun nm i wr=>∃k:Nat,k≤8∧i=.int .i64 k∧Wrote p.b0 w 0 [] (d36 (maskN ord)++keysB S (List.range k)) nm wr) (fun _ i _=>8 - (intOf i).toNat)
 case atStart=>exact⟨0,by omega,rfl,by simpa [keysB] using HW1.out⟩
 case round=>
  obtain⟨k,hk,rfl,hw⟩:=hrel;have HW:=hideIt hw;have hsz:p.b0≤wr.heap.size:=Nat.le_trans hb0 hw.fr.size;clear hw e0 e1 e2 e3 e4 e5 e6 e7;by_cases hk8:k < 8
  ·have hrow:=(HR.out k hk8).bfr HW.out.fr;obtain⟨a,cap,hv,hl1,hl2,hl3,hcell⟩:=hrow.has;unfold maxLen at hl2;have hidx:∀W,(Instr.index 268 (.agg #[vs 0,vs 1,vs 2,vs 3,vs 4,vs 5,vs 6,vs 7]) (.int .i64 k)).run Tryz.prog W=.ok (.slice a (S (k:Int)).length cap) W:=fun W=>by rw[index8 vs k hk8 W,hv]
   have HKK:=HKL.out k hk;have hpl:(d36 (maskN ord)++keysB S (List.range k)).length≤100000:=by rw[List.length_append];omega
   have k1:(0:Int)≤(k:Int):=by omega
   have k2:(k:Int) < 8:=by omega
   have HV:=hideIt hv;clear hv hcell hrow;go_wp2_with (at_builtin;refine wpList_byte 59 59 rfl rfl _ _ rfl _ rfl rfl HW.out hpl hsz ?_;intro v2 w2 hw2)
   have HW2:=hideIt hw2;clear hw2
   go_loopw [1,27] (fun nm i wy=>∃j:Nat,j≤(S (k:Int)).length∧i=.int .i64 j∧Wrote p.b0 w 0 [] (d36 (maskN ord)++keysB S (List.range k)++ [59]++rowB ((S (k:Int)).take j)) nm wy) (fun _ i _=>(S (k:Int)).length - (intOf i).toNat)
   case atStart=>exact⟨0,by omega,rfl,by simpa [rowB] using HW2.out⟩
   case round=>
    obtain⟨j,hj,rfl,hwj⟩:=hrel;have HWJ:=hideIt hwj;have hszj:p.b0≤wr.heap.size:=Nat.le_trans hb0 hwj.fr.size;clear hwj;by_cases hjl:j < (S (k:Int)).length
    ·have hrow:=(HR.out k hk8).bfr HWJ.out.fr;rw[HV.out] at hrow;have hcell:∃b off,a=some ⟨b,off,none⟩∧wr.cell? ⟨b,off+j,none⟩=some (.int .i64 (S (k:Int))[j]):=by
      obtain⟨a2,cap2,e,_,_,_,h | ⟨b,off,rfl,hc⟩⟩:=hrow.has
      ·rw[h] at hjl;simp at hjl
      ·simp at e;exact⟨b,off,e.1,hc j hjl⟩
     obtain⟨b,off,rfl,hcell⟩:=hcell;have hx:=(HS.out k hk8).1 _ (List.getElem_mem hjl);have hTk:=take_snoc (S (k:Int)) j hjl;have hrl:=rowB_len (st:=(S (k:Int)).take j) (fun x hx=>(HS.out k hk8).1 x (List.mem_of_mem_take hx));have hll:=(HS.out k hk8).2;rw[List.length_take] at hrl;have hpl2:(d36 (maskN ord)++keysB S (List.range k)++ [59]++rowB ((S (k:Int)).take j)).length≤50000:=by
      simp only[List.length_append,List.length_singleton] at hpl ⊢;omega
     obtain⟨x,hxx⟩:∃x,(S (k:Int))[j]=x:=⟨_,rfl⟩;rw[hxx] at hcell hx hTk;have HT:Hid (rowB ((S (k:Int)).take (j+1))=rowB ((S (k:Int)).take j)++(n36 x++ [44])):=hideIt (by rw[hTk,rowB_snoc]);have hxl:=n36_len hx;have HC2:Hid (∀sv',Wrote p.b0 w 0 [] (d36 (maskN ord)++keysB S (List.range k)++ [59]++rowB ((S (k:Int)).take j)) sv' wr→Calls Tryz.prog 283 #[sv',.int .i64 x,.int .i64 36] wr fun e w'=>∃v',e=.returned v'∧Wrote p.b0 w 0 [] (d36 (maskN ord)++keysB S (List.range k)++ [59]++rowB ((S (k:Int)).take j)++n36 x) v' w'):=hideIt (fun sv' hw'=>
      (appendInt36 p.b0 (0+(d36 (maskN ord)++keysB S (List.range k)++ [59]++rowB ((S (k:Int)).take j)).length) x hx sv' _ wr hw'.row hszj (by omega)).mono fun e w' ⟨v',he,hw2⟩=>⟨v',he,hw'.then hw2⟩)
     clear hTk hxx hx hrow hrl hidx;have j1:(0:Int)≤(j:Int):=by omega
     have j2:(j:Int) < ((S (k:Int)).length:Int):=by omega
     have hpl3:(d36 (maskN ord)++keysB S (List.range k)++ [59]++rowB ((S (k:Int)).take j)++n36 x).length≤100000:=by
      rw[List.length_append];omega
     go_wp2_with (first | (go_at_call 283;refine(HC2.out _ HWJ.out).mono ?_;rintro e w3 ⟨v3,rfl,hw3⟩;have HW3:=hideIt hw3;have hsz3:p.b0≤w3.heap.size:=Nat.le_trans hb0 hw3.fr.size;clear hw3) | (at_builtin;refine wpList_byte 44 44 rfl rfl _ _ rfl _ rfl rfl HW3.out hpl3 hsz3 ?_;intro v4 w4 hw4;have HW4:=hideIt hw4;clear hw4))
     go_roundw
     case rel=>exact⟨j+1,by omega,by go_num,by rw[HT.out];simpa using HW4.out⟩
     case measure=>simp[intOf];omega
    ·have HT:Hid ((S (k:Int)).take j=S (k:Int)):=hideIt (List.take_of_length_le (by omega));have HN:Hid (d36 (maskN ord)++keysB S (List.range (k+1))=d36 (maskN ord)++keysB S (List.range k)++ [59]++rowB ((S (k:Int)).take j)):=hideIt (by
      rw[HT.out,List.range_succ,keysB_snoc];simp)
     go_wp2
     go_roundw
     case rel=>exact⟨k+1,by omega,by go_num,by rw[HN.out];exact HWJ.out⟩
     case measure=>simp[intOf];omega
  ·have HN:Hid (d36 (maskN ord)++keysB S (List.range k)=nameB ord S):=hideIt (by
    have:k=8:=by omega
    subst this;rfl)
   go_wp2;go_ret;exact⟨_,rfl,by rw[←HN.out];exact HW.out⟩
open Go.RowKit
theorem wrap64_i64 (x:Int):I64 (wrap64 x):=by
 unfold wrap64 I64;omega
theorem stepM_i64 {o k a b:Int} {st st':List Int} {r:Int} (h:stepM o st k a b=some (st',r)) (hs:∀x∈st,I64 x) (ha:I64 a) (hb:I64 b):∀x∈st',I64 x:=by
 cases hk:knowsB o k
 ·rw[stepM_unknown hk] at h;cases h
 ·by_cases h1:oneB o=true∧st.length≠1
  ·rw[stepM_len h1.1 h1.2] at h;cases h
  ·have hone:oneB o=true→∃x,st= [x]:=fun e=>by
    have:st.length=1:=by
     by_cases h:st.length=1
     ·exact h
     ·exact absurd ⟨e,h⟩ h1
    exact List.length_eq_one_iff.1 this
   rcases knows_object hk with rfl | rfl | rfl | rfl | rfl | rfl
   ·obtain⟨x,rfl⟩:=hone rfl;rw[stepM_reg hk] at h;have h:=congrArg Prod.fst (Option.some.inj h);have hx:=hs x (by simp);intro y hy;rw[←show _=st' from h] at hy;simp at hy;subst hy;unfold regM
    split
    ·exact ha
    ·split
     ·split
      ·exact hb
      ·exact hx
     ·exact hx
   ·obtain⟨x,rfl⟩:=hone rfl;rw[stepM_cnt hk] at h;have h:=congrArg Prod.fst (Option.some.inj h);have hx:=hs x (by simp);intro y hy;rw[←show _=st' from h] at hy;simp at hy;subst hy;unfold cntM
    split
    ·exact wrap64_i64 _
    ·exact hx
   ·rw[stepM_set hk] at h;have h:=congrArg Prod.fst (Option.some.inj h);intro y hy;rw[←show _=st' from h] at hy;unfold setM at hy
    split at hy
    ·simp only[List.mem_append,List.mem_cons] at hy;rcases hy with hy | rfl | hy
     ·exact hs y (List.mem_of_mem_take hy)
     ·exact ha
     ·exact hs y (List.mem_of_mem_drop hy)
    ·split at hy
     ·simp only[List.mem_append] at hy;rcases hy with hy | hy
      ·exact hs y (List.mem_of_mem_take hy)
      ·exact hs y (List.mem_of_mem_drop hy)
     ·split at hy<;>exact hs y hy
   ·rw[stepM_que hk] at h;have h:=congrArg Prod.fst (Option.some.inj h);intro y hy;rw[←show _=st' from h] at hy;unfold queM at hy
    split at hy
    ·simp only[List.mem_append,List.mem_singleton] at hy;rcases hy with hy | rfl
     ·exact hs y hy
     ·exact ha
    ·split at hy
     ·exact hs y hy
     ·exact hs y (List.mem_of_mem_drop hy)
   ·rw[stepM_sta hk] at h;have h:=congrArg Prod.fst (Option.some.inj h);intro y hy;rw[←show _=st' from h] at hy;unfold staM at hy
    split at hy
    ·simp only[List.mem_append,List.mem_singleton] at hy;rcases hy with hy | rfl
     ·exact hs y hy
     ·exact ha
    ·split at hy
     ·exact hs y hy
     ·exact hs y (List.mem_of_mem_take hy)
   ·obtain⟨x,rfl⟩:=hone rfl;rw[stepM_mut hk] at h;obtain⟨y,hm,hy⟩:=Option.map_eq_some_iff.1 h;have h:=congrArg Prod.fst hy;simp at h;intro z hz;rw[←h] at hz;simp at hz;subst hz;unfold mutM at hm
    split at hm
    ·split at hm
     ·simp at hm;subst hm;exact⟨by omega,by omega⟩
     ·cases hm
    ·split at hm
     ·simp at hm;subst hm;exact⟨by omega,by omega⟩
     ·cases hm
structure ParOK (p : Par) : Prop where
 len:p.ops.length≤60
 keys:∀n,n < p.ops.length→0≤(opN p.ops n).k∧(opN p.ops n).k < 8
 nums:∀n,n < p.ops.length→I64 (opN p.ops n).a∧I64 (opN p.ops n).b
 bud:p.bud≤1000000
theorem reach_i64 {p:Par} (hp:ParOK p) {ord:List Nat} {S:Int→List Int} (h:Reach p.sr ord S):∀q,∀x∈S q,I64 x:=by
 induction h with
 | start=>
  intro q x hx;have hx:x∈startL p.o:=hx;unfold startL at hx
  split at hx
  ·simp at hx;subst hx;exact⟨by omega,by omega⟩
  ·cases hx
 | @step ord S n st h hn hs ih=>
  intro q x hx;obtain⟨r,hst,_⟩:=tell_step (stepN_free hs).2;by_cases e:q=(opN p.ops n).k
  ·subst e;rw[show setK S (opN p.sr.ops n).k st (opN p.ops n).k=st from setK_same _ _ _] at hx;exact stepM_i64 hst (fun y hy=>ih _ y hy) (hp.nums n hn).1 (hp.nums n hn).2 x hx
  ·rw[show setK S (opN p.sr.ops n).k st q=S q from setK_other _ _ _ _ e] at hx;exact ih q x hx
theorem reach_len {p:Par} {ord:List Nat} {S:Int→List Int} (h:Reach p.sr ord S) (q:Int):(S q).length≤ord.length+1:=by
 rw[(reach_run h).1];exact sAt_len _ _ _ _ _
theorem reach_rise {p:Par} {ord:List Nat} {S:Int→List Int} (h:Reach p.sr ord S) (q:Int):p.o=3→(S q).Pairwise (· ≤ ·):=by
 intro e;have:S=sAt 3 p.ops (iL ord) ord.length:=by rw[←e];exact(reach_run h).1
 rw[this];exact(sAt_rises _ _ _ _).imp (fun h=>by omega)
theorem reach_ord {p:Par} (hp:ParOK p) {ord:List Nat} {S:Int→List Int} (h:Reach p.sr ord S):(∀m∈ord,m < 60)∧ord.length≤60:=
 ⟨fun m hm=>Nat.lt_of_lt_of_le (reach_range h m hm) hp.len,Nat.le_trans (reach_length h) hp.len⟩
theorem setV_back (vs:Nat→Value) (q:Nat) (x:Value):setV (setV vs q x) q (vs q)=vs:=by
 funext k
 by_cases e:k=q
 ·subst e;simp[setV]
 ·simp[setV,e]
theorem setK_back (S:Int→List Int) (q:Int) (st:List Int):setK (setK S q st) q (S q)=S:=by
 funext k
 by_cases e:k=q
 ·subst e;simp[setK]
 ·simp[setK,e]
open Go.RowKit
theorem order_pop {w:World} {base g cap:Nat} {ord:List Nat} {n:Nat} (h:w.ownsRow base 3 1 (.slice (some ⟨g,0,none⟩) (ord++ [n]).length cap) (ord++ [n]).length (ordV (ord++ [n]))):w.ownsRow base 3 1 (.slice (some ⟨g,0,none⟩) ord.length cap) ord.length (ordV ord):=by
 obtain⟨_,⟨h,_⟩ | ⟨g',cap',cur,e,hb,hh,h1,h2,h3,h4⟩⟩:=h
 ·cases h
 ·simp at e;obtain⟨rfl,rfl⟩:=e;refine⟨by simp[ordV],.inr ⟨g,cap,cur,rfl,hb,hh,by simp at h1;omega,h2,h3,?_⟩⟩;have:=congrArg (List.take ord.length) h4;rw[List.take_take] at this
  simpa [ordV] using this
theorem order_some {w:World} {base:Nat} {ov:Value} {ord:List Nat} {n:Nat} (h:w.ownsRow base 3 1 ov (ord++ [n]).length (ordV (ord++ [n]))):∃g cap,ov=.slice (some ⟨g,0,none⟩) (ord.length+1) cap∧ord.length+1≤cap∧cap≤maxLen:=by
 obtain⟨_,⟨_,h⟩ | ⟨g',cap',cur,e,hb,hh,h1,h2,h3,h4⟩⟩:=h
 ·simp at h
 ·exact⟨g',cap',by rw[e];simp,by simpa using h1,h2⟩
theorem andNot_bits {m q:Nat} (hm:m < 18446744073709551616) (hq:q < 18446744073709551616):bits .andNot .u64 (m:Int) (q:Int)=((m&&& (18446744073709551615 - q):Nat):Int):=u64_andNot_nat m q hm hq
set_option maxHeartbeats 4000000 in
theorem undo_any (p:Par) (n q:Nat) (ord:List Nat) (S:Int→List Int) (vs:Nat→Value) (ov nv nx:Value) (ent:List (List UInt8)) (st:List Int) (w:World) (h:SearchAt p w (ord++ [n]) S vs ov nv ent)
  (hn:n < p.ops.length) (hlen:p.ops.length≤60) (hkq:(opN p.ops n).k=(q:Int)) (hq:q < 8) (hord:∀m∈ord,m < 60) (hol:ord.length≤60) (hnot:n∉ord) (hnx:RowAt w p.b0 nx st) (hsep:∀b,nx.ownBlock=some b→ov.ownBlock≠some b):
  Calls Tryz.prog 269 #[.pointer (some ⟨p.B,0,none⟩),.int .i64 n,nx] w fun e w'=>DoTold p w ord (setK S (q:Int) st) (setV vs q nx) ov nv ent e w':=by
 have hml:maskN (ord++ [n]) < 18446744073709551616:=maskN_lt (fun m hm=>by
  rcases List.mem_append.1 hm with hm | hm
  ·have:=hord m hm;omega
  ·rw[List.mem_singleton.1 hm];omega)
 obtain⟨pw,hp,hcall⟩:=bit_call n (by omega);have HC:=hideIt hcall;have R1:Hid (bits .andNot .u64 (maskN (ord++ [n]):Int) (pw:Int)=(maskN ord:Int)):=hideIt (by
  rw[hp,andNot_bits hml (pow_lt64 (by omega)),andNot_bit (by omega) hnot (fun m hm=>by have:=hord m hm;omega)])
 have b7:w.cell? ⟨p.B,7,none⟩=some (.int .u64 (maskN (ord++ [n]))):=blk_cells h.blk 7;have f7:=blk_fz h.blk 7;obtain⟨bo,offo,cap,hu,hbo,hop⟩:=ops_cell h.ops h.opsb hn;obtain⟨i3,hi3,hz3,hs3,hb3⟩:=info_parts info3;obtain⟨na,nl,nc,rfl⟩:=hnx.slice;have HH:=hideIt h;have HU:=hideIt hu;have HX:=hideIt hnx;have HSP:=hideIt hsep;have HKQ:=hideIt hkq;rw[opN_at hn] at hkq
 -- behind the first region
 have h1:Hid (∀W1,W1=(w.setCell ⟨p.B,7,none⟩ (.int .u64 (bits .andNot .u64 (maskN (ord++ [n]):Int) (pw:Int)))).drew→(W1.heap[p.B]?=some (.cells (blkA p (maskN ord) vs ov nv) 272 (0,0))∧Tch (OwnT p ov) w W1)
   ∧(∀b,ov.ownBlock=some b→b≠p.B→W1.heap[b]?=w.heap[b]?)
   ∧W1.cell? ⟨p.B,1,none⟩=some (.slice (some ⟨bo,offo,none⟩) p.ops.length cap)∧W1.cell? ⟨bo,offo+n*8+1,none⟩=some (.int .i64 q)∧W1.frozen? ⟨p.B,8+q,none⟩=false∧∃x,W1.cell? ⟨p.B,8+q,none⟩=some x):=hideIt (fun W1 e=>by
  subst e;have hb:(w.setCell ⟨p.B,7,none⟩ (.int .u64 (bits .andNot .u64 (maskN (ord++ [n]):Int) (pw:Int)))).drew.heap[p.B]?=some (.cells (blkA p (maskN ord) vs ov nv) 272 (0,0)):=by
   rw[R1.out];exact(blk_set h.blk 7 _).trans (by rw[blkA_done])
  have hf:Tch (OwnT p ov) w (w.setCell ⟨p.B,7,none⟩ (.int .u64 (bits .andNot .u64 (maskN (ord++ [n]):Int) (pw:Int)))).drew:=(tch_set (a:=⟨p.B,7,none⟩) _ (.inl rfl)).drew;refine⟨⟨hb,hf⟩,fun b _ hne=>Below.heap_setCell _ _ _ _ hne,?_,?_,blk_fz hb _,vs q,?_⟩
  ·rw[blk_cells hb 1];show some p.u=_;rw[hu]
  ·have:=(hop _ ((vfr_tch hf (fun _ h=>.inl h)).below h.b0B h.b0M (fun b e=>(h.ordr.lt b e).1) (by have:=lt_of_heap h.blk;have:=h.b0B;omega))).2.1;rw[hkq] at this;exact this
  ·rw[blk_cells hb,blkA_vs _ _ _ _ _ _ hq])
 clear hp hcall hop hu hnx hkq h hsep;have n1:(0:Int)≤(n:Int):=by omega
 have n2:(n:Int) < (p.ops.length:Int):=by omega
 have q1:(0:Int)≤(q:Int):=by omega
 have q2:(q:Int) < 8:=by omega
 go_enter Tryz.func269,Tryz.ntmps269
 go_wp2_with fail
 go_region_with (go_at_call 83;refine(HC.out _).mono ?_;rintro e w' ⟨rfl,rfl⟩)
 all_goals
  generalize hW1:(w.setCell ⟨p.B,7,none⟩ (.int .u64 (bits .andNot .u64 (maskN (ord++ [n]):Int) (pw:Int)))).drew=W1;obtain⟨HB1,HO1,c1,c2,c3,x,c4⟩:=h1.out W1 hW1.symm;have HB1:=hideIt HB1;have HO1:=hideIt HO1;clear hW1 b7 f7;go_wp2_with fail
  go_region
 all_goals
  generalize hW2:(W1.setCell ⟨p.B,8+q,none⟩ (.slice na nl nc)).drew=W2;have hB2:W2.heap[p.B]?=some (.cells (blkA p (maskN ord) (setV vs q (.slice na nl nc)) ov nv) 272 (0,0)):=by
   rw[←hW2];exact(blk_set HB1.out.1 (8+q) _).trans (by rw[blkA_key _ _ _ _ _ _ hq])
  have hT2:Tch (OwnT p ov) w W2:=by
   rw[←hW2];exact HB1.out.2.trans (tch_set (a:=⟨p.B,8+q,none⟩) _ (.inl rfl)).drew
  obtain⟨g,oc,hov,hoc,hom⟩:=order_some HH.out.ordr;have hne:g≠p.B:=fun e=>by
   obtain⟨_,_,cur,hc⟩:=ownsRow_block HH.out.ordr g (by rw[hov];rfl);rw[e,HH.out.blk] at hc;simp at hc
  have hO2:W2.ownsRow p.b0 3 1 (.slice (some ⟨g,0,none⟩) ord.length oc) ord.length (ordV ord):=by
   have h0:=HH.out.ordr;rw[hov] at h0;refine ownsRow_same (order_pop (cap:=oc) (by simpa using h0)) fun b hb=>?_
   obtain rfl:g=b:=by simpa [Value.ownBlock] using hb
   rw[←hW2];rw[show (W1.setCell ⟨p.B,8+q,none⟩ (.slice na nl nc)).drew.heap[g]?=W1.heap[g]? from Below.heap_setCell _ _ _ _ hne];exact HO1.out g (by rw[hov];rfl) hne
  have c5:W2.cell? ⟨p.B,16,none⟩=some (.slice (some ⟨g,0,none⟩) (ord.length+1) oc):=by rw[←hov];exact blk_cells hB2 16
  have f5:=blk_fz hB2 16;have HF:Hid (∀W3,W3=(W2.setCell ⟨p.B,16,none⟩ (.slice (some ⟨g,0,none⟩) ord.length oc)).drew→DoTold p w ord (setK S (q:Int) st) (setV vs q (.slice na nl nc)) ov nv ent (.returned (.tuple #[])) W3):=hideIt (fun W3 e=>by
   subst e;have hT3:Tch (OwnT p ov) w (W2.setCell ⟨p.B,16,none⟩ (.slice (some ⟨g,0,none⟩) ord.length oc)).drew:=hT2.trans (tch_set (a:=⟨p.B,16,none⟩) _ (.inl rfl)).drew;have hon:∀b,(Value.slice (some ⟨g,0,none⟩) ord.length oc).ownBlock=some b→ov.ownBlock=some b∨w.heap.size≤b:=fun b hb=>by
    rw[hov];exact .inl hb
   exact⟨.slice (some ⟨g,0,none⟩) ord.length oc,rfl,
    HH.out.after hT3 ((blk_set hB2 16 _).trans (by rw[blkA_ord])) (ownsRow_same hO2 fun b hb=>Below.heap_setCell _ _ _ _ (fun e=>hne (by
     obtain rfl:g=b:=by simpa [Value.ownBlock] using hb
     exact e))) hon (rows_set HH.out.rows HX.out) (sep_set HH.out.sep HSP.out),vfr_tch hT3 hon⟩)
  clear hW2 hB2 hT2 hO2 c1 c2 c3 c4 hov;unfold maxLen at hom;have l1:IntKind.i64.wrap (((ord.length+1:Nat):Int) - 1)=(ord.length:Int):=by rw[IntKind.wrap_i64];omega
  have l2:((ord.length+1:Nat):Int) - 1=(ord.length:Int):=by omega
  go_wp2_with fail
  go_region
  all_goals
   go_wp2
   go_end0
   exact HF.out _ rfl
end Go.Proofs.YtjpklmighoondaaGreatDoor
