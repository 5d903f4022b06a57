/-
  Package linear's verdict: walked.
  Package linear's Shows: walked.
  What is told ahead of a search, in plain words.
-/
import Derived.Test.YtjpklmighoondaaGreatDoorVisitWY
import Derived.Test.YtjpklmighoondaaGreatDoorWaitsWY
import Derived.Test.YtjpklmighoondaaGreatDoorWalkGY
import Derived.Deep.RegionHeld3
import Derived.Test.YtjpklmighoondaaGreatDoorDoWY
namespace Go.Proofs.YtjpklmighoondaaGreatDoor
open Go.RowKit
def fnB:Value:=.func (.func 86) #[] #[]
structure PreV (o : Int) (ops : List Opn) (bud : Nat) (u : Value) (b0 B M : Nat) (w : World) : Prop where
 blk:w.heap[B]?=some (.cells (blkG o u bud fnB nilS 0 M 0 (fun _=>nilS) nilS nilS) 272 (0,0))
 set:SetS w M []
 ops:OpsIn w u ops
 opsb:∀a n c,u=.slice (some a) n c→0 < n→a.block < b0
 known:KnownAt w
 b0pos:0 < b0
 b0B:b0≤B
 b0M:b0≤M
def OneT (B k:Nat):Prop:=k=B
theorem Tch.belowB {b0 B:Nat} {w w':World} (h:Tch (OneT B) w w') (hB:b0≤B) (hs:B < w.heap.size):Below b0 w w':=
 ⟨h.os,h.tape,h.output,h.size,fun k hk=>h.same k (by omega) (fun e=>by unfold OneT at e;omega)⟩
structure MidV (o : Int) (ops : List Opn) (bud : Nat) (u : Value) (b0 B M : Nat) (w : World) (wv : Value) (vs : Nat → Value) (k : Nat) (wx : World) : Prop where
 blk:wx.heap[B]?=some (.cells (blkG o u bud fnB wv (maskN (endL ops)) M 0 vs nilS nilS) 272 (0,0))
 tch:Tch (OneT B) w wx
 waits:∃Wb cur,wv=.slice (some ⟨Wb,0,none⟩) ops.length ops.length∧b0≤Wb∧Wb≠B∧wx.heap[Wb]?=some (.cells cur 164 (0,0))∧∀i,i < ops.length→wx.cell? ⟨Wb,i,none⟩=some (.int .u64 (maskN (waitL ops beforeB i)))
 rows:∀j,j < k→RowAt wx b0 (vs j) (startL o)
theorem opsIn_below {w w':World} {u:Value} {ops:List Opn} {b0:Nat} (h:OpsIn w u ops) (hb:∀a n c,u=.slice (some a) n c→0 < n→a.block < b0) (hw:Below b0 w w'):OpsIn w' u ops:=by
 obtain⟨a,cap,e,hc,hm,ho⟩:=h;refine⟨a,cap,e,hc,hm,?_⟩;rcases ho with ho | ⟨b,off,rfl,hlt,ho⟩
 ·exact .inl ho
 ·by_cases h0:ops= []
  ·exact .inl h0
  ·have hb0:b < b0:=hb ⟨b,off,none⟩ _ _ e (List.length_pos_iff.2 h0);exact .inr ⟨b,off,rfl,Nat.lt_of_lt_of_le hlt hw.size,ho.below hb0 hw⟩
theorem MidV.search {o:Int} {ops:List Opn} {bud:Nat} {u:Value} {b0 B M:Nat} {w wx:World} {wv:Value} {vs:Nat→Value} (h:MidV o ops bud u b0 B M w wv vs 8 wx) (hp:PreV o ops bud u b0 B M w):
  SearchAt ⟨o,ops,beforeB,bud,u,fnB,wv,b0,B,M⟩ wx [] (fun _=>startL o) vs nilS nilS []:=by
 have hbel:=h.tch.belowB hp.b0B (lt_of_heap hp.blk);obtain⟨Wb,cur,e1,e2,_,e3,e4⟩:=h.waits;refine⟨h.blk,fun k hk=>h.rows k hk,fun k _ b _ e=>(by cases e),World.ownsRow_nil _ _ _ _,⟨0,[],World.ownsRow_nil _ _ _ _⟩,?_,⟨Wb,cur,e1,e2,e3,e4⟩,opsIn_below hp.ops hp.opsb hbel,hp.opsb,hp.known.below hp.b0pos hbel,hp.b0pos,hp.b0B,hp.b0M⟩;obtain⟨es,clock,hm⟩:=hp.set.isMap;refine hp.set.same (h.tch.same M (lt_of_heap hm) (fun e=>?_));rw[show M=B from e,hp.blk] at hm;cases hm
def z33:Obj:=.cells #[.int .i64 0,.slice none 0 0,.int .i64 0] 34 (0,0)
theorem mid_mk {o:Int} {ops:List Opn} {bud:Nat} {u:Value} {b0 B M:Nat} {w W1 w2 w3:World} {Wb:Nat} {cur:Array Value} (hp:PreV o ops bud u b0 B M w) (hg1:w.grownBy W1 none) (hR:W1.heap[w.heap.size]?=some z33) (hg2:W1.grownBy w2 none) (hWb:W1.heap.size≤Wb)
  (hh:w2.heap[Wb]?=some (.cells cur 164 (0,0))) (hcl:∀i,i < ops.length→w2.cell? ⟨Wb,i,none⟩=some (.int .u64 (maskN (waitL ops beforeB i)))) (hg3:w2.grownBy w3 none):
  (∃wv,MidV o ops bud u b0 B M w wv (fun _=>nilS) 0 ((w3.setCell ⟨B,4,none⟩ (.slice (some ⟨Wb,0,none⟩) ops.length ops.length)).setCell ⟨B,5,none⟩ (.int .u64 (maskN (endL ops)))))∧
   ((w3.setCell ⟨B,4,none⟩ (.slice (some ⟨Wb,0,none⟩) ops.length ops.length)).setCell ⟨B,5,none⟩ (.int .u64 (maskN (endL ops)))).heap[w.heap.size]?=some z33:=by
 have hBl:B < w.heap.size:=lt_of_heap hp.blk;have hg:=(hg1.trans hg2).trans hg3;have hB3:w3.heap[B]?=some (.cells (blkG o u bud fnB nilS 0 M 0 (fun _=>nilS) nilS nilS) 272 (0,0)):=(hg.block B hBl (by simp)).trans hp.blk;have hs1:=hg1.size;have hne:Wb≠B:=by omega
 have hset:∀k,k≠B→((w3.setCell ⟨B,4,none⟩ (.slice (some ⟨Wb,0,none⟩) ops.length ops.length)).setCell ⟨B,5,none⟩ (.int .u64 (maskN (endL ops)))).heap[k]?=w3.heap[k]?:=fun k hk=>
  (Below.heap_setCell _ _ _ _ hk).trans (Below.heap_setCell _ _ _ _ hk)
 have hW3:w3.heap[Wb]?=w2.heap[Wb]?:=hg3.block Wb (lt_of_heap hh) (by simp);refine⟨⟨.slice (some ⟨Wb,0,none⟩) ops.length ops.length,⟨(bg_set (bg_set hB3 4 _) 5 _).trans rfl,(tch_grown hg (fun k e=>by cases e)).trans ((tch_set (T:=OneT B) (a:=⟨B,4,none⟩) _ rfl).trans (tch_set (T:=OneT B) (a:=⟨B,5,none⟩) _ rfl)),
  ⟨Wb,cur,rfl,by have:=hp.b0B;omega,hne,(hset Wb hne).trans (hW3.trans hh),fun i hi=>?_⟩,fun j hj=>by omega⟩⟩,?_⟩
 ·exact(World.cell?_of_block (a:=⟨Wb,i,none⟩) ((hset Wb hne).trans hW3)).trans (hcl i hi)
 ·rw[hset _ (by omega),hg3.block _ (by have:=lt_of_heap hR;have:=hg2.size;omega) (by simp),hg2.block _ (lt_of_heap hR) (by simp)];exact hR
theorem MidV.key {o:Int} {ops:List Opn} {bud:Nat} {u:Value} {b0 B M:Nat} {w wr w2:World} {wv:Value} {vs:Nat→Value} {k:Nat} {a:Option Addr} {l c:Nat} (h:MidV o ops bud u b0 B M w wv vs k wr) (hp:PreV o ops bud u b0 B M w) (hk:k < 8)
  (hg:wr.grownBy w2 none) (hrow:RowAt w2 wr.heap.size (.slice a l c) (startL o)):MidV o ops bud u b0 B M w wv (setV vs k (.slice a l c)) (k+1) (w2.setCell ⟨B,8+k,none⟩ (.slice a l c)):=by
 have hBw:B < wr.heap.size:=lt_of_heap h.blk;have hB2:=(hg.block B hBw (by simp)).trans h.blk;have hset:∀j,j≠B→(w2.setCell ⟨B,8+k,none⟩ (.slice a l c)).heap[j]?=w2.heap[j]?:=fun j hj=>Below.heap_setCell _ _ _ _ hj
 obtain⟨Wb,cur,e1,e2,e3,e4,e5⟩:=h.waits;have eW:=hg.block Wb (lt_of_heap e4) (by simp);refine⟨(bg_set hB2 (8+k) _).trans (by rw[blkG_key _ _ _ _ _ _ _ _ _ _ _ _ hk]),h.tch.trans ((tch_grown hg (fun k e=>by cases e)).trans (tch_set (T:=OneT B) (a:=⟨B,8+k,none⟩) _ rfl)),
  ⟨Wb,cur,e1,e2,e3,(hset Wb e3).trans (eW.trans e4),fun i hi=>(World.cell?_of_block (a:=⟨Wb,i,none⟩) ((hset Wb e3).trans eW)).trans (e5 i hi)⟩,fun j hj=>?_⟩
 have hneB:∀(v:Value) (st:List Int) (base:Nat),RowAt w2 base v st→∀b,v.ownBlock=some b→b≠B:=fun v st base hr b hb e=>by
  obtain⟨_,_,cur,hc⟩:=hr.block b hb;rw[e,hB2] at hc;simp at hc
 by_cases e:j=k
 ·subst e;have:setV vs j (.slice a l c) j=.slice a l c:=by simp[setV]
  rw[this];exact(hrow.base (by have:=hp.b0B;omega)).same fun b hb=>hset b (hneB _ _ _ hrow b hb)
 ·have:setV vs k (.slice a l c) j=vs j:=by simp[setV,e]
  rw[this];have hr:=(h.rows j (by omega)).new hg;exact hr.same fun b hb=>hset b (hneB _ _ _ hr b hb)
structure AftV (b0 B : Nat) (w : World) (r : Res) (ov : Value) (wx : World) : Prop where
 ovc:wx.cell? ⟨B,16,none⟩=some ov
 row:wx.ownsRow b0 3 1 ov r.ord.length (ordV r.ord)
 bel:Below b0 w wx
 res:wx.heap[w.heap.size]?=some z33
 blt:B < wx.heap.size
theorem aft_visit {o:Int} {ops:List Opn} {bud:Nat} {u:Value} {b0 B M:Nat} {w wr W w2:World} {wv:Value} {vs:Nat→Value} {r:Res} {e:Ending} (h:MidV o ops bud u b0 B M w wv vs 8 wr) (hp:PreV o ops bud u b0 B M w) (hR:wr.heap[w.heap.size]?=some z33) (hg:wr.grownBy W none)
  (hv:VTold ⟨o,ops,beforeB,bud,u,fnB,wv,b0,B,M⟩ W [] (fun _=>startL o) vs nilS r e w2):
  e=.returned (.int .i64 (r.code:Int))∧∃ov,AftV b0 B w r ov w2∧w2.cell? ⟨B,6,none⟩=some (.map (some M))∧SetS w2 M r.ent∧(∀R:Nat,W.heap[R]?=some z33→w2.heap[R]?=some z33):=by
 obtain⟨rfl,S',vs',ov,nv,hs,hf,_⟩:=hv;have h0:=h.search hp;have hbel0:=h.tch.belowB hp.b0B (lt_of_heap hp.blk);have hBw:B < W.heap.size:=Nat.lt_of_lt_of_le (lt_of_heap h.blk) hg.size;have hbel:Below b0 w w2:=(hbel0.grown hg (by have:=lt_of_heap h.blk;have:=hp.b0B;omega) (fun k e=>by cases e)).trans (hf.below hp.b0B hp.b0M (fun b e=>by cases e) (by have:=hp.b0B;show b0≤_;omega));have hkeep:∀R:Nat,W.heap[R]?=some z33→w2.heap[R]?=some z33:=fun R hR=>by
  refine(hf.same R (lt_of_heap hR) ?_ ?_ (fun e=>by cases e) (.inr fun c fz e=>by rw[hR] at e;simp[z33] at e)).trans hR
  ·intro e;have:=(hg.block B (lt_of_heap h.blk) (by simp)).trans h.blk;rw[←show R=B from e,hR] at this;simp[z33] at this
  ·intro e;obtain⟨es,clock,hm⟩:=h0.set.isMap;have:=(hg.block _ (lt_of_heap hm) (by simp)).trans hm;rw[←e,hR] at this;cases this
 exact⟨rfl,ov,⟨blk_cells hs.blk 16,hs.ordr,hbel,hkeep _ ((hg.block _ (lt_of_heap hR) (by simp)).trans hR),lt_of_heap hs.blk⟩,blk_cells hs.blk 6,hs.set,hkeep⟩
theorem AftV.set {b0 B R:Nat} {w w2:World} {r:Res} {ov:Value} {cs:Array Value} (h:AftV b0 B w r ov w2) (hz:w2.heap[R]?=some (.cells cs 34 (0,0))) (h1:R≠w.heap.size) (h2:b0≤R) (h3:R≠B) (i:Nat) (x:Value):
  AftV b0 B w r ov (w2.setCell ⟨R,i,none⟩ x)∧(w2.setCell ⟨R,i,none⟩ x).heap[R]?=some (.cells (cs.setIfInBounds i x) 34 (0,0)):=by
 have hs:∀k,k≠R→(w2.setCell ⟨R,i,none⟩ x).heap[k]?=w2.heap[k]?:=fun k hk=>Below.heap_setCell _ _ _ _ hk
 refine⟨⟨(World.cell?_of_block (a:=⟨B,16,none⟩) (hs B (Ne.symm h3))).trans h.ovc,ownsRow_same h.row fun b hb=>hs b (fun e=>?_),h.bel.setCell (p:=⟨R,i,none⟩) h2 x,(hs _ (Ne.symm h1)).trans h.res,by have:=h.blt;simpa [World.setCell] using this⟩,by simp[World.setCell,Array.getElem?_modify,hz]⟩;obtain⟨_,_,cur,hc⟩:=ownsRow_block h.row b hb;rw[e,hz] at hc;simp at hc
theorem AftV.alloc {b0 B:Nat} {w w2:World} {r:Res} {ov:Value} (h:AftV b0 B w r ov w2) (hb:b0≤w2.heap.size) (o:Obj):AftV b0 B w r ov (w2.alloc o):=
 ⟨(World.cell?_alloc_lt w2 o ⟨B,16,none⟩ h.blt).trans h.ovc,h.row.alloc o,h.bel.alloc hb o,(Below.heap_alloc w2 o _ (lt_of_heap h.res)).trans h.res,by have:=h.blt;simp;omega⟩
def ResV (b0 B:Nat) (w:World) (r:Res) (x:Value) (wx:World):Prop:=
 ∃R ov,x=.pointer (some ⟨R,0,none⟩)∧AftV b0 B w r ov wx∧wx.heap[R]?=some (.cells #[.int .i64 (r.code:Int),.slice none 0 0,.int .i64 (r.ent.length:Int)] 34 (0,0))∧R≠w.heap.size∧b0≤R∧R≠B
theorem resA {b0 B R:Nat} {w w2:World} {r:Res} {ov:Value} (h:AftV b0 B w r ov w2) (hz:w2.heap[R]?=some z33) (h1:R≠w.heap.size) (h2:b0≤R) (h3:R≠B):
  ResV b0 B w r (.pointer (some ⟨R,0,none⟩)) (((w2.setCell ⟨R,0,none⟩ (.int .i64 (r.code:Int))).setCell ⟨R,1,none⟩ (.slice none 0 0)).setCell ⟨R,2,none⟩ (.int .i64 (r.ent.length:Int))):=by
 obtain⟨a1,b1⟩:=h.set hz h1 h2 h3 0 (.int .i64 (r.code:Int));obtain⟨a2,b2⟩:=a1.set b1 h1 h2 h3 1 (.slice none 0 0);obtain⟨a3,b3⟩:=a2.set b2 h1 h2 h3 2 (.int .i64 (r.ent.length:Int));exact⟨R,ov,rfl,a3,b3,h1,h2,h3⟩
theorem resB {b0 B:Nat} {w w2:World} {r:Res} {ov:Value} (h:AftV b0 B w r ov w2) (hb:b0≤w.heap.size):
  ResV b0 B w r (.pointer (some ⟨w2.heap.size,0,none⟩)) (w2.alloc (.cells #[.int .i64 (r.code:Int),.slice none 0 0,.int .i64 (r.ent.length:Int)] 34)):=by
 have h1:=lt_of_heap h.res;have h2:=h.blt;exact⟨w2.heap.size,ov,rfl,h.alloc (by omega) _,heap_alloc_new w2 _,by omega,by omega,by omega⟩
theorem row_off {base:Nat} {w:World} {v:Value} {n:Nat} {xs:List Value} {R:Nat} {cs:Array Value} {t:TypeId} (h:w.ownsRow base 3 1 v n xs) (hz:w.heap[R]?=some (.cells cs t (0,0))) (ht:t≠3):v.ownBlock≠some R:=fun e=>by
 obtain⟨_,_,cur,hc⟩:=ownsRow_block h R e;rw[hz] at hc;simp at hc;exact ht hc.2
theorem vd_one {b0 B R:Nat} {w wc:World} {r:Res} {ov:Value} (h:AftV b0 B w r ov wc) (hres:∃cs,wc.heap[R]?=some (.cells cs 34 (0,0))) (hb:b0≤w.heap.size) (h2:b0≤R) (hc:r.code=1) (x y z:Value):
  VdTold b0 w r (.returned (.agg #[.int .i64 1,ov,.int .i64 (r.ent.length:Int)])) ((((wc.setCell ⟨R,1,none⟩ x).setCell ⟨w.heap.size,0,none⟩ y).setCell ⟨w.heap.size,1,none⟩ x).setCell ⟨w.heap.size,2,none⟩ z):=by
 obtain⟨cs,hres⟩:=hres;have n1:=row_off h.row hres (by decide);have n2:=row_off h.row h.res (by decide);refine⟨ov,by rw[hc];rfl,(((h.bel.setCell (p:=⟨R,1,none⟩) h2 _).setCell (p:=⟨w.heap.size,0,none⟩) hb _).setCell (p:=⟨w.heap.size,1,none⟩) hb _).setCell (p:=⟨w.heap.size,2,none⟩) hb _,fun _=>?_,fun e=>absurd hc e⟩;exact ownsRow_setCell_other (ownsRow_setCell_other (ownsRow_setCell_other (ownsRow_setCell_other h.row n1 _) n2 _) n2 _) n2 _
theorem vd_two {b0 B:Nat} {w wc:World} {r:Res} {ov:Value} (h:AftV b0 B w r ov wc) (hb:b0≤w.heap.size) (hc:r.code≠1) (x y z:Value):
  VdTold b0 w r (.returned (.agg #[.int .i64 (r.code:Int),.slice none 0 0,.int .i64 (r.ent.length:Int)])) (((wc.setCell ⟨w.heap.size,0,none⟩ y).setCell ⟨w.heap.size,1,none⟩ x).setCell ⟨w.heap.size,2,none⟩ z):=
 ⟨.slice none 0 0,rfl,((h.bel.setCell (p:=⟨w.heap.size,0,none⟩) hb _).setCell (p:=⟨w.heap.size,1,none⟩) hb _).setCell (p:=⟨w.heap.size,2,none⟩) hb _,fun e=>absurd e hc,fun _=>rfl⟩
set_option maxRecDepth 100000 in
set_option maxHeartbeats 8000000 in
theorem verdict_any (o:Int) (ops:List Opn) (bud:Nat) (u:Value) (b0 B M:Nat) (w:World) (hp:PreV o ops bud u b0 B M w) (hlen:ops.length≤60) (hbud:bud≤1000000)
  (hkeys:∀n,n < ops.length→0≤(opN ops n).k∧(opN ops n).k < 8) (hnums:∀n,n < ops.length→I64 (opN ops n).a∧I64 (opN ops n).b):
  Calls Tryz.prog 170 #[.pointer (some ⟨B,0,none⟩)] w fun e w'=>VdTold b0 w (searchM ⟨o,ops,beforeB,bud,nameB⟩) e w':=by
 have HP:=hideIt hp;have hBl:B < w.heap.size:=lt_of_heap hp.blk;have hbs:b0≤w.heap.size:=by have:=hp.b0B;omega
 have hg1:w.grownBy (w.alloc (.cells #[.int .i64 0,.slice none 0 0,.int .i64 0] 34)) none:=World.grownBy_alloc _ _ _;obtain⟨W1,hW1⟩:∃W1,w.alloc (.cells #[.int .i64 0,.slice none 0 0,.int .i64 0] 34)=W1:=⟨_,rfl⟩;have hR:W1.heap[w.heap.size]?=some (.cells #[.int .i64 0,.slice none 0 0,.int .i64 0] 34 (0,0)):=by rw[←hW1];exact heap_alloc_new w _
 rw[hW1] at hg1;have hB1:W1.heap[B]?=some (.cells (blkG o u bud fnB nilS 0 M 0 (fun _=>nilS) nilS nilS) 272 (0,0)):=(hg1.block B hBl (by simp)).trans hp.blk;have b1:W1.cell? ⟨B,1,none⟩=some u:=bg_cell hB1 1;have hO1:OpsIn W1 u ops:=hp.ops.below (below_grown hg1);have HAW:Hid (∀W,W1.grownBy W none→Calls Tryz.prog 227 #[.pointer (some ⟨B,0,none⟩)] W fun e w'=>AwTold ops beforeB W e w'):=hideIt (fun W hg=>by
  have hb:=(hg.block B (lt_of_heap hB1) (by simp)).trans hB1;exact allWaits_any ops u B W hlen (hO1.below (below_grown hg)) (bg_cell hb 1) (bg_cell hb 3))
 have HEN:Hid (∀W,W1.grownBy W none→Calls Tryz.prog 85 #[u] W fun e w'=>e=.returned (.int .u64 (maskN (endL ops)))∧Below W.heap.size W w'):=hideIt (fun W hg=>ended_any ops u W hlen (hO1.below (below_grown hg)));go_enter Tryz.func170,Tryz.ntmps170
 go_upto_region 1 with fail
 go_cut [2] (fun x wx=>x=.pointer (some ⟨w.heap.size,0,none⟩)∧(∃wv,MidV o ops bud u b0 B M w wv (fun _=>nilS) 0 wx)∧wx.heap[w.heap.size]?=some (.cells #[.int .i64 0,.slice none 0 0,.int .i64 0] 34 (0,0)))
 case first=>
  go_region_with (first | (go_at_call 227;refine(HAW.out _ (grown_drew _ _)).mono ?_;rintro e w2 ⟨Wb,cur,rfl,hWb,hh,hcl,hb2⟩;have hg2:=grown_of_below hb2;have x1:w2.cell? ⟨B,1,none⟩=some u:=hg2.cell b1 (by simp);have HG2:=hideIt ((grown_drew W1 none).trans hg2);have HH:=hideIt hh;have HCL:=hideIt hcl;have HWB:=hideIt hWb;clear hg2 hb2 hh hcl hWb) | (go_at_call 85;refine(HEN.out _ HG2.out).mono ?_;rintro e w3 ⟨rfl,hb3⟩;have hB3:=((HG2.out.trans (grown_of_below hb3)).block B (lt_of_heap hB1) (by simp)).trans hB1;have y4:w3.cell? ⟨B,4,none⟩=some (.slice none 0 0):=bg_cell hB3 4;have y5:w3.cell? ⟨B,5,none⟩=some (.int .u64 0):=bg_cell hB3 5;have z4:=bg_fz hB3 4;have z5:=bg_fz hB3 5;have HB3:=hideIt hB3;have HG3:=hideIt (grown_of_below hb3);clear hb3 hB3))
  all_goals
   go_wp2_with fail
   go_meet
   have hfin:=mid_mk HP.out hg1 hR HG2.out HWB.out HH.out HCL.out HG3.out;exact⟨rfl,hfin.1,hfin.2⟩
 case rest=>
  obtain⟨rfl,⟨wv,hmid⟩,hR2⟩:=hcut;have HM:=hideIt hmid;have HR2:=hideIt hR2;clear hW1 hg1 hR hB1 b1 hO1 HAW HEN hmid hR2;go_wp2
  go_loopw [18] (fun i wr=>∃k:Nat,k≤8∧i=.int .i64 k∧(∃vs,MidV o ops bud u b0 B M w wv vs k wr)∧wr.heap[w.heap.size]?=some z33) (fun i _=>8 - (intOf i).toNat)
  case atStart=>exact⟨0,by omega,rfl,⟨_,HM.out⟩,HR2.out⟩
  case round=>
   obtain⟨k,hk,rfl,⟨vs,hmid⟩,hR3⟩:=hrel;by_cases hk8:k < 8
   ·have d0:wr.cell? ⟨B,0,none⟩=some (.int .i64 o):=bg_cell hmid.blk 0;obtain⟨sa,sl,sc,w2,hcall,hrow,hgs⟩:=start_call o wr.drew;have hgw:wr.grownBy w2 none:=(grown_drew wr none).trans hgs;have hB2:=(hgw.block B (lt_of_heap hmid.blk) (by simp)).trans hmid.blk;have d8:w2.frozen? ⟨B,8+k,none⟩=false:=bg_fz hB2 _;have d9:∃x,w2.cell? ⟨B,8+k,none⟩=some x:=by
     rw[bg_cell hB2];exact⟨vs k,by
      match k,hk8 with
      | 0,_=>rfl
      | 1,_=>rfl
      | 2,_=>rfl
      | 3,_=>rfl
      | 4,_=>rfl
      | 5,_=>rfl
      | 6,_=>rfl
      | 7,_=>rfl⟩
    obtain⟨x,d9⟩:=d9;have HN:Hid ((∃vs,MidV o ops bud u b0 B M w wv vs (k+1) (w2.setCell ⟨B,8+k,none⟩ (.slice sa sl sc)))∧(w2.setCell ⟨B,8+k,none⟩ (.slice sa sl sc)).heap[w.heap.size]?=some z33):=hideIt (by
     refine⟨⟨_,hmid.key HP.out hk8 hgw hrow⟩,?_⟩;rw[Below.heap_setCell _ _ _ _ (show w.heap.size≠B by omega),hgw.block _ (lt_of_heap hR3) (by simp)];exact hR3)
    have HC:=hideIt hcall;have k1:(0:Int)≤(k:Int):=by omega
    have k2:(k:Int) < 8:=by omega
    clear hcall hrow hgs hgw hB2 hmid hR3;go_wp2_with fail
    go_region_with (go_at_call 140;refine HC.out.mono ?_;rintro e w' ⟨rfl,hw'⟩;subst hw')
    all_goals
     go_wp2
     go_roundw
     case rel=>exact⟨k+1,by omega,by go_num,HN.out.1,HN.out.2⟩
     case measure=>simp[intOf];omega
   ·obtain rfl:k=8:=by omega
    have hok:ParOK ⟨o,ops,beforeB,bud,u,fnB,wv,b0,B,M⟩:=⟨hlen,hkeys,hnums,hbud⟩;have hvis:∀W,wr.grownBy W none→Calls Tryz.prog 228 #[.pointer (some ⟨B,0,none⟩)] W fun e w'=>e=.returned (.int .i64 ((searchM ⟨o,ops,beforeB,bud,nameB⟩).code:Int))∧∃ov,AftV b0 B w (searchM ⟨o,ops,beforeB,bud,nameB⟩) ov w'∧w'.cell? ⟨B,6,none⟩=some (.map (some M))∧SetS w' M (searchM ⟨o,ops,beforeB,bud,nameB⟩).ent∧(∀R:Nat,W.heap[R]?=some z33→w'.heap[R]?=some z33):=fun W hg=>
     (visit_any ⟨o,ops,beforeB,bud,u,fnB,wv,b0,B,M⟩ hok (ops.length+1) [] (fun _=>startL o) vs nilS nilS [] W ((hmid.search HP.out).grown hg) Reach.start (by simp) (Nat.zero_le _)).mono (fun e w' hv=>aft_visit hmid HP.out hR3 hg hv)
    have hmB:B < wr.heap.size:=lt_of_heap hmid.blk;have d6:wr.cell? ⟨B,6,none⟩=some (.map (some M)):=bg_cell hmid.blk 6;obtain⟨r,hr⟩:∃r,searchM ⟨o,ops,beforeB,bud,nameB⟩=r:=⟨_,rfl⟩;rw[hr] at hvis;have HRR:=hideIt hr;have hlr:=lt_of_heap hR3;clear hr;have HVB:=hideIt (hvis wr.drew (grown_drew _ _));have HVA:=hideIt (hvis (wr.alloc (.cells #[.int .i64 0,.slice none 0 0,.int .i64 0] 34)).drew ((World.grownBy_alloc _ _ _).trans (grown_drew _ _)));have HZA:Hid ((wr.alloc (.cells #[.int .i64 0,.slice none 0 0,.int .i64 0] 34)).drew.heap[wr.heap.size]?=some z33):=hideIt (heap_alloc_new wr _);clear hvis hok hmid hR3;go_wp2_with fail
    go_upto_region 7 with fail
    go_cut [4] (fun x wx=>ResV b0 B w r x wx)
    case first=>
     go_region_with (go_at_call 228;first | (refine HVA.out.mono ?_;rintro e w2 ⟨rfl,ov,haf,d7,hset,hkeep⟩;have hz:=hkeep _ HZA.out;have y0:w2.cell? ⟨wr.heap.size,0,none⟩=some (.int .i64 0):=cell_of_row w2 _ _ _ 34 (0,0) hz;have y1:w2.cell? ⟨wr.heap.size,1,none⟩=some (.slice none 0 0):=cell_of_row w2 _ _ _ 34 (0,0) hz;have y2:w2.cell? ⟨wr.heap.size,2,none⟩=some (.int .i64 0):=cell_of_row w2 _ _ _ 34 (0,0) hz;have x0:∀i,w2.frozen? ⟨wr.heap.size,i,none⟩=false:=fun i=>frozen_of_row w2 _ _ _ 34 hz;have hln:=fun ty=>hset.len ty;have HAF:=hideIt haf;have HZ:=hideIt hz;clear haf hset hkeep hz) | (refine HVB.out.mono ?_;rintro e w2 ⟨rfl,ov,haf,d7,hset,hkeep⟩;have hBl2:=haf.blt;have hln:=fun ty=>hset.len ty;have hln2:=fun ty (o:Obj)=>(hset.same (w':=w2.alloc o) (Below.heap_alloc w2 o M (by obtain⟨es,clock,hm⟩:=hset.isMap;exact lt_of_heap hm))).len ty;have HAF:=hideIt haf;clear haf hset hkeep))
     all_goals
      go_wp2_with fail
      go_meet
      first | exact resB HAF.out hbs | exact resA HAF.out HZ.out (by omega) (by omega) (by omega)
    case rest=>
     obtain⟨R,ov,rfl,haf,hres,h1,h2,h3⟩:=hcut;have y0:wc.cell? ⟨R,0,none⟩=some (.int .i64 (r.code:Int)):=cell_of_row wc _ _ _ 34 (0,0) hres;have y1:wc.cell? ⟨R,1,none⟩=some (.slice none 0 0):=cell_of_row wc _ _ _ 34 (0,0) hres;have y2:wc.cell? ⟨R,2,none⟩=some (.int .i64 (r.ent.length:Int)):=cell_of_row wc _ _ _ 34 (0,0) hres;have x1:∀i,wc.frozen? ⟨R,i,none⟩=false:=fun i=>frozen_of_row wc _ _ _ 34 hres
     have t0:wc.cell? ⟨w.heap.size,0,none⟩=some (.int .i64 0):=cell_of_row wc _ _ _ 34 (0,0) haf.res;have t1:wc.cell? ⟨w.heap.size,1,none⟩=some (.slice none 0 0):=cell_of_row wc _ _ _ 34 (0,0) haf.res;have t2:wc.cell? ⟨w.heap.size,2,none⟩=some (.int .i64 0):=cell_of_row wc _ _ _ 34 (0,0) haf.res;have t3:∀i,wc.frozen? ⟨w.heap.size,i,none⟩=false:=fun i=>frozen_of_row wc _ _ _ 34 haf.res
     have o16:=haf.ovc;obtain⟨oa,oc,rfl⟩:=ownsRow_slice haf.row;have HAF:=hideIt haf;have HRES:=hideIt hres;clear haf hres d6 HVA HVB HZA;by_cases hc1:r.code=1
     ·have hc1':((r.code:Int)==1)=true:=by rw[hc1];rfl
      go_wp2;refine bodyPost_ret (v:=.agg #[.int .i64 1,.slice oa r.ord.length oc,.int .i64 (r.ent.length:Int)]) (by simp[results,Tryz.results170,go_sem,t0,t1,t2]) rfl ?_;show VdTold b0 w (searchM ⟨o,ops,beforeB,bud,nameB⟩) _ _;rw[HRR.out];exact vd_one HAF.out ⟨_,HRES.out⟩ hbs h2 hc1 _ _ _
     ·have hc1':((r.code:Int)==1)=false:=by simp;omega
      go_wp2;refine bodyPost_ret (v:=.agg #[.int .i64 (r.code:Int),.slice none 0 0,.int .i64 (r.ent.length:Int)]) (by simp[results,Tryz.results170,go_sem,t0,t1,t2]) rfl ?_;show VdTold b0 w (searchM ⟨o,ops,beforeB,bud,nameB⟩) _ _;rw[HRR.out];exact vd_two HAF.out hbs hc1 _ _ _
open Go.RowKit
theorem told_zero {l:List Opn} (h:Told l 0):l.length≤40∧∀j,(hj:j < l.length)→opFaultN (l.take j) l[j]=0:=by
 rcases h with ⟨_,h⟩ | ⟨h1,h2,_⟩ | ⟨_,k,hk,_,hne,h⟩
 ·cases h
 ·exact⟨h1,h2⟩
 ·exact absurd h.symm hne
theorem fault_zero {l:List Opn} {x:Opn} (h:opFaultN l x=0):rangeB x=true∧kindB x.d=true∧orderB l x=true∧l.any (fun y=>shareB y x)=false∧l.any (fun y=>clashB y x)=false:=by
 unfold opFaultN at h;cases h1:rangeB x
 ·simp[h1] at h
 ·cases h2:kindB x.d
  ·simp[h1,h2] at h
  ·cases h3:orderB l x
   ·simp[h1,h2,h3] at h
   ·cases h4:l.any (fun y=>shareB y x)
    ·cases h5:l.any (fun y=>clashB y x)
     ·exact⟨rfl,rfl,rfl,rfl,rfl⟩
     ·rw[h1,h2,h3,h4,h5] at h;simp at h
    ·rw[h1,h2,h3,h4] at h;simp at h
theorem told_keys {l:List Opn} (h:Told l 0):∀op∈l,0≤op.k∧op.k < 8:=fun op hop=>by
 obtain⟨j,hj,rfl⟩:=List.getElem_of_mem hop;have:=(fault_zero ((told_zero h).2 j hj)).1;simp[rangeB,inB,eightB] at this;omega
theorem told_keysN {l:List Opn} (h:Told l 0):∀n,n < l.length→0≤(opN l n).k∧(opN l n).k < 8:=fun n hn=>by
 rw[opN_at hn];exact told_keys h _ (List.getElem_mem hn)
open Go.RowKit
def LcTold (o bud:Int) (l:List Opn) (n:Int):Prop:=
 (objB o=false∧n=1)∨(objB o=true∧(bud < 0∨1000000 < bud)∧n=2)∨(objB o=true∧0≤bud∧bud≤1000000∧CkTold o l n)
theorem lcTold_one {o bud:Int} {l:List Opn} {n m:Int} (h1:LcTold o bud l n) (h2:LcTold o bud l m):n=m:=by
 rcases h1 with ⟨a,rfl⟩ | ⟨a,b,rfl⟩ | ⟨a,b,b',h⟩
 ·rcases h2 with ⟨_,rfl⟩ | ⟨a',_⟩ | ⟨a',_⟩
  ·rfl
  ·rw[a] at a';cases a'
  ·rw[a] at a';cases a'
 ·rcases h2 with ⟨a',_⟩ | ⟨_,_,rfl⟩ | ⟨_,c,c',_⟩
  ·rw[a] at a';cases a'
  ·rfl
  ·omega
 ·rcases h2 with ⟨a',_⟩ | ⟨_,c,_⟩ | ⟨_,_,_,k⟩
  ·rw[a] at a';cases a'
  ·omega
  ·exact ckTold_one h k
theorem told_nums {l:List Opn} (h:Told l 0):∀n,n < l.length→I64 (opN l n).a∧I64 (opN l n).b:=fun n hn=>by
 rw[opN_at hn];have:=(fault_zero ((told_zero h).2 n hn)).1;simp[rangeB,inB,numB] at this;unfold I64;omega
theorem ckTold_told {o:Int} {l:List Opn} (h:CkTold o l 0):Told l 0:=by
 rcases h with ⟨h,_⟩ | ⟨h,_⟩ | ⟨h,_⟩
 ·exact absurd rfl h
 ·exact h
 ·exact h
end Go.Proofs.YtjpklmighoondaaGreatDoor
