/-
  A search in memory: its block, the states of the keys, the order, the room for names, the set of names; what turns, and what doesn't.
  Package linear's do and undo: walked.
-/
import Derived.Test.YtjpklmighoondaaGreatDoorCheckWZ
import Derived.Maps.OwnSet
import Derived.Maps.AppendAt
import Derived.Laws.IdiomStrings
import Derived.Deep.RegionHeld3
import Derived.Deep.RegionWith
namespace Go.Proofs.YtjpklmighoondaaGreatDoor
open Go.RowKit
open Go.Maps (Keyed string_keyed IsMap)
/-! What hangs on one block alone. -/
theorem RowAt.same {w w':World} {base:Nat} {v:Value} {st:List Int} (h:RowAt w base v st) (hs:∀b,v.ownBlock=some b→w'.heap[b]?=w.heap[b]?):RowAt w' base v st:=by
 rcases h with h | ⟨g,off,cap,cur,rfl,hb,hh,h1,h2,h4,h5⟩
 ·exact .inl h
 ·have e:=hs g rfl;exact .inr ⟨g,off,cap,cur,rfl,hb,e.trans hh,h1,h2,h4,fun j hj=>(World.cell?_of_block (a:=⟨g,off+j,none⟩) e).trans (h5 j hj)⟩
theorem ownsRow_same {w w':World} {base:Nat} {e:TypeId} {size:Nat} {v:Value} {n:Nat} {xs:List Value} (h:w.ownsRow base e size v n xs) (hs:∀b,v.ownBlock=some b→w'.heap[b]?=w.heap[b]?):w'.ownsRow base e size v n xs:=by
 obtain⟨hl,h | ⟨g,cap,cur,rfl,hb,hh,h1⟩⟩:=h
 ·exact⟨hl,.inl h⟩
 ·exact⟨hl,.inr ⟨g,cap,cur,rfl,hb,(hs g rfl).trans hh,h1⟩⟩
theorem ownsMap_same {w w':World} {k:TypeId} {R:Value→Option (DataW Unit×List MemPlace)} {b n:Nat} {D:DataW Unit} (h:w.ownsMap Tryz.prog k R b n D) (hs:w'.heap[b]?=w.heap[b]?):w'.ownsMap Tryz.prog k R b n D:=by
 obtain⟨es,clock,hb,h⟩:=h;exact⟨es,clock,hs.trans hb,h⟩
theorem RowAt.block {w:World} {base:Nat} {v:Value} {st:List Int} (h:RowAt w base v st):∀b,v.ownBlock=some b→base≤b∧b < w.heap.size∧∃cur,w.heap[b]?=some (.cells cur 3 (0,0)):=by
 intro b hb;have hl:=h.lt b hb;rcases h with ⟨rfl,_⟩ | ⟨g,off,cap,cur,rfl,_,hh,_⟩
 ·cases hb
 ·obtain rfl:g=b:=by simpa [Value.ownBlock] using hb
  exact⟨hl.1,hl.2,cur,hh⟩
theorem ownsRow_block {w:World} {base:Nat} {e:TypeId} {size:Nat} {v:Value} {n:Nat} {xs:List Value} (h:w.ownsRow base e size v n xs):∀b,v.ownBlock=some b→base≤b∧b < w.heap.size∧∃cur,w.heap[b]?=some (.cells cur e (0,0)):=by
 intro b hb;have hl:=h.lt b hb;obtain⟨_,⟨rfl,_⟩ | ⟨g,cap,cur,rfl,_,hh,_⟩⟩:=h
 ·cases hb
 ·obtain rfl:g=b:=by simpa [Value.ownBlock] using hb
  exact⟨hl.1,hl.2,cur,hh⟩
/-! The set of names. -/
theorem keyedS:Keyed Tryz.prog 9:=string_keyed Tryz.underlying9
theorem zeroU (w:World):(zeroValue 99).run Tryz.prog w=.ok (.agg #[]) w:=by kernel_rfl
def strV (l:List UInt8):Value:=.string ⟨l.toArray⟩
theorem keyS (l:List UInt8) (h:l.length≤100000):keyOf Tryz.prog 9 (strV l)=some (.string l):=by
 have:=WideMaps.keyOf_string_mk (P:=Tryz.prog) (k:=9) Tryz.underlying9 (s:=⟨l.toArray⟩) (by show l.toArray.size≤maxLen;simp;unfold maxLen;omega)
 simpa [strV] using this
theorem isKeyS (l:List UInt8):WideAt.IsKeyLit (.string l):=by simp[WideAt.IsKeyLit]
def SetS (w:World) (M:Nat) (ent:List (List UInt8)):Prop:=
 ∃D:DataW Unit,w.ownsMap Tryz.prog 9 (unitElem (H:=Unit)) M ent.length D∧(∀l,Maps.has D (.string l)=ent.contains l)∧Maps.size D=ent.length
theorem SetS.same {w w':World} {M:Nat} {ent:List (List UInt8)} (h:SetS w M ent) (hs:w'.heap[M]?=w.heap[M]?):SetS w' M ent:=by
 obtain⟨D,h1,h2⟩:=h;exact⟨D,ownsMap_same h1 hs,h2⟩
theorem SetS.isMap {w:World} {M:Nat} {ent:List (List UInt8)} (h:SetS w M ent):∃es clock,w.heap[M]?=some (.map es clock):=by
 obtain⟨D,⟨es,clock,hb,_⟩,_⟩:=h;exact⟨es,clock,hb⟩
theorem setS_made (w:World):SetS (w.alloc (.map #[] 0)) w.heap.size []:=
 ⟨_,World.ownsMap_made w Tryz.prog 9 _,fun _=>rfl,rfl⟩
theorem SetS.look {w:World} {M:Nat} {ent:List (List UInt8)} (h:SetS w M ent) (l:List UInt8) (hl:l.length≤100000):
  (Instr.lookup 92 (.map (some M)) (strV l) true).run Tryz.prog w=.ok (.tuple #[.agg #[],.bool (ent.contains l)]) w:=by
 obtain⟨D,h1,h2,_⟩:=h;obtain⟨v,ps,hrun,hv⟩:=h1.look_ok keyedS Tryz.underlying92 (zeroU w) unitElem_mk (keyS l hl);obtain⟨rfl,_⟩:=unitElem_inv hv;rw[←h2 l];exact hrun
theorem SetS.len {w:World} {M:Nat} {ent:List (List UInt8)} (h:SetS w M ent) (ty:TypeId):(Builtin.len_ #[92] ty #[.map (some M)]).run Tryz.prog w=.ok (.int .i64 (ent.length:Int)) w:=by
 obtain⟨D,h1,_,h3⟩:=h;have:=h1.len Tryz.underlying92 ty;rw[h3] at this;exact this
theorem SetS.store {w:World} {M:Nat} {ent:List (List UInt8)} (h:SetS w M ent) (hn:ent.length < 2000000) (l:List UInt8) (hl:l.length≤100000) (hnew:ent.contains l=false):
  ∃w',(Instr.mapUpdate 92 (.map (some M)) (strV l) (.agg #[])).run Tryz.prog w=.ok () w'∧SetS w' M (l::ent)∧w.grownBy w' (some M):=by
 obtain⟨D,h1,h2,h3⟩:=h;obtain⟨w',hrun,ho,ht⟩:=h1.store keyedS Tryz.underlying92 (by unfold maxLen;omega) (keyS l hl) unitElem_mk;refine⟨w',hrun,⟨_,ho,fun m=>?_,?_⟩,ht.grown⟩
 ·by_cases e:m=l
  ·subst e;rw[Maps.has_put_same h1.isMap (isKeyS m)];simp
  ·have hne:(Lit.string m)≠.string l:=fun k=>e (by simpa using k)
   rw[Maps.has_put_other hne,h2 m,List.contains_cons];simp[e]
 ·rw[Maps.size_put (h1.tidy keyedS),h2 l,hnew,h3];rfl
structure Par where
 o:Int
 ops:List Opn
 ah:Opn→Opn→Bool
 bud:Nat
 u:Value
 fn:Value
 wv:Value
 b0:Nat
 B:Nat
 M:Nat
def Par.sr (p:Par):Sr:=⟨p.o,p.ops,p.ah,p.bud,nameB⟩
def blkA (p:Par) (done:Nat) (vs:Nat→Value) (ov nv:Value):Array Value:=
 #[.int .i64 p.o,p.u,.int .i64 p.bud,p.fn,p.wv,.int .u64 (maskN (endL p.ops)),.map (some p.M),.int .u64 done,vs 0,vs 1,vs 2,vs 3,vs 4,vs 5,vs 6,vs 7,ov,nv]
def ordV (ord:List Nat):List Value:=ord.map fun n:Nat=>.int .i64 (n:Int)
def WaitsAt (p:Par) (w:World):Prop:=
 ∃Wb cur,p.wv=.slice (some ⟨Wb,0,none⟩) p.ops.length p.ops.length∧p.b0≤Wb∧w.heap[Wb]?=some (.cells cur 164 (0,0))∧∀i,i < p.ops.length→w.cell? ⟨Wb,i,none⟩=some (.int .u64 (maskN (waitL p.ops p.ah i)))
structure SearchAt (p : Par) (w : World) (ord : List Nat) (S : Int → List Int) (vs : Nat → Value) (ov nv : Value) (ent : List (List UInt8)) : Prop where
 blk:w.heap[p.B]?=some (.cells (blkA p (maskN ord) vs ov nv) 272 (0,0))
 rows:∀k,k < 8→RowAt w p.b0 (vs k) (S k)
 sep:∀k,k < 8→∀b,(vs k).ownBlock=some b→ov.ownBlock≠some b
 ordr:w.ownsRow p.b0 3 1 ov ord.length (ordV ord)
 name:∃n xs,w.ownsRow p.b0 5 1 nv n xs
 set:SetS w p.M ent
 waits:WaitsAt p w
 ops:OpsIn w p.u p.ops
 opsb:∀a n c,p.u=.slice (some a) n c→0 < n→a.block < p.b0
 known:KnownAt w
 b0pos:0 < p.b0
 b0B:p.b0≤p.B
 b0M:p.b0≤p.M
structure VFr (p : Par) (ov : Value) (w : World) (ov' : Value) (w' : World) : Prop where
 os:w'.os=w.os
 tape:w'.tape=w.tape
 output:w'.output=w.output
 size:w.heap.size≤w'.heap.size
 same:∀k,k < w.heap.size→k≠p.B→k≠p.M→ov.ownBlock≠some k→(k < p.b0∨∀c fz,w.heap[k]?≠some (.cells c 5 fz))→w'.heap[k]?=w.heap[k]?
 ovn:∀b,ov'.ownBlock=some b→ov.ownBlock=some b∨w.heap.size≤b
theorem VFr.trans {p:Par} {ov ov1 ov2:Value} {w w1 w2:World} (h:VFr p ov w ov1 w1) (k:VFr p ov1 w1 ov2 w2):VFr p ov w ov2 w2:=by
 refine⟨k.os.trans h.os,k.tape.trans h.tape,k.output.trans h.output,Nat.le_trans h.size k.size,fun i hi hB hM ho hb=>?_,fun b hb=>?_⟩
 ·have e:=h.same i hi hB hM ho hb;rw[k.same i (Nat.lt_of_lt_of_le hi h.size) hB hM (fun e1=>by
   rcases h.ovn i e1 with e2 | e2
   ·exact ho e2
   ·omega) (hb.imp id (fun hb c fz=>by rw[e];exact hb c fz)),e]
 ·rcases k.ovn b hb with e | e
  ·exact h.ovn b e
  ·exact .inr (Nat.le_trans h.size e)
theorem vfr_grown {p:Par} {ov:Value} {w w':World} (h:w.grownBy w' none):VFr p ov w ov w':=
 ⟨h.os,h.tape,h.output,h.size,fun k hk _ _ _ _=>h.block k hk (by simp),fun _ h=>.inl h⟩
theorem vfr_bfr {p:Par} {ov:Value} {w w':World} (h:BFr p.b0 w w'):VFr p ov w ov w':=
 ⟨h.os,h.tape,h.output,h.size,fun k hk _ _ _ hb=>h.block k hk (fun⟨h1,c,fz,h2⟩=>by
  rcases hb with hb | hb
  ·omega
  ·exact hb c fz h2),fun _ h=>.inl h⟩
theorem vfr_map {p:Par} {ov:Value} {w w':World} (h:w.grownBy w' (some p.M)):VFr p ov w ov w':=
 ⟨h.os,h.tape,h.output,h.size,fun k hk _ hM _ _=>h.block k hk (fun e=>hM (Option.some.inj e)),fun _ h=>.inl h⟩
theorem vfr_set {p:Par} {ov ov':Value} {w:World} (i:Nat) (x:Value) (ho:∀b,ov'.ownBlock=some b→ov.ownBlock=some b∨w.heap.size≤b):VFr p ov w ov' (w.setCell ⟨p.B,i,none⟩ x):=
 ⟨rfl,rfl,rfl,by simp[World.setCell],fun k _ hB _ _ _=>Below.heap_setCell _ _ _ _ hB,ho⟩
theorem VFr.below {p:Par} {ov ov':Value} {w w':World} (h:VFr p ov w ov' w') (hB:p.b0≤p.B) (hM:p.b0≤p.M) (ho:∀b,ov.ownBlock=some b→p.b0≤b) (hs:p.b0≤w.heap.size):Below p.b0 w w':=
 ⟨h.os,h.tape,h.output,h.size,fun k hk=>h.same k (by omega) (by omega) (by omega) (fun e=>by have:=ho k e;omega) (.inl hk)⟩
theorem VFr.row {p:Par} {ov ov':Value} {w w':World} (h:VFr p ov w ov' w') {v:Value} {st:List Int} (hr:RowAt w p.b0 v st) (hB:∃c fz,w.heap[p.B]?=some (.cells c 272 fz)) (hM:∃es clock,w.heap[p.M]?=some (.map es clock))
  (ho:∀b,v.ownBlock=some b→ov.ownBlock≠some b):RowAt w' p.b0 v st:=by
 refine hr.same fun b hb=>?_
 obtain⟨_,hlt,cur,hc⟩:=hr.block b hb;refine h.same b hlt ?_ ?_ (ho b hb) (.inr fun c fz e=>by rw[hc] at e;simp at e)
 ·rintro rfl;obtain⟨c,fz,e⟩:=hB;rw[hc] at e;simp at e
 ·rintro rfl;obtain⟨c,fz,e⟩:=hM;rw[hc] at e;simp at e
theorem VFr.waits {p:Par} {ov ov':Value} {w w':World} (h:VFr p ov w ov' w') (hw:WaitsAt p w) (hB:∃c fz,w.heap[p.B]?=some (.cells c 272 fz)) (hM:∃es clock,w.heap[p.M]?=some (.map es clock))
  (ho:∀b,ov.ownBlock=some b→∃c fz,w.heap[b]?=some (.cells c 3 fz)):WaitsAt p w':=by
 obtain⟨Wb,cur,e1,e2,e3,e4⟩:=hw;have e:w'.heap[Wb]?=w.heap[Wb]?:=by
  refine h.same Wb (lt_of_heap e3) ?_ ?_ ?_ (.inr fun c fz e=>by rw[e3] at e;simp at e)
  ·rintro rfl;obtain⟨c,fz,e⟩:=hB;rw[e3] at e;simp at e
  ·rintro rfl;obtain⟨c,fz,e⟩:=hM;rw[e3] at e;simp at e
  ·intro e;obtain⟨c,fz,e'⟩:=ho Wb e;rw[e3] at e';simp at e'
 exact⟨Wb,cur,e1,e2,e.trans e3,fun i hi=>(World.cell?_of_block (a:=⟨Wb,i,none⟩) e).trans (e4 i hi)⟩
structure Tch (T : Nat → Prop) (w w' : World) : Prop where
 os:w'.os=w.os
 tape:w'.tape=w.tape
 output:w'.output=w.output
 size:w.heap.size≤w'.heap.size
 same:∀k,k < w.heap.size→¬T k→w'.heap[k]?=w.heap[k]?
theorem Tch.trans {T:Nat→Prop} {a b c:World} (h:Tch T a b) (k:Tch T b c):Tch T a c:=
 ⟨k.os.trans h.os,k.tape.trans h.tape,k.output.trans h.output,Nat.le_trans h.size k.size,fun i hi hT=>(k.same i (Nat.lt_of_lt_of_le hi h.size) hT).trans (h.same i hi hT)⟩
theorem tch_grown {T:Nat→Prop} {w w':World} {row:Option Nat} (h:w.grownBy w' row) (ht:∀k,row=some k→T k):Tch T w w':=
 ⟨h.os,h.tape,h.output,h.size,fun k hk hT=>h.block k hk (fun e=>hT (ht k e.symm))⟩
theorem tch_set {T:Nat→Prop} {w:World} {a:Addr} (x:Value) (ht:T a.block):Tch T w (w.setCell a x):=
 ⟨rfl,rfl,rfl,by simp[World.setCell],fun k _ hT=>Below.heap_setCell _ _ _ _ (fun e=>hT (e▸ht))⟩
theorem Tch.drew {T:Nat→Prop} {w w':World} (h:Tch T w w'):Tch T w w'.drew:=⟨h.os,h.tape,h.output,h.size,h.same⟩
def OwnT (p:Par) (ov:Value) (k:Nat):Prop:=k=p.B∨ov.ownBlock=some k
theorem vfr_tch {p:Par} {ov ov':Value} {w w':World} (h:Tch (OwnT p ov) w w') (ho:∀b,ov'.ownBlock=some b→ov.ownBlock=some b∨w.heap.size≤b):VFr p ov w ov' w':=
 ⟨h.os,h.tape,h.output,h.size,fun k hk hB _ hv _=>h.same k hk (fun e=>e.elim hB hv),ho⟩
theorem SearchAt.others {p:Par} {w w':World} {ord:List Nat} {S:Int→List Int} {vs:Nat→Value} {ov nv:Value} {ent:List (List UInt8)} (h:SearchAt p w ord S vs ov nv ent) (ht:Tch (OwnT p ov) w w'):
  ∀b c t,w.heap[b]?=some (.cells c t (0,0))→t≠272→(t=3→ov.ownBlock≠some b)→w'.heap[b]?=w.heap[b]?:=by
 intro b c t hb h79 h3;refine ht.same b (lt_of_heap hb) (fun e=>?_);rcases e with rfl | e
 ·rw[h.blk] at hb;simp at hb;exact h79 hb.2.symm
 ·obtain⟨_,_,cur,hc⟩:=ownsRow_block h.ordr b e;rw[hb] at hc;simp at hc;exact h3 hc.2 e
theorem SearchAt.blkd {p:Par} {w:World} {ord:List Nat} {S:Int→List Int} {vs:Nat→Value} {ov nv:Value} {ent:List (List UInt8)} (h:SearchAt p w ord S vs ov nv ent):∃c fz,w.heap[p.B]?=some (.cells c 272 fz):=⟨_,_,h.blk⟩
theorem SearchAt.after {p:Par} {w w':World} {ord ord':List Nat} {S S':Int→List Int} {vs vs':Nat→Value} {ov ov' nv:Value} {ent:List (List UInt8)} (h:SearchAt p w ord S vs ov nv ent) (ht:Tch (OwnT p ov) w w')
  (hblk:w'.heap[p.B]?=some (.cells (blkA p (maskN ord') vs' ov' nv) 272 (0,0))) (hord:w'.ownsRow p.b0 3 1 ov' ord'.length (ordV ord')) (hov:∀b,ov'.ownBlock=some b→ov.ownBlock=some b∨w.heap.size≤b)
  (hrow:∀k,k < 8→RowAt w p.b0 (vs' k) (S' k)) (hsep:∀k,k < 8→∀b,(vs' k).ownBlock=some b→ov.ownBlock≠some b):SearchAt p w' ord' S' vs' ov' nv ent:=by
 have hs:p.b0≤w.heap.size:=by have:=lt_of_heap h.blk;have:=h.b0B;omega
 have hbel:Below p.b0 w w':=⟨ht.os,ht.tape,ht.output,ht.size,fun k hk=>ht.same k (by omega) (fun e=>by
  rcases e with rfl | e
  ·have:=h.b0B;omega
  ·have:=(h.ordr.lt k e).1;omega)⟩
 refine⟨hblk,fun k hk=>(hrow k hk).same fun b hb=>?_,fun k hk b hb e=>?_,hord,?_,?_,?_,?_,h.opsb,?_,h.b0pos,h.b0B,h.b0M⟩
 ·obtain⟨_,_,cur,hc⟩:=(hrow k hk).block b hb;exact h.others ht b cur 3 hc (by decide) (fun _=>hsep k hk b hb)
 ·rcases hov b e with e | e
  ·exact hsep k hk b hb e
  ·have:=((hrow k hk).lt b hb).2;omega
 ·obtain⟨n,xs,hn⟩:=h.name;refine⟨n,xs,ownsRow_same hn fun b hb=>?_⟩;obtain⟨_,_,cur,hc⟩:=ownsRow_block hn b hb;exact h.others ht b cur 5 hc (by decide) (fun e=>by cases e)
 ·refine h.set.same (ht.same p.M ?_ (fun e=>?_))
  ·obtain⟨es,clock,hm⟩:=h.set.isMap;exact lt_of_heap hm
  ·obtain⟨es,clock,hm⟩:=h.set.isMap;rcases e with e | e
   ·rw[e,h.blk] at hm;cases hm
   ·obtain⟨_,_,cur,hc⟩:=ownsRow_block h.ordr p.M e;rw[hc] at hm;cases hm
 ·exact(vfr_tch ht hov).waits h.waits h.blkd h.set.isMap (fun b hb=>by obtain⟨_,_,cur,hc⟩:=ownsRow_block h.ordr b hb;exact⟨_,_,hc⟩)
 ·obtain⟨a,cap,e,hc,hm,ho⟩:=h.ops;refine⟨a,cap,e,hc,hm,?_⟩;rcases ho with ho | ⟨b,off,rfl,hlt,ho⟩
  ·exact .inl ho
  ·by_cases h0:p.ops= []
   ·exact .inl h0
   ·have hb0:b < p.b0:=h.opsb ⟨b,off,none⟩ _ _ e (List.length_pos_iff.2 h0);exact .inr ⟨b,off,rfl,Nat.lt_of_lt_of_le hlt ht.size,ho.below hb0 hbel⟩
 ·exact h.known.below h.b0pos hbel
open Go.RowKit
theorem blk_cells {p:Par} {w:World} {done:Nat} {vs:Nat→Value} {ov nv:Value} (h:w.heap[p.B]?=some (.cells (blkA p done vs ov nv) 272 (0,0))) (i:Nat):w.cell? ⟨p.B,i,none⟩=(blkA p done vs ov nv)[i]?:=cell_of_row w _ _ _ 272 (0,0) h
theorem blk_fz {p:Par} {w:World} {cs:Array Value} (h:w.heap[p.B]?=some (.cells cs 272 (0,0))) (i:Nat):w.frozen? ⟨p.B,i,none⟩=false:=frozen_of_row w _ _ _ 272 h
theorem blk_set {p:Par} {w:World} {cs:Array Value} (h:w.heap[p.B]?=some (.cells cs 272 (0,0))) (i:Nat) (x:Value):(w.setCell ⟨p.B,i,none⟩ x).heap[p.B]?=some (.cells (cs.setIfInBounds i x) 272 (0,0)):=by
 simp[World.setCell,Array.getElem?_modify,h]
def setV (vs:Nat→Value) (q:Nat) (x:Value):Nat→Value:=fun k=>if k=q then x else vs k
theorem blkA_done (p:Par) (done d':Nat) (vs:Nat→Value) (ov nv:Value):(blkA p done vs ov nv).setIfInBounds 7 (.int .u64 d')=blkA p d' vs ov nv:=rfl
theorem blkA_ord (p:Par) (done:Nat) (vs:Nat→Value) (ov ov' nv:Value):(blkA p done vs ov nv).setIfInBounds 16 ov'=blkA p done vs ov' nv:=rfl
theorem blkA_name (p:Par) (done:Nat) (vs:Nat→Value) (ov nv nv':Value):(blkA p done vs ov nv).setIfInBounds 17 nv'=blkA p done vs ov nv':=rfl
theorem blkA_key (p:Par) (done:Nat) (vs:Nat→Value) (ov nv:Value) (q:Nat) (hq:q < 8) (x:Value):(blkA p done vs ov nv).setIfInBounds (8+q) x=blkA p done (setV vs q x) ov nv:=by
 match q,hq with
 | 0,_=>rfl
 | 1,_=>rfl
 | 2,_=>rfl
 | 3,_=>rfl
 | 4,_=>rfl
 | 5,_=>rfl
 | 6,_=>rfl
 | 7,_=>rfl
theorem blkA_vs (p:Par) (done:Nat) (vs:Nat→Value) (ov nv:Value) (q:Nat) (hq:q < 8):(blkA p done vs ov nv)[8+q]?=some (vs q):=by
 match q,hq with
 | 0,_=>rfl
 | 1,_=>rfl
 | 2,_=>rfl
 | 3,_=>rfl
 | 4,_=>rfl
 | 5,_=>rfl
 | 6,_=>rfl
 | 7,_=>rfl
theorem ops_cell {p:Par} {w:World} (h:OpsIn w p.u p.ops) (hb:∀a n c,p.u=.slice (some a) n c→0 < n→a.block < p.b0) {n:Nat} (hn:n < p.ops.length):
  ∃bo offo cap,p.u=.slice (some ⟨bo,offo,none⟩) p.ops.length cap∧bo < p.b0∧∀w',Below p.b0 w w'→OpAt w' bo (offo+n*8) p.ops[n]:=by
 obtain⟨a,cap,e,hc,hm,h⟩:=h;rcases h with h | ⟨b,off,rfl,hlt,h⟩
 ·rw[h] at hn;simp at hn
 ·have hb0:b < p.b0:=hb ⟨b,off,none⟩ _ _ e (by omega);exact⟨b,off,cap,e,hb0,fun w' hw=>(h n hn).below hb0 hw⟩
theorem RowAt.slice {w:World} {base:Nat} {v:Value} {st:List Int} (h:RowAt w base v st):∃a l c,v=.slice a l c:=by
 rcases h with ⟨rfl,_⟩ | ⟨g,off,cap,cur,rfl,_⟩
 ·exact⟨_,_,_,rfl⟩
 ·exact⟨_,_,_,rfl⟩
theorem ownsRow_slice {w:World} {base:Nat} {e:TypeId} {size:Nat} {v:Value} {n:Nat} {xs:List Value} (h:w.ownsRow base e size v n xs):∃a c,v=.slice a n c:=by
 obtain⟨_,⟨rfl,rfl⟩ | ⟨g,cap,cur,rfl,_⟩⟩:=h
 ·exact⟨_,_,rfl⟩
 ·exact⟨_,_,rfl⟩
def DoTold (p:Par) (w:World) (ord':List Nat) (S':Int→List Int) (vs':Nat→Value) (ov nv:Value) (ent:List (List UInt8)) (e:Ending) (w':World):Prop:=
 ∃ov',e=.returned (.tuple #[])∧SearchAt p w' ord' S' vs' ov' nv ent∧VFr p ov w ov' w'
theorem rows_set {p:Par} {w:World} {S:Int→List Int} {vs:Nat→Value} {nx:Value} {st:List Int} {q:Nat} (h:∀k,k < 8→RowAt w p.b0 (vs k) (S k)) (hx:RowAt w p.b0 nx st):∀k:Nat,k < 8→RowAt w p.b0 (setV vs q nx k) (setK S (q:Int) st k):=by
 intro k hk;by_cases e:k=q
 ·subst e;rw[setK_same];simpa [setV] using hx
 ·rw[setK_other _ _ _ _ (by omega)];simpa [setV,e] using h k hk
theorem sep_set {vs:Nat→Value} {nx ov:Value} {q:Nat} (h:∀k,k < 8→∀b,(vs k).ownBlock=some b→ov.ownBlock≠some b) (hx:∀b,nx.ownBlock=some b→ov.ownBlock≠some b):∀k:Nat,k < 8→∀b,(setV vs q nx k).ownBlock=some b→ov.ownBlock≠some b:=by
 intro k hk b;by_cases e:k=q
 ·subst e;simpa [setV] using hx b
 ·simpa [setV,e] using h k hk b
set_option maxRecDepth 100000 in
set_option maxHeartbeats 4000000 in
theorem do_any (p:Par) (n q:Nat) (ord:List Nat) (S:Int→List Int) (vs:Nat→Value) (ov nv nx:Value) (ent:List (List UInt8)) (st:List Int) (w:World) (h:SearchAt p w ord S vs ov nv ent)
  (hn:n < p.ops.length) (hlen:p.ops.length≤60) (hkq:(opN p.ops n).k=(q:Int)) (hq:q < 8) (hord:∀m∈ord,m < 60) (hol:ord.length≤60) (hnx:RowAt w p.b0 nx st) (hsep:∀b,nx.ownBlock=some b→ov.ownBlock≠some b):
  Calls Tryz.prog 268 #[.pointer (some ⟨p.B,0,none⟩),.int .i64 n,nx] w fun e w'=>DoTold p w (ord++ [n]) (setK S (q:Int) st) (setV vs q nx) ov nv ent e w':=by
 have hml:maskN ord < 18446744073709551616:=maskN_lt (fun m hm=>by have:=hord m hm;omega);obtain⟨pw,hp,hcall⟩:=bit_call n (by omega);have HC:=hideIt hcall;have R1:Hid (bits .or .u64 (maskN ord:Int) (pw:Int)=(maskN (ord++ [n]):Int)):=hideIt (by rw[hp,or_bits hml (by omega),or_bit]);have b7:w.cell? ⟨p.B,7,none⟩=some (.int .u64 (maskN ord)):=blk_cells h.blk 7;have f7:=blk_fz h.blk 7;obtain⟨bo,offo,cap,hu,hbo,hop⟩:=ops_cell h.ops h.opsb hn;obtain⟨i3,hi3,hz3,hs3,hb3⟩:=info_parts info3;obtain⟨na,nl,nc,rfl⟩:=hnx.slice;have HH:=hideIt h;have HU:=hideIt hu;have HX:=hideIt hnx;have HSP:=hideIt hsep;have HKQ:=hideIt hkq;rw[opN_at hn] at hkq
 -- behind the first region
 have h1:Hid (∀W1,W1=(w.setCell ⟨p.B,7,none⟩ (.int .u64 (bits .or .u64 (maskN ord:Int) (pw:Int)))).drew→(W1.heap[p.B]?=some (.cells (blkA p (maskN (ord++ [n])) vs ov nv) 272 (0,0))∧Tch (OwnT p ov) w W1)
   ∧(∀b,ov.ownBlock=some b→b≠p.B→W1.heap[b]?=w.heap[b]?)
   ∧W1.cell? ⟨p.B,1,none⟩=some (.slice (some ⟨bo,offo,none⟩) p.ops.length cap)∧W1.cell? ⟨bo,offo+n*8+1,none⟩=some (.int .i64 q)∧W1.frozen? ⟨p.B,8+q,none⟩=false∧∃x,W1.cell? ⟨p.B,8+q,none⟩=some x):=hideIt (fun W1 e=>by
  subst e;have hb:(w.setCell ⟨p.B,7,none⟩ (.int .u64 (bits .or .u64 (maskN ord:Int) (pw:Int)))).drew.heap[p.B]?=some (.cells (blkA p (maskN (ord++ [n])) vs ov nv) 272 (0,0)):=by
   rw[R1.out];exact(blk_set h.blk 7 _).trans (by rw[blkA_done])
  have hf:Tch (OwnT p ov) w (w.setCell ⟨p.B,7,none⟩ (.int .u64 (bits .or .u64 (maskN ord:Int) (pw:Int)))).drew:=(tch_set (a:=⟨p.B,7,none⟩) _ (.inl rfl)).drew;refine⟨⟨hb,hf⟩,fun b _ hne=>Below.heap_setCell _ _ _ _ hne,?_,?_,blk_fz hb _,vs q,?_⟩
  ·rw[blk_cells hb 1];show some p.u=_;rw[hu]
  ·have:=(hop _ ((vfr_tch hf (fun _ h=>.inl h)).below h.b0B h.b0M (fun b e=>(h.ordr.lt b e).1) (by have:=lt_of_heap h.blk;have:=h.b0B;omega))).2.1;rw[hkq] at this;exact this
  ·rw[blk_cells hb,blkA_vs _ _ _ _ _ _ hq])
 clear hp hcall hop hu hnx hkq h hsep;have n1:(0:Int)≤(n:Int):=by omega
 have n2:(n:Int) < (p.ops.length:Int):=by omega
 have q1:(0:Int)≤(q:Int):=by omega
 have q2:(q:Int) < 8:=by omega
 go_enter Tryz.func268,Tryz.ntmps268
 go_wp2_with fail
 go_region_with (go_at_call 83;refine(HC.out _).mono ?_;rintro e w' ⟨rfl,rfl⟩)
 all_goals
  generalize hW1:(w.setCell ⟨p.B,7,none⟩ (.int .u64 (bits .or .u64 (maskN ord:Int) (pw:Int)))).drew=W1;obtain⟨HB1,HO1,c1,c2,c3,x,c4⟩:=h1.out W1 hW1.symm;have HB1:=hideIt HB1;have HO1:=hideIt HO1;clear hW1 b7 f7;go_wp2_with fail
  go_region
 all_goals
  generalize hW2:(W1.setCell ⟨p.B,8+q,none⟩ (.slice na nl nc)).drew=W2;have hB2:W2.heap[p.B]?=some (.cells (blkA p (maskN (ord++ [n])) (setV vs q (.slice na nl nc)) ov nv) 272 (0,0)):=by
   rw[←hW2];exact(blk_set HB1.out.1 (8+q) _).trans (by rw[blkA_key _ _ _ _ _ _ hq])
  have hT2:Tch (OwnT p ov) w W2:=by
   rw[←hW2];exact HB1.out.2.trans (tch_set (a:=⟨p.B,8+q,none⟩) _ (.inl rfl)).drew
  have hO2:W2.ownsRow p.b0 3 1 ov ord.length (ordV ord):=ownsRow_same HH.out.ordr fun b hb=>by
   rw[←hW2];have hne:b≠p.B:=by
    rintro rfl;obtain⟨_,_,cur,hc⟩:=ownsRow_block HH.out.ordr _ hb;rw[HH.out.blk] at hc;simp at hc
   rw[show (W1.setCell ⟨p.B,8+q,none⟩ (.slice na nl nc)).drew.heap[b]?=W1.heap[b]? from Below.heap_setCell _ _ _ _ hne];exact HO1.out b hb hne
  have c5:W2.cell? ⟨p.B,16,none⟩=some ov:=blk_cells hB2 16;have hs2:p.b0≤W2.heap.size:=by have:=lt_of_heap hB2;have:=HH.out.b0B;omega
  have HB2:=hideIt hB2;have HT2:=hideIt hT2;have HO2:=hideIt hO2;clear hW2 hB2 hT2 hO2 c1 c2 c3 c4;go_wp2_with (at_builtin;refine wpList_append_own_at _ rfl _ _ 26 rfl p.b0 3 i3 (.int .i64 0) 1 8 Tryz.underlying26 hi3 hz3 hs3 hb3 rfl (by decide) ov ord.length (ordV ord) rfl (HO2.out.alloc _) ⟨W2.heap.size,0,none⟩ 1 1 [.int .i64 n] rfl rfl (cell_one_new _ _ _) ?c2 ?c3 ?c4 ?c5 ?_)
  case c2=>intro u hu;simp at hu;subst hu;rfl
  case c3=>unfold maxLen;omega
  case c4=>omega
  case c5=>simp;omega
  intro v' w3 hown hgr _ hloc;have hex:=ownsRow_slice hown;obtain⟨va,vc,hv⟩:=hex;have hg3:W2.grownBy w3 ov.ownBlock:=(World.grownBy_alloc W2 _ _).trans hgr;have hT3:Tch (OwnT p ov) w w3:=HT2.out.trans (tch_grown hg3 (fun k hk=>.inr hk));have hne:some p.B≠ov.ownBlock:=fun e=>by
   obtain⟨_,_,cur,hc⟩:=ownsRow_block HH.out.ordr _ e.symm;rw[HH.out.blk] at hc;simp at hc
  have hB3:w3.heap[p.B]?=some (.cells (blkA p (maskN (ord++ [n])) (setV vs q (.slice na nl nc)) ov nv) 272 (0,0)):=(hg3.block p.B (lt_of_heap HB2.out) hne).trans HB2.out;have c6:w3.cell? ⟨p.B,16,none⟩=some ov:=blk_cells hB3 16;have f6:=blk_fz hB3 16;have hov:∀b,v'.ownBlock=some b→ov.ownBlock=some b∨w.heap.size≤b:=fun b hb=>by
   rcases hloc with e | e
   ·exact .inl (e▸hb)
   ·right
    rw[e] at hb;have:=HT2.out.size;have:b=W2.heap.size+1:=by simpa using (Option.some.inj hb).symm
    omega
  have hvB:v'.ownBlock≠some p.B:=fun e=>by
   rcases hov _ e with e1 | e1
   ·exact hne e1.symm
   ·have:=lt_of_heap HH.out.blk;omega
  have HF:Hid (DoTold p w (ord++ [n]) (setK S (q:Int) st) (setV vs q (.slice na nl nc)) ov nv ent (.returned (.tuple #[])) (w3.setCell ⟨p.B,16,none⟩ v')):=hideIt ⟨v',rfl,
   HH.out.after (hT3.trans (tch_set (a:=⟨p.B,16,none⟩) _ (.inl rfl))) ((blk_set hB3 16 v').trans (by rw[blkA_ord]))
    (by
     have:w3.ownsRow p.b0 3 1 v' (ord++ [n]).length (ordV (ord++ [n])):=by simpa [ordV] using hown
     exact ownsRow_same this fun b hb=>Below.heap_setCell _ _ _ _ (fun e=>hvB (by rw[←show b=p.B from e];exact hb))) hov (rows_set HH.out.rows HX.out) (sep_set HH.out.sep HSP.out),
   vfr_tch (hT3.trans (tch_set (a:=⟨p.B,16,none⟩) _ (.inl rfl))) hov⟩
  clear hown hgr hloc hg3 hT3 hB3 hov hvB hne c5;subst hv;go_wp2
  go_end0
  exact HF.out
end Go.Proofs.YtjpklmighoondaaGreatDoor
