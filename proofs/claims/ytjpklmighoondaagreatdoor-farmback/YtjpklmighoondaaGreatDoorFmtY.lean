/-
  strconv.AppendUint and AppendInt at base 36, walked: the number's digits behind what was there.
  A search in memory: its block, the states of the keys, the order, the room for names, the set of names; what turns, and what doesn't.
-/
import Derived.Test.YtjpklmighoondaaGreatDoorProg
import Derived.Test.YtjpklmighoondaaGreatDoorWalkGY
import Derived.Test.YtjpklmighoondaaGreatDoorRowSY
import Derived.WalkKit
import Derived.WalkSpells
import Derived.WalkLawsBesides
import Derived.LoopTactic
import Derived.Laws.AppendOwn
import Derived.Maps.OwnSet
import Derived.Maps.AppendAt
import Derived.Laws.IdiomStrings
set_option maxRecDepth 100000
namespace Go.Proofs.YtjpklmighoondaaGreatDoor
open Go.RowKit
def byteV (l:List UInt8):List Value:=l.map fun b=>.int .u8 (b.toNat:Int)
theorem byteV_append (a b:List UInt8):byteV (a++b)=byteV a++byteV b:=by simp[byteV]
def padA (i:Nat) (ds:List UInt8):Array Value:=(List.replicate i (Value.int .u8 0)++byteV ds).toArray
theorem padA_size (i:Nat) (ds:List UInt8):(padA i ds).size=i+ds.length:=by simp[padA,byteV]
theorem pad_heap (w:World) (i:Nat) (ds:List UInt8):(w.alloc (.cells (padA i ds) 333)).heap[w.heap.size]?=some (.cells (padA i ds) 333 (0,0)):=by
 show (w.heap.push _)[w.heap.size]?=_;simp
theorem pad_set (w:World) (i:Nat) (ds:List UInt8) (d:UInt8) (h:i+1=65 - ds.length):(w.alloc (.cells (padA (65 - ds.length) ds) 333)).setCell ⟨w.heap.size,i,none⟩ (.int .u8 (d.toNat:Int))=w.alloc (.cells (padA i (d::ds)) 333):=by
 rw[World.setCell_alloc_new];have e:(padA (65 - ds.length) ds).setIfInBounds i (.int .u8 (d.toNat:Int))=padA i (d::ds):=by
  unfold padA;rw[←h,List.replicate_succ',List.append_assoc]
  apply Array.ext'
  simp[byteV]
 rw[e]
theorem pad_cell (w:World) (i:Nat) (ds:List UInt8) (j:Nat) (u:Value) (h:(byteV ds)[j]?=some u):(w.alloc (.cells (padA i ds) 333)).cell? ⟨w.heap.size,i+j,none⟩=some u:=by
 rw[cell_of_row _ _ _ _ 333 (0,0) (pad_heap w i ds)];unfold padA;simp only[List.getElem?_toArray];rw[List.getElem?_append_right (by simp)]
 simpa using h
theorem digs (y:Nat) (h:y < 36):((⟨#[48,49,50,51,52,53,54,55,56,57,97,98,99,100,101,102,103,104,105,106,107,108,109,110,111,112,113,114,115,116,117,118,119,120,121,122]⟩:ByteArray)[y]'h)=dig y:=by
 have:∀y:Fin 36,((⟨#[48,49,50,51,52,53,54,55,56,57,97,98,99,100,101,102,103,104,105,106,107,108,109,110,111,112,113,114,115,116,117,118,119,120,121,122]⟩:ByteArray)[y.val]'y.isLt)=dig y.val:=by decide
 exact this ⟨y,h⟩
theorem info5:(Tryz.prog.info? 5).map (fun i=>(i.zero,i.size,i.bytes))=some (some (.int .u8 0),1,1):=by kernel_rfl
set_option maxHeartbeats 4000000 in
theorem fmt36 (base n u:Nat) (hu:u < 18446744073709551616) (sv:Value) (xs:List Value) (w:World) (hown:w.ownsRow base 5 1 sv n xs) (hbase:base≤w.heap.size) (hlim:n+20≤1000000):
  Calls Tryz.prog 176 #[sv,.int .u64 u,.int .i64 36,.bool false,.bool true] w fun e w'=>∃v',e=.returned (.tuple #[v',.string ⟨#[]⟩])∧w'.ownsRow base 5 1 v' (n+(d36 u).length) (xs++byteV (d36 u))∧w.grownBy w' sv.ownBlock:=by
 have HOWN:=hideIt hown;obtain⟨i5,hi5,hz5,hs5,hb5⟩:=info_parts info5;have hlen13:=d36_length64 hu;clear hown;go_enter Tryz.func176,Tryz.ntmps176
 go_wp2
 go_loopw [1,13,18] (fun x i q wr=>∃(y:Nat) (ds:List UInt8),x=.int .u64 y∧y < 18446744073709551616∧d36 u=d36 y++ds∧i=.int .i64 (65 - ds.length:Nat)∧wr=w.alloc (.cells (padA (65 - ds.length) ds) 333)) (fun x _ _ _=>(intOf x).toNat)
 case atStart=>exact⟨u,[],rfl,hu,by simp,rfl,rfl⟩
 case round=>
  obtain⟨y,ds,rfl,hy,hd,rfl,hW⟩:=hrel;have hl:(d36 y).length+ds.length≤13:=by
   have:=congrArg List.length hd;rw[List.length_append] at this;omega
  have hp:=d36_pos y;have hn1:IntKind.i64.wrap (((65 - ds.length:Nat):Int) - 1)=((64 - ds.length:Nat):Int):=by rw[IntKind.wrap_i64];omega
  have hg:=pad_heap w (65 - ds.length) ds;rw[←hW] at hg;obtain⟨z,hc⟩:∃z,wr.cell? ⟨w.heap.size,64 - ds.length,none⟩=some z:=⟨_,by
   rw[cell_of_row wr _ _ _ 333 (0,0) hg,Array.getElem?_eq_getElem (by rw[padA_size];omega)]⟩
  have hf:wr.frozen? ⟨w.heap.size,64 - ds.length,none⟩=false:=frozen_of_row wr _ _ _ 333 hg;have HW:=hideIt hW;have HG:=hideIt hg;clear hg hW;have hset:∀d:UInt8,wr.setCell ⟨w.heap.size,64 - ds.length,none⟩ (.int .u8 (d.toNat:Int))=w.alloc (.cells (padA (64 - ds.length) (d::ds)) 333):=fun d=>by
   rw[HW.out,pad_set w (64 - ds.length) ds d (by omega)]
  have HSET:=hideIt hset;clear hset;by_cases h36:y < 36
  ·have hge:decide (36≤(y:Int))=false:=by simp;omega
   have hal:Tryz.prog.arrayLen 333=65:=by kernel_rfl
   have hsl:∀W,(Instr.sliceAt 333 (.pointer (some ⟨w.heap.size,0,none⟩)) (some (.int .i64 ((64 - ds.length:Nat):Int))) none none).run Tryz.prog W=.ok (.slice (some ⟨w.heap.size,64 - ds.length,none⟩) (ds.length+1) (ds.length+1)) W:=fun W=>by
    rw[run_sliceAt_array_l W 333 ⟨w.heap.size,0,none⟩ (by kernel_rfl) .i64 ((64 - ds.length:Nat):Int) (by omega) (by rw[hal];omega),hal];have e1:Tryz.prog.elem 333=5:=by kernel_rfl
    have e2:(sizeOf 5).run Tryz.prog W=.ok 1 W:=by kernel_rfl
    rw[e1,e2];simp only[Result.andThen,slicedAt,Int.toNat_natCast];rw[if_neg (by omega)];simp[Addr.add];omega
   have hS:wr.setCell ⟨w.heap.size,64 - ds.length,none⟩ (.int .u8 (((⟨#[48,49,50,51,52,53,54,55,56,57,97,98,99,100,101,102,103,104,105,106,107,108,109,110,111,112,113,114,115,116,117,118,119,120,121,122]⟩:ByteArray)[y]'h36).toNat:Int))=w.alloc (.cells (padA (64 - ds.length) (dig y::ds)) 333):=by
    rw[digs y h36];exact HSET.out (dig y)
   have HS:=hideIt hS;clear hal hS HSET;go_wp2_with (at_builtin;refine wpList_append_own _ rfl _ _ 134 rfl base 5 i5 (.int .u8 0) 1 1 Tryz.underlying134 hi5 hz5 hs5 hb5 rfl (by decide) sv n xs rfl ?c6 ⟨w.heap.size,64 - ds.length,none⟩ (ds.length+1) (ds.length+1) (byteV (dig y::ds)) rfl ?c0 ?c1 ?c2 ?c3 ?c4 ?c5 ?_)
   case c6=>rw[HS.out];exact HOWN.out.alloc _
   case c0=>simp[byteV]
   case c1=>
    intro j u' hj;rw[HS.out];rw[Addr.add_lit];exact pad_cell w (64 - ds.length) (dig y::ds) j u' hj
   case c2=>intro u' hu';simp only[byteV,List.mem_map] at hu';obtain⟨b,_,rfl⟩:=hu';rfl
   case c3=>unfold maxLen;omega
   case c4=>omega
   case c5=>rw[HS.out];simp;omega
   intro v' w' ho hgr _;rw[HS.out] at hgr;have HO:=hideIt ho;have HGR:=hideIt hgr;clear ho hgr;go_wp2;go_ret2;refine⟨v',rfl,?_,(World.grownBy_alloc w _ _).trans HGR.out⟩;have ho:=HO.out;rw[hd,d36_small h36]
   simpa [Nat.add_comm] using ho
  ·have hge:decide (36≤(y:Int))=true:=by simp;omega
   have hidx:y%36 < 36:=Nat.mod_lt _ (by decide);have hi36:y - y / 36*36 < 36:=by omega
   have hS:wr.setCell ⟨w.heap.size,64 - ds.length,none⟩ (.int .u8 (((⟨#[48,49,50,51,52,53,54,55,56,57,97,98,99,100,101,102,103,104,105,106,107,108,109,110,111,112,113,114,115,116,117,118,119,120,121,122]⟩:ByteArray)[y - y / 36*36]'hi36).toNat:Int))=w.alloc (.cells (padA (64 - ds.length) (dig (y%36)::ds)) 333):=by
    rw[digs _ hi36,show y - y / 36*36=y%36 by omega];exact HSET.out (dig (y%36))
   have HS:=hideIt hS;clear hS HSET;go_wp2;refine⟨⟨_,_,_,_,_,_,_,_,_,_,_,_,_,_,_,_,_,_,_,_,⟨y / 36,dig (y%36)::ds,?_,?_,?_,?_,?_⟩,rfl⟩,?_⟩
   ·go_num
   ·omega
   ·rw[hd,d36_big h36];simp
   ·simp
   ·rw[show 65 - (dig (y%36)::ds).length=64 - ds.length by simp];exact HS.out
   ·simp[intOf];omega
structure BFr (base : Nat) (w w' : World) : Prop where
 os:w'.os=w.os
 tape:w'.tape=w.tape
 output:w'.output=w.output
 size:w.heap.size≤w'.heap.size
 block:∀k,k < w.heap.size→¬(base≤k∧∃c fz,w.heap[k]?=some (.cells c 5 fz))→w'.heap[k]?=w.heap[k]?
theorem BFr.trans {base:Nat} {a b c:World} (h:BFr base a b) (k:BFr base b c):BFr base a c:=
 ⟨k.os.trans h.os,k.tape.trans h.tape,k.output.trans h.output,Nat.le_trans h.size k.size,fun i hi hn=>by
  have e:=h.block i hi hn;rw[k.block i (Nat.lt_of_lt_of_le hi h.size) (by rw[e];exact hn),e]⟩
theorem bfr_of_grown {base n:Nat} {w w':World} {sv:Value} {xs:List Value} (hown:w.ownsRow base 5 1 sv n xs) (hg:w.grownBy w' sv.ownBlock):BFr base w w':=
 ⟨hg.os,hg.tape,hg.output,hg.size,fun k hk hn=>hg.block k hk (fun e=>hn ⟨(hown.lt k e.symm).1,by
  obtain⟨_,⟨rfl,_⟩ | ⟨g,cap,cur,rfl,_,hh,_⟩⟩:=hown
  ·cases e
  ·obtain rfl:k=g:=by simpa [Value.ownBlock] using e
   exact⟨_,_,hh⟩⟩)⟩
theorem bfr_new {base:Nat} {w w':World} (hg:w.grownBy w' none):BFr base w w':=
 ⟨hg.os,hg.tape,hg.output,hg.size,fun k hk _=>hg.block k hk (by simp)⟩
structure Wrote (base : Nat) (w : World) (n : Nat) (xs : List Value) (l : List UInt8) (v' : Value) (w' : World) : Prop where
 row:w'.ownsRow base 5 1 v' (n+l.length) (xs++byteV l)
 fr:BFr base w w'
theorem Wrote.then {base n:Nat} {w w1 w2:World} {v1 v2:Value} {xs:List Value} {a b:List UInt8} (h:Wrote base w n xs a v1 w1) (k:Wrote base w1 (n+a.length) (xs++byteV a) b v2 w2):Wrote base w n xs (a++b) v2 w2:=by
 refine⟨?_,h.fr.trans k.fr⟩;have:=k.row;rw[byteV_append,List.length_append,←List.append_assoc,←Nat.add_assoc];exact this
set_option maxHeartbeats 1000000 in
theorem appendUint85 (base n u:Nat) (hu:u < 18446744073709551616) (sv:Value) (xs:List Value) (w:World) (hown:w.ownsRow base 5 1 sv n xs) (hbase:base≤w.heap.size) (hlim:n+20≤1000000):
  Calls Tryz.prog 289 #[sv,.int .u64 u,.int .i64 36] w fun e w'=>∃v',e=.returned v'∧Wrote base w n xs (d36 u) v' w':=by
 have HC:=hideIt (fmt36 base n u hu sv xs w hown hbase hlim);have HN:=hideIt hown;clear hown;go_enter Tryz.func289,Tryz.ntmps289
 go_wp2_with (go_at_call 176;refine HC.out.mono ?_;rintro e w' ⟨v',rfl,h1,h2⟩)
 have HW:=hideIt (show Wrote base w n xs (d36 u) v' w' from⟨h1,bfr_of_grown HN.out h2⟩);clear h1 h2;go_wp2;go_ret;exact⟨v',rfl,HW.out⟩
set_option maxHeartbeats 1000000 in
theorem appendUint36 (base n u:Nat) (hu:u < 18446744073709551616) (sv:Value) (xs:List Value) (w:World) (hown:w.ownsRow base 5 1 sv n xs) (hbase:base≤w.heap.size) (hlim:n+20≤1000000):
  Calls Tryz.prog 282 #[sv,.int .u64 u,.int .i64 36] w fun e w'=>∃v',e=.returned v'∧Wrote base w n xs (d36 u) v' w':=by
 have HC:=hideIt (appendUint85 base n u hu sv xs w hown hbase hlim);clear hown;go_enter Tryz.func282,Tryz.ntmps282
 go_wp2_with (go_at_call 289;refine HC.out.mono ?_;rintro e w' ⟨v',rfl,h1⟩)
 have HW:=hideIt h1;clear h1;go_wp2;go_ret;exact⟨v',rfl,HW.out⟩
theorem n36_neg {m:Nat} (h:0 < m):n36 (-(m:Int))= [45]++d36 m:=by
 unfold n36;rw[if_pos (by omega),Int.neg_neg,Int.toNat_natCast];rfl
theorem n36_nat (m:Nat):n36 (m:Int)=d36 m:=by
 unfold n36;rw[if_neg (by omega),Int.toNat_natCast]
set_option maxHeartbeats 1000000 in
theorem appendInt_nat (base n m:Nat) (hx:m < 9223372036854775808) (sv:Value) (xs:List Value) (w:World) (hown:w.ownsRow base 5 1 sv n xs) (hbase:base≤w.heap.size) (hlim:n+30≤1000000):
  Calls Tryz.prog 290 #[sv,.int .i64 m,.int .i64 36] w fun e w'=>∃v',e=.returned v'∧Wrote base w n xs (d36 m) v' w':=by
 have hlt:decide ((m:Int) < 0)=false:=by simp
 have hw:IntKind.u64.wrap (m:Int)=(m:Int):=by rw[IntKind.wrap_u64];omega
 have HC:=hideIt (appendUint85 base n m (by omega) sv xs w hown hbase (by omega));clear hown;go_enter Tryz.func290,Tryz.ntmps290
 go_wp2_with (go_at_call 289;refine HC.out.mono ?_;rintro e w' ⟨v',rfl,h1⟩)
 have H1:=hideIt h1;clear h1;go_wp2;go_ret;exact⟨v',rfl,H1.out⟩
set_option maxHeartbeats 1000000 in
theorem appendInt_neg (base n m:Nat) (h0:0 < m) (hx:m≤9223372036854775808) (sv:Value) (xs:List Value) (w:World) (hown:w.ownsRow base 5 1 sv n xs) (hbase:base≤w.heap.size) (hlim:n+30≤1000000):
  Calls Tryz.prog 290 #[sv,.int .i64 (-(m:Int)),.int .i64 36] w fun e w'=>∃v',e=.returned v'∧Wrote base w n xs ([45]++d36 m) v' w':=by
 have HN:=hideIt hown;have hlt:decide (-(m:Int) < 0)=true:=by simp;omega
 have hw:IntKind.u64.wrap (-(m:Int))=18446744073709551616 - (m:Int):=by rw[IntKind.wrap_u64];omega
 have hw2:IntKind.u64.wrap (-(18446744073709551616 - (m:Int)))=(m:Int):=by rw[IntKind.wrap_u64];omega
 obtain⟨i5,hi5,hz5,hs5,hb5⟩:=info_parts info5;clear hown;go_enter Tryz.func290,Tryz.ntmps290
 go_wp2_with (at_builtin;refine wpList_append_own _ rfl _ _ 134 rfl base 5 i5 (.int .u8 0) 1 1 Tryz.underlying134 hi5 hz5 hs5 hb5 rfl (by decide) sv n xs rfl ?c6 ⟨w.heap.size,0,none⟩ 1 1 (byteV [45]) rfl ?c0 ?c1 ?c2 ?c3 ?c4 ?c5 ?_)
 case c6=>exact HN.out.alloc _
 case c0=>simp[byteV]
 case c1=>
  intro j u' hj
  match j,hj with
  | 0,hj=>simp[byteV] at hj;subst hj;simp[Addr.add]
 case c2=>intro u' hu';simp only[byteV,List.mem_map] at hu';obtain⟨b,_,rfl⟩:=hu';rfl
 case c3=>unfold maxLen;omega
 case c4=>omega
 case c5=>simp;omega
 intro v' w' ho hgr _;have H1:=hideIt (show Wrote base w n xs [45] v' w' from⟨ho,(bfr_new (World.grownBy_alloc w _ none)).trans (bfr_of_grown (HN.out.alloc _) hgr)⟩);have hsz:=hgr.size;have HC:=hideIt (appendUint85 base (n+1) m (by omega) v' _ w' ho (by simp at hsz;omega) (by omega));clear ho hgr hsz;go_wp2_with (go_at_call 289;refine HC.out.mono ?_;rintro e w2 ⟨v2,rfl,h2⟩)
 have H2:=hideIt h2;clear h2;go_wp2;go_ret;exact⟨v2,rfl,H1.out.then H2.out⟩
set_option maxHeartbeats 1000000 in
theorem appendInt36 (base n:Nat) (x:Int) (hx: -9223372036854775808≤x∧x < 9223372036854775808) (sv:Value) (xs:List Value) (w:World) (hown:w.ownsRow base 5 1 sv n xs) (hbase:base≤w.heap.size) (hlim:n+30≤1000000):
  Calls Tryz.prog 283 #[sv,.int .i64 x,.int .i64 36] w fun e w'=>∃v',e=.returned v'∧Wrote base w n xs (n36 x) v' w':=by
 have HC:Hid (Calls Tryz.prog 290 #[sv,.int .i64 x,.int .i64 36] w fun e w'=>∃v',e=.returned v'∧Wrote base w n xs (n36 x) v' w'):=by
  by_cases h0:x < 0
  ·obtain⟨m,rfl⟩:∃m:Nat,x= -(m:Int):=⟨(-x).toNat,by omega⟩;rw[n36_neg (by omega)];exact appendInt_neg base n m (by omega) (by omega) sv xs w hown hbase hlim
  ·obtain⟨m,rfl⟩:∃m:Nat,x=(m:Int):=⟨x.toNat,by omega⟩;rw[n36_nat];exact appendInt_nat base n m (by omega) sv xs w hown hbase hlim
 clear hown;go_enter Tryz.func283,Tryz.ntmps283
 go_wp2_with (go_at_call 290;refine HC.out.mono ?_;rintro e w' ⟨v',rfl,h1⟩)
 have H1:=hideIt h1;clear h1;go_wp2;go_ret;exact⟨v',rfl,H1.out⟩
open Go.RowKit
open Go.Maps (Keyed string_keyed IsMap)
/-! What hangs on one block alone. -/
theorem RowAt.same {w w':World} {base:Nat} {v:Value} {st:List Int} (h:RowAt w base v st) (hs:∀b,v.ownBlock=some b→w'.heap[b]?=w.heap[b]?):RowAt w' base v st:=by
 rcases h with h | ⟨g,off,cap,cur,rfl,hb,hh,h1,h2,h4,h5⟩
 ·exact .inl h
 ·have e:=hs g rfl;exact .inr ⟨g,off,cap,cur,rfl,hb,e.trans hh,h1,h2,h4,fun j hj=>(World.cell?_of_block (a:=⟨g,off+j,none⟩) e).trans (h5 j hj)⟩
theorem ownsRow_same {w w':World} {base:Nat} {e:TypeId} {size:Nat} {v:Value} {n:Nat} {xs:List Value} (h:w.ownsRow base e size v n xs) (hs:∀b,v.ownBlock=some b→w'.heap[b]?=w.heap[b]?):w'.ownsRow base e size v n xs:=by
 obtain⟨hl,h | ⟨g,cap,cur,rfl,hb,hh,h1⟩⟩:=h
 ·exact⟨hl,.inl h⟩
 ·exact⟨hl,.inr ⟨g,cap,cur,rfl,hb,(hs g rfl).trans hh,h1⟩⟩
theorem ownsMap_same {w w':World} {k:TypeId} {R:Value→Option (DataW Unit×List MemPlace)} {b n:Nat} {D:DataW Unit} (h:w.ownsMap Tryz.prog k R b n D) (hs:w'.heap[b]?=w.heap[b]?):w'.ownsMap Tryz.prog k R b n D:=by
 obtain⟨es,clock,hb,h⟩:=h;exact⟨es,clock,hs.trans hb,h⟩
theorem RowAt.block {w:World} {base:Nat} {v:Value} {st:List Int} (h:RowAt w base v st):∀b,v.ownBlock=some b→base≤b∧b < w.heap.size∧∃cur,w.heap[b]?=some (.cells cur 3 (0,0)):=by
 intro b hb;have hl:=h.lt b hb;rcases h with ⟨rfl,_⟩ | ⟨g,off,cap,cur,rfl,_,hh,_⟩
 ·cases hb
 ·obtain rfl:g=b:=by simpa [Value.ownBlock] using hb
  exact⟨hl.1,hl.2,cur,hh⟩
theorem ownsRow_block {w:World} {base:Nat} {e:TypeId} {size:Nat} {v:Value} {n:Nat} {xs:List Value} (h:w.ownsRow base e size v n xs):∀b,v.ownBlock=some b→base≤b∧b < w.heap.size∧∃cur,w.heap[b]?=some (.cells cur e (0,0)):=by
 intro b hb;have hl:=h.lt b hb;obtain⟨_,⟨rfl,_⟩ | ⟨g,cap,cur,rfl,_,hh,_⟩⟩:=h
 ·cases hb
 ·obtain rfl:g=b:=by simpa [Value.ownBlock] using hb
  exact⟨hl.1,hl.2,cur,hh⟩
/-! The set of names. -/
theorem keyedS:Keyed Tryz.prog 9:=string_keyed Tryz.underlying9
theorem zeroU (w:World):(zeroValue 99).run Tryz.prog w=.ok (.agg #[]) w:=by kernel_rfl
def strV (l:List UInt8):Value:=.string ⟨l.toArray⟩
theorem keyS (l:List UInt8) (h:l.length≤100000):keyOf Tryz.prog 9 (strV l)=some (.string l):=by
 have:=WideMaps.keyOf_string_mk (P:=Tryz.prog) (k:=9) Tryz.underlying9 (s:=⟨l.toArray⟩) (by show l.toArray.size≤maxLen;simp;unfold maxLen;omega)
 simpa [strV] using this
theorem isKeyS (l:List UInt8):WideAt.IsKeyLit (.string l):=by simp[WideAt.IsKeyLit]
def SetS (w:World) (M:Nat) (ent:List (List UInt8)):Prop:=
 ∃D:DataW Unit,w.ownsMap Tryz.prog 9 (unitElem (H:=Unit)) M ent.length D∧(∀l,Maps.has D (.string l)=ent.contains l)∧Maps.size D=ent.length
theorem SetS.same {w w':World} {M:Nat} {ent:List (List UInt8)} (h:SetS w M ent) (hs:w'.heap[M]?=w.heap[M]?):SetS w' M ent:=by
 obtain⟨D,h1,h2⟩:=h;exact⟨D,ownsMap_same h1 hs,h2⟩
theorem SetS.isMap {w:World} {M:Nat} {ent:List (List UInt8)} (h:SetS w M ent):∃es clock,w.heap[M]?=some (.map es clock):=by
 obtain⟨D,⟨es,clock,hb,_⟩,_⟩:=h;exact⟨es,clock,hb⟩
theorem setS_made (w:World):SetS (w.alloc (.map #[] 0)) w.heap.size []:=
 ⟨_,World.ownsMap_made w Tryz.prog 9 _,fun _=>rfl,rfl⟩
theorem SetS.look {w:World} {M:Nat} {ent:List (List UInt8)} (h:SetS w M ent) (l:List UInt8) (hl:l.length≤100000):
  (Instr.lookup 92 (.map (some M)) (strV l) true).run Tryz.prog w=.ok (.tuple #[.agg #[],.bool (ent.contains l)]) w:=by
 obtain⟨D,h1,h2,_⟩:=h;obtain⟨v,ps,hrun,hv⟩:=h1.look_ok keyedS Tryz.underlying92 (zeroU w) unitElem_mk (keyS l hl);obtain⟨rfl,_⟩:=unitElem_inv hv;rw[←h2 l];exact hrun
theorem SetS.len {w:World} {M:Nat} {ent:List (List UInt8)} (h:SetS w M ent) (ty:TypeId):(Builtin.len_ #[92] ty #[.map (some M)]).run Tryz.prog w=.ok (.int .i64 (ent.length:Int)) w:=by
 obtain⟨D,h1,_,h3⟩:=h;have:=h1.len Tryz.underlying92 ty;rw[h3] at this;exact this
theorem SetS.store {w:World} {M:Nat} {ent:List (List UInt8)} (h:SetS w M ent) (hn:ent.length < 2000000) (l:List UInt8) (hl:l.length≤100000) (hnew:ent.contains l=false):
  ∃w',(Instr.mapUpdate 92 (.map (some M)) (strV l) (.agg #[])).run Tryz.prog w=.ok () w'∧SetS w' M (l::ent)∧w.grownBy w' (some M):=by
 obtain⟨D,h1,h2,h3⟩:=h;obtain⟨w',hrun,ho,ht⟩:=h1.store keyedS Tryz.underlying92 (by unfold maxLen;omega) (keyS l hl) unitElem_mk;refine⟨w',hrun,⟨_,ho,fun m=>?_,?_⟩,ht.grown⟩
 ·by_cases e:m=l
  ·subst e;rw[Maps.has_put_same h1.isMap (isKeyS m)];simp
  ·have hne:(Lit.string m)≠.string l:=fun k=>e (by simpa using k)
   rw[Maps.has_put_other hne,h2 m,List.contains_cons];simp[e]
 ·rw[Maps.size_put (h1.tidy keyedS),h2 l,hnew,h3];rfl
structure Par where
 o:Int
 ops:List Opn
 ah:Opn→Opn→Bool
 bud:Nat
 u:Value
 fn:Value
 wv:Value
 b0:Nat
 B:Nat
 M:Nat
def Par.sr (p:Par):Sr:=⟨p.o,p.ops,p.ah,p.bud,nameB⟩
def blkA (p:Par) (done:Nat) (vs:Nat→Value) (ov nv:Value):Array Value:=
 #[.int .i64 p.o,p.u,.int .i64 p.bud,p.fn,p.wv,.int .u64 (maskN (endL p.ops)),.map (some p.M),.int .u64 done,vs 0,vs 1,vs 2,vs 3,vs 4,vs 5,vs 6,vs 7,ov,nv]
def ordV (ord:List Nat):List Value:=ord.map fun n:Nat=>.int .i64 (n:Int)
def WaitsAt (p:Par) (w:World):Prop:=
 ∃Wb cur,p.wv=.slice (some ⟨Wb,0,none⟩) p.ops.length p.ops.length∧p.b0≤Wb∧w.heap[Wb]?=some (.cells cur 164 (0,0))∧∀i,i < p.ops.length→w.cell? ⟨Wb,i,none⟩=some (.int .u64 (maskN (waitL p.ops p.ah i)))
structure SearchAt (p : Par) (w : World) (ord : List Nat) (S : Int → List Int) (vs : Nat → Value) (ov nv : Value) (ent : List (List UInt8)) : Prop where
 blk:w.heap[p.B]?=some (.cells (blkA p (maskN ord) vs ov nv) 272 (0,0))
 rows:∀k,k < 8→RowAt w p.b0 (vs k) (S k)
 sep:∀k,k < 8→∀b,(vs k).ownBlock=some b→ov.ownBlock≠some b
 ordr:w.ownsRow p.b0 3 1 ov ord.length (ordV ord)
 name:∃n xs,w.ownsRow p.b0 5 1 nv n xs
 set:SetS w p.M ent
 waits:WaitsAt p w
 ops:OpsIn w p.u p.ops
 opsb:∀a n c,p.u=.slice (some a) n c→0 < n→a.block < p.b0
 known:KnownAt w
 b0pos:0 < p.b0
 b0B:p.b0≤p.B
 b0M:p.b0≤p.M
structure VFr (p : Par) (ov : Value) (w : World) (ov' : Value) (w' : World) : Prop where
 os:w'.os=w.os
 tape:w'.tape=w.tape
 output:w'.output=w.output
 size:w.heap.size≤w'.heap.size
 same:∀k,k < w.heap.size→k≠p.B→k≠p.M→ov.ownBlock≠some k→(k < p.b0∨∀c fz,w.heap[k]?≠some (.cells c 5 fz))→w'.heap[k]?=w.heap[k]?
 ovn:∀b,ov'.ownBlock=some b→ov.ownBlock=some b∨w.heap.size≤b
theorem VFr.trans {p:Par} {ov ov1 ov2:Value} {w w1 w2:World} (h:VFr p ov w ov1 w1) (k:VFr p ov1 w1 ov2 w2):VFr p ov w ov2 w2:=by
 refine⟨k.os.trans h.os,k.tape.trans h.tape,k.output.trans h.output,Nat.le_trans h.size k.size,fun i hi hB hM ho hb=>?_,fun b hb=>?_⟩
 ·have e:=h.same i hi hB hM ho hb;rw[k.same i (Nat.lt_of_lt_of_le hi h.size) hB hM (fun e1=>by
   rcases h.ovn i e1 with e2 | e2
   ·exact ho e2
   ·omega) (hb.imp id (fun hb c fz=>by rw[e];exact hb c fz)),e]
 ·rcases k.ovn b hb with e | e
  ·exact h.ovn b e
  ·exact .inr (Nat.le_trans h.size e)
theorem vfr_grown {p:Par} {ov:Value} {w w':World} (h:w.grownBy w' none):VFr p ov w ov w':=
 ⟨h.os,h.tape,h.output,h.size,fun k hk _ _ _ _=>h.block k hk (by simp),fun _ h=>.inl h⟩
theorem vfr_bfr {p:Par} {ov:Value} {w w':World} (h:BFr p.b0 w w'):VFr p ov w ov w':=
 ⟨h.os,h.tape,h.output,h.size,fun k hk _ _ _ hb=>h.block k hk (fun⟨h1,c,fz,h2⟩=>by
  rcases hb with hb | hb
  ·omega
  ·exact hb c fz h2),fun _ h=>.inl h⟩
theorem vfr_map {p:Par} {ov:Value} {w w':World} (h:w.grownBy w' (some p.M)):VFr p ov w ov w':=
 ⟨h.os,h.tape,h.output,h.size,fun k hk _ hM _ _=>h.block k hk (fun e=>hM (Option.some.inj e)),fun _ h=>.inl h⟩
theorem vfr_set {p:Par} {ov ov':Value} {w:World} (i:Nat) (x:Value) (ho:∀b,ov'.ownBlock=some b→ov.ownBlock=some b∨w.heap.size≤b):VFr p ov w ov' (w.setCell ⟨p.B,i,none⟩ x):=
 ⟨rfl,rfl,rfl,by simp[World.setCell],fun k _ hB _ _ _=>Below.heap_setCell _ _ _ _ hB,ho⟩
theorem VFr.below {p:Par} {ov ov':Value} {w w':World} (h:VFr p ov w ov' w') (hB:p.b0≤p.B) (hM:p.b0≤p.M) (ho:∀b,ov.ownBlock=some b→p.b0≤b) (hs:p.b0≤w.heap.size):Below p.b0 w w':=
 ⟨h.os,h.tape,h.output,h.size,fun k hk=>h.same k (by omega) (by omega) (by omega) (fun e=>by have:=ho k e;omega) (.inl hk)⟩
theorem VFr.row {p:Par} {ov ov':Value} {w w':World} (h:VFr p ov w ov' w') {v:Value} {st:List Int} (hr:RowAt w p.b0 v st) (hB:∃c fz,w.heap[p.B]?=some (.cells c 272 fz)) (hM:∃es clock,w.heap[p.M]?=some (.map es clock))
  (ho:∀b,v.ownBlock=some b→ov.ownBlock≠some b):RowAt w' p.b0 v st:=by
 refine hr.same fun b hb=>?_
 obtain⟨_,hlt,cur,hc⟩:=hr.block b hb;refine h.same b hlt ?_ ?_ (ho b hb) (.inr fun c fz e=>by rw[hc] at e;simp at e)
 ·rintro rfl;obtain⟨c,fz,e⟩:=hB;rw[hc] at e;simp at e
 ·rintro rfl;obtain⟨c,fz,e⟩:=hM;rw[hc] at e;simp at e
theorem VFr.waits {p:Par} {ov ov':Value} {w w':World} (h:VFr p ov w ov' w') (hw:WaitsAt p w) (hB:∃c fz,w.heap[p.B]?=some (.cells c 272 fz)) (hM:∃es clock,w.heap[p.M]?=some (.map es clock))
  (ho:∀b,ov.ownBlock=some b→∃c fz,w.heap[b]?=some (.cells c 3 fz)):WaitsAt p w':=by
 obtain⟨Wb,cur,e1,e2,e3,e4⟩:=hw;have e:w'.heap[Wb]?=w.heap[Wb]?:=by
  refine h.same Wb (lt_of_heap e3) ?_ ?_ ?_ (.inr fun c fz e=>by rw[e3] at e;simp at e)
  ·rintro rfl;obtain⟨c,fz,e⟩:=hB;rw[e3] at e;simp at e
  ·rintro rfl;obtain⟨c,fz,e⟩:=hM;rw[e3] at e;simp at e
  ·intro e;obtain⟨c,fz,e'⟩:=ho Wb e;rw[e3] at e';simp at e'
 exact⟨Wb,cur,e1,e2,e.trans e3,fun i hi=>(World.cell?_of_block (a:=⟨Wb,i,none⟩) e).trans (e4 i hi)⟩
structure Tch (T : Nat → Prop) (w w' : World) : Prop where
 os:w'.os=w.os
 tape:w'.tape=w.tape
 output:w'.output=w.output
 size:w.heap.size≤w'.heap.size
 same:∀k,k < w.heap.size→¬T k→w'.heap[k]?=w.heap[k]?
theorem Tch.trans {T:Nat→Prop} {a b c:World} (h:Tch T a b) (k:Tch T b c):Tch T a c:=
 ⟨k.os.trans h.os,k.tape.trans h.tape,k.output.trans h.output,Nat.le_trans h.size k.size,fun i hi hT=>(k.same i (Nat.lt_of_lt_of_le hi h.size) hT).trans (h.same i hi hT)⟩
theorem tch_grown {T:Nat→Prop} {w w':World} {row:Option Nat} (h:w.grownBy w' row) (ht:∀k,row=some k→T k):Tch T w w':=
 ⟨h.os,h.tape,h.output,h.size,fun k hk hT=>h.block k hk (fun e=>hT (ht k e.symm))⟩
theorem tch_set {T:Nat→Prop} {w:World} {a:Addr} (x:Value) (ht:T a.block):Tch T w (w.setCell a x):=
 ⟨rfl,rfl,rfl,by simp[World.setCell],fun k _ hT=>Below.heap_setCell _ _ _ _ (fun e=>hT (e▸ht))⟩
theorem Tch.drew {T:Nat→Prop} {w w':World} (h:Tch T w w'):Tch T w w'.drew:=⟨h.os,h.tape,h.output,h.size,h.same⟩
def OwnT (p:Par) (ov:Value) (k:Nat):Prop:=k=p.B∨ov.ownBlock=some k
theorem vfr_tch {p:Par} {ov ov':Value} {w w':World} (h:Tch (OwnT p ov) w w') (ho:∀b,ov'.ownBlock=some b→ov.ownBlock=some b∨w.heap.size≤b):VFr p ov w ov' w':=
 ⟨h.os,h.tape,h.output,h.size,fun k hk hB _ hv _=>h.same k hk (fun e=>e.elim hB hv),ho⟩
theorem SearchAt.others {p:Par} {w w':World} {ord:List Nat} {S:Int→List Int} {vs:Nat→Value} {ov nv:Value} {ent:List (List UInt8)} (h:SearchAt p w ord S vs ov nv ent) (ht:Tch (OwnT p ov) w w'):
  ∀b c t,w.heap[b]?=some (.cells c t (0,0))→t≠272→(t=3→ov.ownBlock≠some b)→w'.heap[b]?=w.heap[b]?:=by
 intro b c t hb h79 h3;refine ht.same b (lt_of_heap hb) (fun e=>?_);rcases e with rfl | e
 ·rw[h.blk] at hb;simp at hb;exact h79 hb.2.symm
 ·obtain⟨_,_,cur,hc⟩:=ownsRow_block h.ordr b e;rw[hb] at hc;simp at hc;exact h3 hc.2 e
theorem SearchAt.blkd {p:Par} {w:World} {ord:List Nat} {S:Int→List Int} {vs:Nat→Value} {ov nv:Value} {ent:List (List UInt8)} (h:SearchAt p w ord S vs ov nv ent):∃c fz,w.heap[p.B]?=some (.cells c 272 fz):=⟨_,_,h.blk⟩
theorem SearchAt.after {p:Par} {w w':World} {ord ord':List Nat} {S S':Int→List Int} {vs vs':Nat→Value} {ov ov' nv:Value} {ent:List (List UInt8)} (h:SearchAt p w ord S vs ov nv ent) (ht:Tch (OwnT p ov) w w')
  (hblk:w'.heap[p.B]?=some (.cells (blkA p (maskN ord') vs' ov' nv) 272 (0,0))) (hord:w'.ownsRow p.b0 3 1 ov' ord'.length (ordV ord')) (hov:∀b,ov'.ownBlock=some b→ov.ownBlock=some b∨w.heap.size≤b)
  (hrow:∀k,k < 8→RowAt w p.b0 (vs' k) (S' k)) (hsep:∀k,k < 8→∀b,(vs' k).ownBlock=some b→ov.ownBlock≠some b):SearchAt p w' ord' S' vs' ov' nv ent:=by
 have hs:p.b0≤w.heap.size:=by have:=lt_of_heap h.blk;have:=h.b0B;omega
 have hbel:Below p.b0 w w':=⟨ht.os,ht.tape,ht.output,ht.size,fun k hk=>ht.same k (by omega) (fun e=>by
  rcases e with rfl | e
  ·have:=h.b0B;omega
  ·have:=(h.ordr.lt k e).1;omega)⟩
 refine⟨hblk,fun k hk=>(hrow k hk).same fun b hb=>?_,fun k hk b hb e=>?_,hord,?_,?_,?_,?_,h.opsb,?_,h.b0pos,h.b0B,h.b0M⟩
 ·obtain⟨_,_,cur,hc⟩:=(hrow k hk).block b hb;exact h.others ht b cur 3 hc (by decide) (fun _=>hsep k hk b hb)
 ·rcases hov b e with e | e
  ·exact hsep k hk b hb e
  ·have:=((hrow k hk).lt b hb).2;omega
 ·obtain⟨n,xs,hn⟩:=h.name;refine⟨n,xs,ownsRow_same hn fun b hb=>?_⟩;obtain⟨_,_,cur,hc⟩:=ownsRow_block hn b hb;exact h.others ht b cur 5 hc (by decide) (fun e=>by cases e)
 ·refine h.set.same (ht.same p.M ?_ (fun e=>?_))
  ·obtain⟨es,clock,hm⟩:=h.set.isMap;exact lt_of_heap hm
  ·obtain⟨es,clock,hm⟩:=h.set.isMap;rcases e with e | e
   ·rw[e,h.blk] at hm;cases hm
   ·obtain⟨_,_,cur,hc⟩:=ownsRow_block h.ordr p.M e;rw[hc] at hm;cases hm
 ·exact(vfr_tch ht hov).waits h.waits h.blkd h.set.isMap (fun b hb=>by obtain⟨_,_,cur,hc⟩:=ownsRow_block h.ordr b hb;exact⟨_,_,hc⟩)
 ·obtain⟨a,cap,e,hc,hm,ho⟩:=h.ops;refine⟨a,cap,e,hc,hm,?_⟩;rcases ho with ho | ⟨b,off,rfl,hlt,ho⟩
  ·exact .inl ho
  ·by_cases h0:p.ops= []
   ·exact .inl h0
   ·have hb0:b < p.b0:=h.opsb ⟨b,off,none⟩ _ _ e (List.length_pos_iff.2 h0);exact .inr ⟨b,off,rfl,Nat.lt_of_lt_of_le hlt ht.size,ho.below hb0 hbel⟩
 ·exact h.known.below h.b0pos hbel
end Go.Proofs.YtjpklmighoondaaGreatDoor
