/-
  Package linear's isObject and checkOps, walked.
  Package linear's ended, isWhole, isTimely: walked.
  strconv.AppendUint and AppendInt at base 36, walked: the number's digits behind what was there.
-/
import Derived.Deep.RegionHeld3
import Derived.WalkKit
import Derived.Test.YtjpklmighoondaaGreatDoorWalkFZ
import Derived.Test.YtjpklmighoondaaGreatDoorAbUZ
import Derived.Test.YtjpklmighoondaaGreatDoorProg
import Derived.Test.YtjpklmighoondaaGreatDoorRowSZ
import Derived.WalkSpells
import Derived.WalkLawsBesides
import Derived.LoopTactic
import Derived.Laws.AppendOwn
namespace Go.Proofs.YtjpklmighoondaaGreatDoor
open Go.RowKit
def OpsIn (w:World) (v:Value) (l:List Opn):Prop:=
 ∃a cap,v=.slice a l.length cap∧l.length≤cap∧l.length≤maxLen∧(l= []∨∃b off,a=some ⟨b,off,none⟩∧b < w.heap.size∧OpsAt w b off l)
theorem OpsIn.below {w w':World} {v:Value} {l:List Opn} (h:OpsIn w v l) (hb:Below w.heap.size w w'):OpsIn w' v l:=by
 obtain⟨a,cap,rfl,hc,hm,h⟩:=h;refine⟨a,cap,rfl,hc,hm,?_⟩;rcases h with h | ⟨b,off,rfl,hlt,h⟩
 ·exact .inl h
 ·exact .inr ⟨b,off,rfl,Nat.lt_of_lt_of_le hlt hb.size,h.below hlt hb⟩
def objB (o:Int):Bool:=decide (1≤o)&&decide (o≤6)
set_option maxHeartbeats 400000 in
theorem isObject_any (o:Int) (w:World):Calls Tryz.prog 34 #[.int .i64 o] w fun e w'=>e=.returned (.bool (objB o))∧w'=w:=by
 go_enter Tryz.func34,Tryz.ntmps34
 go_wp2;all_goals (go_ret;exact⟨ret_bool (by simp_all [objB]<;>omega),rfl⟩)
set_option maxHeartbeats 400000 in
theorem clo30 (x:Opn) (o:Int) (blk:Nat) (w:World) (hK:KnownAt w) (hy:w.cell? ⟨blk,0,none⟩=some (.int .i64 o)):
  Calls Tryz.prog 80 #[x.agg,.pointer (some ⟨blk,0,none⟩)] w fun e w'=>e=.returned (.bool (!knowsB o x.d))∧Below w.heap.size w w':=by
 have hlt:blk < w.heap.size:=World.block_lt_of_cell? w _ hy;have HK:Hid (∀W,Below w.heap.size w W→KnownAt W):=fun W hb=>hK.below (World.block_lt_of_cell? w ⟨0,0*13+0,none⟩ (hK 0 0 (by decide) (by decide))) hb
 clear hK;unfold Opn.agg;go_enter Tryz.func80,Tryz.ntmps80
 go_wp2_with (go_at_call 81;refine(knows_any o x.d _ (HK.out _ (belA (Below.refl _ _) _))).mono ?_;rintro e w' ⟨rfl,rfl⟩)
 go_ret;exact⟨rfl,belA (Below.refl _ _) _⟩
set_option maxHeartbeats 1000000 in
theorem index30 (l:List Opn) (o:Int) (b off cap blk:Nat) (w:World) (hlen:l.length≤60) (hl:OpsAt w b off l) (hb:b < w.heap.size) (hK:KnownAt w) (hy:w.cell? ⟨blk,0,none⟩=some (.int .i64 o)):
  Calls Tryz.prog 139 #[.slice (some ⟨b,off,none⟩) l.length cap,.func (.func 80) #[] #[.pointer (some ⟨blk,0,none⟩)]] w fun e w'=>∃i:Int,e=.returned (.int .i64 i)∧decide (0≤i)=l.any (fun x=> !knowsB o x.d)∧Below w.heap.size w w':=by
 have hlt:blk < w.heap.size:=World.block_lt_of_cell? w _ hy;have HL:Hid (OpsAt w b off l):=hl;have HC:Hid (∀W x,Below w.heap.size w W→Calls Tryz.prog 80 #[Opn.agg x,.pointer (some ⟨blk,0,none⟩)] W fun e w'=>e=.returned (.bool (!knowsB o x.d))∧Below W.heap.size W w'):=fun W x hW=>
  clo30 x o blk W (hK.below (World.block_lt_of_cell? w ⟨0,0*13+0,none⟩ (hK 0 0 (by decide) (by decide))) hW) ((hW.cell (p:=⟨blk,0,none⟩) hlt).trans hy)
 clear hl hy hK;go_enter Tryz.func139,Tryz.ntmps139
 go_wp2
 go_loopw [8] (fun i wr=>∃k:Nat,k≤l.length∧i=.int .i64 k∧(l.take k).any (fun x=> !knowsB o x.d)=false∧Below w.heap.size w wr) (fun i _=>l.length - (intOf i).toNat)
 case atStart=>exact⟨0,Nat.zero_le _,rfl,rfl,Below.refl _ _⟩
 case round=>
  obtain⟨k,hk,rfl,ha,hnx⟩:=hrel;have HA:Hid ((l.take k).any (fun x=> !knowsB o x.d)=false):=ha;clear ha;by_cases hkl:k < l.length
  ·obtain⟨c0,c1,c2,c3,c4,c5,c6,c7⟩:=(HL.out k hkl).below hb hnx;go_wp2_with fail
   refine(HC.out wr l[k] hnx).mono ?_;cases hs: !knowsB o l[k].d
   ·rintro e w1 ⟨rfl,hb1⟩;have R1:Hid ((l.take (k+1)).any (fun x=> !knowsB o x.d)=false):=any_take_succ l _ k hkl HA.out hs;have R2:Hid (Below w.heap.size w w1):=belJ hnx hb1;clear hs;go_wp2
    go_roundw
    case rel=>exact⟨k+1,by omega,by go_num,R1.out,R2.out⟩
    case measure=>simp[intOf];omega
   ·rintro e w1 ⟨rfl,hb1⟩;have R1:Hid (l.any (fun x=> !knowsB o x.d)=true):=any_of l _ k hkl hs;have R2:Hid (Below w.heap.size w w1):=belJ hnx hb1;clear hs;go_wp2;go_ret;exact⟨_,rfl,by rw[R1.out];simp,R2.out⟩
  ·have R1:Hid (l.any (fun x=> !knowsB o x.d)=false):=by
    have h:=HA.out;rw[List.take_of_length_le (by omega)] at h;exact h
   go_wp2;go_ret;exact⟨_,rfl,by rw[R1.out];rfl,hnx⟩
set_option maxHeartbeats 400000 in
theorem index_none (a:Option Addr) (cap:Nat) (f:Value) (w:World):
  Calls Tryz.prog 139 #[.slice a 0 cap,f] w fun e w'=>e=.returned (.int .i64 (-1))∧w'=w:=by
 go_enter Tryz.func139,Tryz.ntmps139
 go_wp2;refine wp_loop_rounds 1 ?_;rw[rounds_succ];go_wp2;go_ret;exact⟨rfl,rfl⟩
set_option maxHeartbeats 400000 in
theorem contains30 (l:List Opn) (o:Int) (v:Value) (blk:Nat) (w:World) (hlen:l.length≤60) (hl:OpsIn w v l) (hK:KnownAt w) (hy:w.cell? ⟨blk,0,none⟩=some (.int .i64 o)):
  Calls Tryz.prog 79 #[v,.func (.func 80) #[] #[.pointer (some ⟨blk,0,none⟩)]] w fun e w'=>e=.returned (.bool (l.any (fun x=> !knowsB o x.d)))∧Below w.heap.size w w':=by
 have HC:Hid (Calls Tryz.prog 139 #[v,.func (.func 80) #[] #[.pointer (some ⟨blk,0,none⟩)]] w fun e w'=>∃i:Int,e=.returned (.int .i64 i)∧decide (0≤i)=l.any (fun x=> !knowsB o x.d)∧Below w.heap.size w w'):=by
  obtain⟨a,cap,rfl,hc,hm,h⟩:=hl;rcases h with rfl | ⟨b,off,rfl,hlt,h⟩
  ·exact(index_none a cap _ w).mono fun e w' ⟨he,hw⟩=>⟨-1,he,rfl,by rw[hw];exact Below.refl _ _⟩
  ·exact index30 l o b off cap blk w hlen h hlt hK hy
 clear hl hK hy;go_enter Tryz.func79,Tryz.ntmps79
 go_wp2_with fail
 refine HC.out.mono ?_;rintro e w1 ⟨i,rfl,hi,hb1⟩;have HI:Hid (decide (0≤i)=l.any (fun x=> !knowsB o x.d)):=hi;clear hi;go_wp2;all_goals
  go_ret;refine⟨?_,hb1⟩;rw[←HI.out]
  simp_all
theorem checkOps_in (l:List Opn) (v:Value) (w:World) (hlen:l.length≤60) (hl:OpsIn w v l):
  Calls Tryz.prog 78 #[v] w fun e w'=>∃n,e=.returned (toldV n)∧Told l n∧Below w.heap.size w w':=by
 obtain⟨a,cap,rfl,hc,hm,h⟩:=hl;rcases h with rfl | ⟨b,off,rfl,hlt,h⟩
 ·exact(checkOps_none a cap w).mono fun e w' ⟨he,hw⟩=>⟨0,he,told0 _ (by simp) (fun j hj=>by simp at hj),by rw[hw];exact Below.refl _ _⟩
 ·exact checkOps_any l b off cap w hlen hc h hlt
def CkTold (o:Int) (l:List Opn) (n:Int):Prop:=
 (n≠0∧Told l n)∨(Told l 0∧l.any (fun x=> !knowsB o x.d)=true∧n=1)∨(Told l 0∧l.any (fun x=> !knowsB o x.d)=false∧n=0)
theorem ckTold_one {o:Int} {l:List Opn} {n m:Int} (h1:CkTold o l n) (h2:CkTold o l m):n=m:=by
 rcases h1 with ⟨a,h⟩ | ⟨h,g,rfl⟩ | ⟨h,g,rfl⟩
 ·rcases h2 with ⟨_,k⟩ | ⟨k,_,rfl⟩ | ⟨k,_,rfl⟩
  ·exact told_one h k
  ·exact absurd (told_one h k) a
  ·exact absurd (told_one h k) a
 ·rcases h2 with ⟨b,k⟩ | ⟨_,_,rfl⟩ | ⟨_,g',rfl⟩
  ·exact absurd (told_one k h) b
  ·rfl
  ·rw[g] at g';cases g'
 ·rcases h2 with ⟨b,k⟩ | ⟨_,g',rfl⟩ | ⟨_,_,rfl⟩
  ·exact absurd (told_one k h) b
  ·rw[g] at g';cases g'
  ·rfl
set_option maxHeartbeats 1000000 in
theorem linCheck_any (o:Int) (l:List Opn) (v:Value) (w:World) (hlen:l.length≤60) (hl:OpsIn w v l) (hK:KnownAt w):
  Calls Tryz.prog 35 #[.int .i64 o,v] w fun e w'=>∃n,e=.returned (toldV n)∧CkTold o l n∧Below w.heap.size w w':=by
 have hpos:0 < w.heap.size:=World.block_lt_of_cell? w ⟨0,0*13+0,none⟩ (hK 0 0 (by decide) (by decide));have hb1:Below w.heap.size w (w.alloc (.cells #[.int .i64 o] 3)):=belA (Below.refl _ _) _;have HC:Hid (Calls Tryz.prog 78 #[v] (w.alloc (.cells #[.int .i64 o] 3)) fun e w'=>∃n,e=.returned (toldV n)∧Told l n∧Below (w.alloc (.cells #[.int .i64 o] 3)).heap.size (w.alloc (.cells #[.int .i64 o] 3)) w'):=checkOps_in l v _ hlen (hl.below hb1);have HD:Hid (∀w1,Below (w.alloc (.cells #[.int .i64 o] 3)).heap.size (w.alloc (.cells #[.int .i64 o] 3)) w1→Calls Tryz.prog 79 #[v,.func (.func 80) #[] #[.pointer (some ⟨w.heap.size,0,none⟩)]] w1 fun e w'=>e=.returned (.bool (l.any (fun x=> !knowsB o x.d)))∧Below w1.heap.size w1 w'):=fun w1 hb=>by
  have hb2:=belJ hb1 hb;refine contains30 l o v w.heap.size w1 hlen (hl.below hb2) (hK.below hpos hb2) ?_;rw[hb.cell (p:=⟨w.heap.size,0,none⟩) (by simp)];simp
 clear hl hK;have HB1:=hideIt hb1;clear hb1;obtain⟨q,hq⟩:∃q,l.any (fun x=> !knowsB o x.d)=q:=⟨_,rfl⟩;rw[hq] at HD;go_enter Tryz.func35,Tryz.ntmps35
 go_wp2_with fail
 refine HC.out.mono ?_;rintro e w1 ⟨n,rfl,ht,hb⟩;have HT:=hideIt ht;have HB:=hideIt hb;have HQ:=hideIt hq;clear ht hb hq;by_cases hz:n=0
 ·subst hz;rw[toldV_zero];cases q
  ·go_wp2_with (go_at_call 79;refine(HD.out _ HB.out).mono ?_;rintro e w2 ⟨rfl,hb2⟩;have HB2:=hideIt hb2;clear hb2)
   go_ret;exact⟨0,by rfl,.inr (.inr ⟨HT.out,HQ.out,rfl⟩),belJ (belJ HB1.out HB.out) HB2.out⟩
  ·go_wp2_with (go_at_call 79;refine(HD.out _ HB.out).mono ?_;rintro e w2 ⟨rfl,hb2⟩;have HB2:=hideIt hb2;clear hb2)
   go_ret;exact⟨1,by rfl,.inr (.inl ⟨HT.out,HQ.out,rfl⟩),belJ (belJ HB1.out HB.out) HB2.out⟩
 ·rw[toldV_some hz];go_wp2;go_ret;exact⟨n,by rw[toldV_some hz];rfl,.inl ⟨hz,HT.out⟩,belJ HB1.out HB.out⟩
open Go.RowKit
def endK (ops:List Opn) (k:Nat):List Nat:=(List.range k).filter fun n=>decide (0≤(opN ops n).e)
theorem endK_yes {ops:List Opn} {k:Nat} (h:0≤(opN ops k).e):endK ops (k+1)=endK ops k++ [k]:=by simp[endK,List.range_succ,h]
theorem endK_no {ops:List Opn} {k:Nat} (h:¬0≤(opN ops k).e):endK ops (k+1)=endK ops k:=by
 unfold endK;rw[List.range_succ,List.filter_append];simp;omega
theorem endK_lt {ops:List Opn} {k m:Nat} (hk:k≤m):∀n∈endK ops k,n < m:=fun n h=>by
 have:=List.mem_range.1 (List.mem_filter.1 h).1;omega
theorem or_bits {m n:Nat} (hm:m < 18446744073709551616) (hn:n < 64):bits .or .u64 (m:Int) ((2 ^ n:Nat):Int)=((m||| 2 ^ n:Nat):Int):=bits_or_u64_nat m (2 ^ n) hm (pow_lt64 hn)
theorem bit_call (n:Nat) (hn:n < 64):∃p:Nat,p=2 ^ n∧∀w,Calls Tryz.prog 83 #[.int .i64 n] w fun e w'=>e=.returned (.int .u64 (p:Nat))∧w'=w:=⟨2 ^ n,rfl,fun w=>bit_any n w hn⟩
set_option maxRecDepth 100000 in
set_option maxHeartbeats 1000000 in
theorem ended_any (ops:List Opn) (v:Value) (w:World) (hlen:ops.length≤60) (hl:OpsIn w v ops):
  Calls Tryz.prog 85 #[v] w fun e w'=>e=.returned (.int .u64 (maskN (endL ops)))∧Below w.heap.size w w':=by
 obtain⟨a,cap,rfl,hc,hm,hops⟩:=hl;have HOP:Hid (∀n,(hn:n < ops.length)→∃b off,a=some ⟨b,off,none⟩∧∀wr,Below w.heap.size w wr→OpAt wr b (off+n*8) ops[n]):=fun n hn=>by
  obtain h | ⟨b,off,e,hlt,hc⟩:=hops
  ·subst h;simp at hn
  ·exact⟨b,off,e,fun wr hW=>(hc n hn).below hlt hW⟩
 clear hops;go_enter Tryz.func85,Tryz.ntmps85
 go_wp2
 go_loopw [3,8] (fun s i wr=>∃k:Nat,k≤ops.length∧i=.int .i64 k∧s=.int .u64 (maskN (endK ops k))∧Below w.heap.size w wr) (fun _ i _=>ops.length - (intOf i).toNat)
 case atStart=>exact⟨0,by omega,rfl,rfl,Below.refl _ _⟩
 case round=>
  obtain⟨k,hk,rfl,rfl,hb⟩:=hrel;have HB:=hideIt hb;clear hb;by_cases hkl:k < ops.length
  ·obtain⟨b,offo,rfl,hop⟩:=HOP.out k hkl;obtain⟨d0,d1,d2,d3,d4,d5,d6,d7⟩:=hop _ HB.out;clear hop;have k1:(0:Int)≤(k:Int):=by omega
   have k2:(k:Int) < (ops.length:Int):=by omega
   have hml:maskN (endK ops k) < 18446744073709551616:=maskN_lt (endK_lt (by omega));have HE:=hideIt (opN_at hkl);by_cases he:0≤ops[k].e
   ·have he':decide (0≤ops[k].e)=true:=by simpa using he
    obtain⟨p,hp,hcall⟩:=bit_call k (by omega);have R1:Hid (bits .or .u64 (maskN (endK ops k):Int) (p:Int)=(maskN (endK ops (k+1)):Int)):=hideIt (by
     rw[hp,or_bits hml (by omega),endK_yes (by rw[HE.out];exact he),←or_bit])
    have HC:=hideIt hcall;have HB2:=hideIt (belA HB.out ops[k].obj);unfold Opn.obj at HB2;clear hp hcall hml;go_wp2_with (go_at_call 83;refine(HC.out _).mono ?_;rintro e w' ⟨rfl,rfl⟩)
    go_roundw
    case rel=>exact⟨k+1,by omega,by go_num,by rw[R1.out],HB2.out⟩
    case measure=>simp[intOf];omega
   ·have he':decide (0≤ops[k].e)=false:=by simpa using he
    have R1:Hid (endK ops (k+1)=endK ops k):=hideIt (endK_no (by rw[HE.out];exact he));have HB2:=hideIt (belA HB.out ops[k].obj);unfold Opn.obj at HB2;clear hml;go_wp2
    go_roundw
    case rel=>exact⟨k+1,by omega,by go_num,by rw[R1.out],HB2.out⟩
    case measure=>simp[intOf];omega
  ·have HE:Hid (endK ops k=endL ops):=by
    have:k=ops.length:=by omega
    subst this;rfl
   go_wp2;go_ret;exact⟨ret_int (by rw[HE.out]),HB.out⟩
theorem take_snoc {α:Type} (l:List α) (k:Nat) (h:k < l.length):l.take (k+1)=l.take k++ [l[k]]:=List.take_succ_eq_append_getElem h
open Go.RowKit
def byteV (l:List UInt8):List Value:=l.map fun b=>.int .u8 (b.toNat:Int)
theorem byteV_append (a b:List UInt8):byteV (a++b)=byteV a++byteV b:=by simp[byteV]
def padA (i:Nat) (ds:List UInt8):Array Value:=(List.replicate i (Value.int .u8 0)++byteV ds).toArray
theorem padA_size (i:Nat) (ds:List UInt8):(padA i ds).size=i+ds.length:=by simp[padA,byteV]
theorem pad_heap (w:World) (i:Nat) (ds:List UInt8):(w.alloc (.cells (padA i ds) 333)).heap[w.heap.size]?=some (.cells (padA i ds) 333 (0,0)):=by
 show (w.heap.push _)[w.heap.size]?=_;simp
theorem pad_set (w:World) (i:Nat) (ds:List UInt8) (d:UInt8) (h:i+1=65 - ds.length):(w.alloc (.cells (padA (65 - ds.length) ds) 333)).setCell ⟨w.heap.size,i,none⟩ (.int .u8 (d.toNat:Int))=w.alloc (.cells (padA i (d::ds)) 333):=by
 rw[World.setCell_alloc_new];have e:(padA (65 - ds.length) ds).setIfInBounds i (.int .u8 (d.toNat:Int))=padA i (d::ds):=by
  unfold padA;rw[←h,List.replicate_succ',List.append_assoc]
  apply Array.ext'
  simp[byteV]
 rw[e]
theorem pad_cell (w:World) (i:Nat) (ds:List UInt8) (j:Nat) (u:Value) (h:(byteV ds)[j]?=some u):(w.alloc (.cells (padA i ds) 333)).cell? ⟨w.heap.size,i+j,none⟩=some u:=by
 rw[cell_of_row _ _ _ _ 333 (0,0) (pad_heap w i ds)];unfold padA;simp only[List.getElem?_toArray];rw[List.getElem?_append_right (by simp)]
 simpa using h
theorem digs (y:Nat) (h:y < 36):((⟨#[48,49,50,51,52,53,54,55,56,57,97,98,99,100,101,102,103,104,105,106,107,108,109,110,111,112,113,114,115,116,117,118,119,120,121,122]⟩:ByteArray)[y]'h)=dig y:=by
 have:∀y:Fin 36,((⟨#[48,49,50,51,52,53,54,55,56,57,97,98,99,100,101,102,103,104,105,106,107,108,109,110,111,112,113,114,115,116,117,118,119,120,121,122]⟩:ByteArray)[y.val]'y.isLt)=dig y.val:=by decide
 exact this ⟨y,h⟩
theorem info5:(Tryz.prog.info? 5).map (fun i=>(i.zero,i.size,i.bytes))=some (some (.int .u8 0),1,1):=by kernel_rfl
set_option maxRecDepth 100000 in
set_option maxHeartbeats 4000000 in
theorem fmt36 (base n u:Nat) (hu:u < 18446744073709551616) (sv:Value) (xs:List Value) (w:World) (hown:w.ownsRow base 5 1 sv n xs) (hbase:base≤w.heap.size) (hlim:n+20≤1000000):
  Calls Tryz.prog 176 #[sv,.int .u64 u,.int .i64 36,.bool false,.bool true] w fun e w'=>∃v',e=.returned (.tuple #[v',.string ⟨#[]⟩])∧w'.ownsRow base 5 1 v' (n+(d36 u).length) (xs++byteV (d36 u))∧w.grownBy w' sv.ownBlock:=by
 have HOWN:=hideIt hown;obtain⟨i5,hi5,hz5,hs5,hb5⟩:=info_parts info5;have hlen13:=d36_length64 hu;clear hown;go_enter Tryz.func176,Tryz.ntmps176
 go_wp2
 go_loopw [1,13,18] (fun x i q wr=>∃(y:Nat) (ds:List UInt8),x=.int .u64 y∧y < 18446744073709551616∧d36 u=d36 y++ds∧i=.int .i64 (65 - ds.length:Nat)∧wr=w.alloc (.cells (padA (65 - ds.length) ds) 333)) (fun x _ _ _=>(intOf x).toNat)
 case atStart=>exact⟨u,[],rfl,hu,by simp,rfl,rfl⟩
 case round=>
  obtain⟨y,ds,rfl,hy,hd,rfl,hW⟩:=hrel;have hl:(d36 y).length+ds.length≤13:=by
   have:=congrArg List.length hd;rw[List.length_append] at this;omega
  have hp:=d36_pos y;have hn1:IntKind.i64.wrap (((65 - ds.length:Nat):Int) - 1)=((64 - ds.length:Nat):Int):=by rw[IntKind.wrap_i64];omega
  have hg:=pad_heap w (65 - ds.length) ds;rw[←hW] at hg;obtain⟨z,hc⟩:∃z,wr.cell? ⟨w.heap.size,64 - ds.length,none⟩=some z:=⟨_,by
   rw[cell_of_row wr _ _ _ 333 (0,0) hg,Array.getElem?_eq_getElem (by rw[padA_size];omega)]⟩
  have hf:wr.frozen? ⟨w.heap.size,64 - ds.length,none⟩=false:=frozen_of_row wr _ _ _ 333 hg;have HW:=hideIt hW;have HG:=hideIt hg;clear hg hW;have hset:∀d:UInt8,wr.setCell ⟨w.heap.size,64 - ds.length,none⟩ (.int .u8 (d.toNat:Int))=w.alloc (.cells (padA (64 - ds.length) (d::ds)) 333):=fun d=>by
   rw[HW.out,pad_set w (64 - ds.length) ds d (by omega)]
  have HSET:=hideIt hset;clear hset;by_cases h36:y < 36
  ·have hge:decide (36≤(y:Int))=false:=by simp;omega
   have hal:Tryz.prog.arrayLen 333=65:=by kernel_rfl
   have hsl:∀W,(Instr.sliceAt 333 (.pointer (some ⟨w.heap.size,0,none⟩)) (some (.int .i64 ((64 - ds.length:Nat):Int))) none none).run Tryz.prog W=.ok (.slice (some ⟨w.heap.size,64 - ds.length,none⟩) (ds.length+1) (ds.length+1)) W:=fun W=>by
    rw[run_sliceAt_array_l W 333 ⟨w.heap.size,0,none⟩ (by kernel_rfl) .i64 ((64 - ds.length:Nat):Int) (by omega) (by rw[hal];omega),hal];have e1:Tryz.prog.elem 333=5:=by kernel_rfl
    have e2:(sizeOf 5).run Tryz.prog W=.ok 1 W:=by kernel_rfl
    rw[e1,e2];simp only[Result.andThen,slicedAt,Int.toNat_natCast];rw[if_neg (by omega)];simp[Addr.add];omega
   have hS:wr.setCell ⟨w.heap.size,64 - ds.length,none⟩ (.int .u8 (((⟨#[48,49,50,51,52,53,54,55,56,57,97,98,99,100,101,102,103,104,105,106,107,108,109,110,111,112,113,114,115,116,117,118,119,120,121,122]⟩:ByteArray)[y]'h36).toNat:Int))=w.alloc (.cells (padA (64 - ds.length) (dig y::ds)) 333):=by
    rw[digs y h36];exact HSET.out (dig y)
   have HS:=hideIt hS;clear hal hS HSET;go_wp2_with (at_builtin;refine wpList_append_own _ rfl _ _ 134 rfl base 5 i5 (.int .u8 0) 1 1 Tryz.underlying134 hi5 hz5 hs5 hb5 rfl (by decide) sv n xs rfl ?c6 ⟨w.heap.size,64 - ds.length,none⟩ (ds.length+1) (ds.length+1) (byteV (dig y::ds)) rfl ?c0 ?c1 ?c2 ?c3 ?c4 ?c5 ?_)
   case c6=>rw[HS.out];exact HOWN.out.alloc _
   case c0=>simp[byteV]
   case c1=>
    intro j u' hj;rw[HS.out];rw[Addr.add_lit];exact pad_cell w (64 - ds.length) (dig y::ds) j u' hj
   case c2=>intro u' hu';simp only[byteV,List.mem_map] at hu';obtain⟨b,_,rfl⟩:=hu';rfl
   case c3=>unfold maxLen;omega
   case c4=>omega
   case c5=>rw[HS.out];simp;omega
   intro v' w' ho hgr _;rw[HS.out] at hgr;have HO:=hideIt ho;have HGR:=hideIt hgr;clear ho hgr;go_wp2;go_ret2;refine⟨v',rfl,?_,(World.grownBy_alloc w _ _).trans HGR.out⟩;have ho:=HO.out;rw[hd,d36_small h36]
   simpa [Nat.add_comm] using ho
  ·have hge:decide (36≤(y:Int))=true:=by simp;omega
   have hidx:y%36 < 36:=Nat.mod_lt _ (by decide);have hi36:y - y / 36*36 < 36:=by omega
   have hS:wr.setCell ⟨w.heap.size,64 - ds.length,none⟩ (.int .u8 (((⟨#[48,49,50,51,52,53,54,55,56,57,97,98,99,100,101,102,103,104,105,106,107,108,109,110,111,112,113,114,115,116,117,118,119,120,121,122]⟩:ByteArray)[y - y / 36*36]'hi36).toNat:Int))=w.alloc (.cells (padA (64 - ds.length) (dig (y%36)::ds)) 333):=by
    rw[digs _ hi36,show y - y / 36*36=y%36 by omega];exact HSET.out (dig (y%36))
   have HS:=hideIt hS;clear hS HSET;go_wp2;refine⟨⟨_,_,_,_,_,_,_,_,_,_,_,_,_,_,_,_,_,_,_,_,⟨y / 36,dig (y%36)::ds,?_,?_,?_,?_,?_⟩,rfl⟩,?_⟩
   ·go_num
   ·omega
   ·rw[hd,d36_big h36];simp
   ·simp
   ·rw[show 65 - (dig (y%36)::ds).length=64 - ds.length by simp];exact HS.out
   ·simp[intOf];omega
structure BFr (base : Nat) (w w' : World) : Prop where
 os:w'.os=w.os
 tape:w'.tape=w.tape
 output:w'.output=w.output
 size:w.heap.size≤w'.heap.size
 block:∀k,k < w.heap.size→¬(base≤k∧∃c fz,w.heap[k]?=some (.cells c 5 fz))→w'.heap[k]?=w.heap[k]?
theorem BFr.trans {base:Nat} {a b c:World} (h:BFr base a b) (k:BFr base b c):BFr base a c:=
 ⟨k.os.trans h.os,k.tape.trans h.tape,k.output.trans h.output,Nat.le_trans h.size k.size,fun i hi hn=>by
  have e:=h.block i hi hn;rw[k.block i (Nat.lt_of_lt_of_le hi h.size) (by rw[e];exact hn),e]⟩
theorem bfr_of_grown {base n:Nat} {w w':World} {sv:Value} {xs:List Value} (hown:w.ownsRow base 5 1 sv n xs) (hg:w.grownBy w' sv.ownBlock):BFr base w w':=
 ⟨hg.os,hg.tape,hg.output,hg.size,fun k hk hn=>hg.block k hk (fun e=>hn ⟨(hown.lt k e.symm).1,by
  obtain⟨_,⟨rfl,_⟩ | ⟨g,cap,cur,rfl,_,hh,_⟩⟩:=hown
  ·cases e
  ·obtain rfl:k=g:=by simpa [Value.ownBlock] using e
   exact⟨_,_,hh⟩⟩)⟩
theorem bfr_new {base:Nat} {w w':World} (hg:w.grownBy w' none):BFr base w w':=
 ⟨hg.os,hg.tape,hg.output,hg.size,fun k hk _=>hg.block k hk (by simp)⟩
structure Wrote (base : Nat) (w : World) (n : Nat) (xs : List Value) (l : List UInt8) (v' : Value) (w' : World) : Prop where
 row:w'.ownsRow base 5 1 v' (n+l.length) (xs++byteV l)
 fr:BFr base w w'
theorem Wrote.then {base n:Nat} {w w1 w2:World} {v1 v2:Value} {xs:List Value} {a b:List UInt8} (h:Wrote base w n xs a v1 w1) (k:Wrote base w1 (n+a.length) (xs++byteV a) b v2 w2):Wrote base w n xs (a++b) v2 w2:=by
 refine⟨?_,h.fr.trans k.fr⟩;have:=k.row;rw[byteV_append,List.length_append,←List.append_assoc,←Nat.add_assoc];exact this
set_option maxRecDepth 100000 in
set_option maxHeartbeats 1000000 in
theorem appendUint85 (base n u:Nat) (hu:u < 18446744073709551616) (sv:Value) (xs:List Value) (w:World) (hown:w.ownsRow base 5 1 sv n xs) (hbase:base≤w.heap.size) (hlim:n+20≤1000000):
  Calls Tryz.prog 289 #[sv,.int .u64 u,.int .i64 36] w fun e w'=>∃v',e=.returned v'∧Wrote base w n xs (d36 u) v' w':=by
 have HC:=hideIt (fmt36 base n u hu sv xs w hown hbase hlim);have HN:=hideIt hown;clear hown;go_enter Tryz.func289,Tryz.ntmps289
 go_wp2_with (go_at_call 176;refine HC.out.mono ?_;rintro e w' ⟨v',rfl,h1,h2⟩)
 have HW:=hideIt (show Wrote base w n xs (d36 u) v' w' from⟨h1,bfr_of_grown HN.out h2⟩);clear h1 h2;go_wp2;go_ret;exact⟨v',rfl,HW.out⟩
set_option maxHeartbeats 1000000 in
theorem appendUint36 (base n u:Nat) (hu:u < 18446744073709551616) (sv:Value) (xs:List Value) (w:World) (hown:w.ownsRow base 5 1 sv n xs) (hbase:base≤w.heap.size) (hlim:n+20≤1000000):
  Calls Tryz.prog 282 #[sv,.int .u64 u,.int .i64 36] w fun e w'=>∃v',e=.returned v'∧Wrote base w n xs (d36 u) v' w':=by
 have HC:=hideIt (appendUint85 base n u hu sv xs w hown hbase hlim);clear hown;go_enter Tryz.func282,Tryz.ntmps282
 go_wp2_with (go_at_call 289;refine HC.out.mono ?_;rintro e w' ⟨v',rfl,h1⟩)
 have HW:=hideIt h1;clear h1;go_wp2;go_ret;exact⟨v',rfl,HW.out⟩
theorem n36_neg {m:Nat} (h:0 < m):n36 (-(m:Int))= [45]++d36 m:=by
 unfold n36;rw[if_pos (by omega),Int.neg_neg,Int.toNat_natCast];rfl
theorem n36_nat (m:Nat):n36 (m:Int)=d36 m:=by
 unfold n36;rw[if_neg (by omega),Int.toNat_natCast]
set_option maxRecDepth 100000 in
set_option maxHeartbeats 1000000 in
theorem appendInt_nat (base n m:Nat) (hx:m < 9223372036854775808) (sv:Value) (xs:List Value) (w:World) (hown:w.ownsRow base 5 1 sv n xs) (hbase:base≤w.heap.size) (hlim:n+30≤1000000):
  Calls Tryz.prog 290 #[sv,.int .i64 m,.int .i64 36] w fun e w'=>∃v',e=.returned v'∧Wrote base w n xs (d36 m) v' w':=by
 have hlt:decide ((m:Int) < 0)=false:=by simp
 have hw:IntKind.u64.wrap (m:Int)=(m:Int):=by rw[IntKind.wrap_u64];omega
 have HC:=hideIt (appendUint85 base n m (by omega) sv xs w hown hbase (by omega));clear hown;go_enter Tryz.func290,Tryz.ntmps290
 go_wp2_with (go_at_call 289;refine HC.out.mono ?_;rintro e w' ⟨v',rfl,h1⟩)
 have H1:=hideIt h1;clear h1;go_wp2;go_ret;exact⟨v',rfl,H1.out⟩
set_option maxRecDepth 100000 in
set_option maxHeartbeats 1000000 in
theorem appendInt_neg (base n m:Nat) (h0:0 < m) (hx:m≤9223372036854775808) (sv:Value) (xs:List Value) (w:World) (hown:w.ownsRow base 5 1 sv n xs) (hbase:base≤w.heap.size) (hlim:n+30≤1000000):
  Calls Tryz.prog 290 #[sv,.int .i64 (-(m:Int)),.int .i64 36] w fun e w'=>∃v',e=.returned v'∧Wrote base w n xs ([45]++d36 m) v' w':=by
 have HN:=hideIt hown;have hlt:decide (-(m:Int) < 0)=true:=by simp;omega
 have hw:IntKind.u64.wrap (-(m:Int))=18446744073709551616 - (m:Int):=by rw[IntKind.wrap_u64];omega
 have hw2:IntKind.u64.wrap (-(18446744073709551616 - (m:Int)))=(m:Int):=by rw[IntKind.wrap_u64];omega
 obtain⟨i5,hi5,hz5,hs5,hb5⟩:=info_parts info5;clear hown;go_enter Tryz.func290,Tryz.ntmps290
 go_wp2_with (at_builtin;refine wpList_append_own _ rfl _ _ 134 rfl base 5 i5 (.int .u8 0) 1 1 Tryz.underlying134 hi5 hz5 hs5 hb5 rfl (by decide) sv n xs rfl ?c6 ⟨w.heap.size,0,none⟩ 1 1 (byteV [45]) rfl ?c0 ?c1 ?c2 ?c3 ?c4 ?c5 ?_)
 case c6=>exact HN.out.alloc _
 case c0=>simp[byteV]
 case c1=>
  intro j u' hj
  match j,hj with
  | 0,hj=>simp[byteV] at hj;subst hj;simp[Addr.add]
 case c2=>intro u' hu';simp only[byteV,List.mem_map] at hu';obtain⟨b,_,rfl⟩:=hu';rfl
 case c3=>unfold maxLen;omega
 case c4=>omega
 case c5=>simp;omega
 intro v' w' ho hgr _;have H1:=hideIt (show Wrote base w n xs [45] v' w' from⟨ho,(bfr_new (World.grownBy_alloc w _ none)).trans (bfr_of_grown (HN.out.alloc _) hgr)⟩);have hsz:=hgr.size;have HC:=hideIt (appendUint85 base (n+1) m (by omega) v' _ w' ho (by simp at hsz;omega) (by omega));clear ho hgr hsz;go_wp2_with (go_at_call 289;refine HC.out.mono ?_;rintro e w2 ⟨v2,rfl,h2⟩)
 have H2:=hideIt h2;clear h2;go_wp2;go_ret;exact⟨v2,rfl,H1.out.then H2.out⟩
set_option maxHeartbeats 1000000 in
theorem appendInt36 (base n:Nat) (x:Int) (hx: -9223372036854775808≤x∧x < 9223372036854775808) (sv:Value) (xs:List Value) (w:World) (hown:w.ownsRow base 5 1 sv n xs) (hbase:base≤w.heap.size) (hlim:n+30≤1000000):
  Calls Tryz.prog 283 #[sv,.int .i64 x,.int .i64 36] w fun e w'=>∃v',e=.returned v'∧Wrote base w n xs (n36 x) v' w':=by
 have HC:Hid (Calls Tryz.prog 290 #[sv,.int .i64 x,.int .i64 36] w fun e w'=>∃v',e=.returned v'∧Wrote base w n xs (n36 x) v' w'):=by
  by_cases h0:x < 0
  ·obtain⟨m,rfl⟩:∃m:Nat,x= -(m:Int):=⟨(-x).toNat,by omega⟩;rw[n36_neg (by omega)];exact appendInt_neg base n m (by omega) (by omega) sv xs w hown hbase hlim
  ·obtain⟨m,rfl⟩:∃m:Nat,x=(m:Int):=⟨x.toNat,by omega⟩;rw[n36_nat];exact appendInt_nat base n m (by omega) sv xs w hown hbase hlim
 clear hown;go_enter Tryz.func283,Tryz.ntmps283
 go_wp2_with (go_at_call 290;refine HC.out.mono ?_;rintro e w' ⟨v',rfl,h1⟩)
 have H1:=hideIt h1;clear h1;go_wp2;go_ret;exact⟨v',rfl,H1.out⟩
end Go.Proofs.YtjpklmighoondaaGreatDoor
