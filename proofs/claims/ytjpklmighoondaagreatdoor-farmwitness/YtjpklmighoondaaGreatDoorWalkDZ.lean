/-
  What the closures of opFault, and the search of the library that calls them, do.
  A call of a register, of a counter, of a mutex: the number is one's own, and is written in place.
  A call of a queue, of a stack: what is one's own is appended to, or shortened, in place.
  Four functions of package slices laid at this program: numbers of its functions and types, and a fact a field.
-/
import Derived.Test.YtjpklmighoondaaGreatDoorMnZ
import Derived.Test.YtjpklmighoondaaGreatDoorNuWZ
import Derived.Deep.QuietTactic
import Derived.BigQuiet
import Derived.ArgAppend
import Derived.Lib.JoinLaws
import Derived.Shelf.Slices.SearchI
import Derived.Shelf.Slices.Clone
import Derived.Shelf.Slices.Delete
import Derived.Shelf.Slices.Empties
import Derived.Shelf.Spec.SlicesInsertGrow
import Derived.Test.YtjpklmighoondaaGreatDoorProg
namespace Go.Proofs.YtjpklmighoondaaGreatDoor
open Go.RowKit
def OpAt (w:World) (b off:Nat) (x:Opn):Prop:=
 w.cell? ⟨b,off,none⟩=some (.int .i64 x.p)∧w.cell? ⟨b,off+1,none⟩=some (.int .i64 x.k)∧w.cell? ⟨b,off+2,none⟩=some (.int .i64 x.d)∧w.cell? ⟨b,off+3,none⟩=some (.int .i64 x.a)∧w.cell? ⟨b,off+4,none⟩=some (.int .i64 x.b)∧w.cell? ⟨b,off+5,none⟩=some (.int .i64 x.r)∧w.cell? ⟨b,off+6,none⟩=some (.int .i64 x.c)∧w.cell? ⟨b,off+7,none⟩=some (.int .i64 x.e)
def OpsAt (w:World) (b off:Nat) (l:List Opn):Prop:=∀i,(h:i < l.length)→OpAt w b (off+i*8) l[i]
theorem OpAt.below {w w':World} {B b off:Nat} {x:Opn} (h:OpAt w b off x) (hb:b < B) (hn:Below B w w'):OpAt w' b off x:=by
 obtain⟨h0,h1,h2,h3,h4,h5,h6,h7⟩:=h;exact⟨(hn.cell (p:=⟨b,off,none⟩) hb).trans h0,(hn.cell (p:=⟨b,off+1,none⟩) hb).trans h1,(hn.cell (p:=⟨b,off+2,none⟩) hb).trans h2,(hn.cell (p:=⟨b,off+3,none⟩) hb).trans h3,(hn.cell (p:=⟨b,off+4,none⟩) hb).trans h4,(hn.cell (p:=⟨b,off+5,none⟩) hb).trans h5,(hn.cell (p:=⟨b,off+6,none⟩) hb).trans h6,(hn.cell (p:=⟨b,off+7,none⟩) hb).trans h7⟩
theorem OpsAt.below {w w':World} {B b off:Nat} {l:List Opn} (h:OpsAt w b off l) (hb:b < B) (hn:Below B w w'):OpsAt w' b off l:=fun i hi=>(h i hi).below hb hn
theorem OpAt.lt {w:World} {b off:Nat} {x:Opn} (h:OpAt w b off x):b < w.heap.size:=World.block_lt_of_cell? w ⟨b,off,none⟩ h.1
theorem OpsAt.take {w:World} {b off:Nat} {l:List Opn} (h:OpsAt w b off l) (n:Nat):OpsAt w b off (l.take n):=fun i hi=>by
 have hl:i < l.length:=by simp at hi;omega
 have e:(l.take n)[i]=l[i]:=List.getElem_take;rw[e];exact h i hl
set_option maxHeartbeats 400000 in
theorem clo47 (x y:Opn) (blk:Nat) (w:World) (hy:OpAt w blk 0 y):
  Calls Tryz.prog 201 #[x.agg,.pointer (some ⟨blk,0,none⟩)] w fun e w'=>e=.returned (.bool (shareB x y))∧Below w.heap.size w w':=by
 have hlt:=hy.lt;obtain⟨y0,y1,y2,y3,y4,y5,y6,y7⟩:=hy;unfold Opn.agg;go_enter Tryz.func201,Tryz.ntmps201
 go_wp2_with fail
 refine(share_any x y _).mono ?_;rintro e w1 ⟨rfl,hb⟩;go_wp2;go_ret;exact⟨rfl,belJ (belA (Below.refl _ _) _) hb⟩
set_option maxHeartbeats 400000 in
theorem clo49 (x y:Opn) (blk:Nat) (w:World) (hy:OpAt w blk 0 y):
  Calls Tryz.prog 203 #[x.agg,.pointer (some ⟨blk,0,none⟩)] w fun e w'=>e=.returned (.bool (clashB x y))∧Below w.heap.size w w':=by
 have hlt:=hy.lt;obtain⟨y0,y1,y2,y3,y4,y5,y6,y7⟩:=hy;cases h1:x.p==y.p
 ·have e:clashB x y=false:=by simp[clashB,h1]
  rw[e];clear e;unfold Opn.agg;go_enter Tryz.func203,Tryz.ntmps203
  go_wp2;go_ret;exact⟨rfl,belA (Below.refl _ _) _⟩
 ·have e:clashB x y= !beforeB x y:=by simp[clashB,h1]
  rw[e];clear e;unfold Opn.agg;go_enter Tryz.func203,Tryz.ntmps203
  go_wp2_with fail
  refine(before_any x y _).mono ?_;rintro e w1 ⟨rfl,hb⟩;go_wp2;go_ret;exact⟨rfl,belJ (belA (Below.refl _ _) _) hb⟩
theorem any_take_succ (l:List Opn) (f:Opn→Bool) (k:Nat) (h:k < l.length) (h0:(l.take k).any f=false) (h1:f l[k]=false):(l.take (k+1)).any f=false:=by
 rw[List.take_succ_eq_append_getElem h,List.any_append,h0];simp[h1]
theorem any_of (l:List Opn) (f:Opn→Bool) (k:Nat) (h:k < l.length) (h1:f l[k]=true):l.any f=true:=
 List.any_eq_true.2 ⟨l[k],List.getElem_mem h,h1⟩
set_option maxHeartbeats 1000000 in
theorem index47 (l:List Opn) (y:Opn) (b off cap blk:Nat) (w:World) (hlen:l.length≤60) (hl:OpsAt w b off l) (hb:b < w.heap.size) (hy:OpAt w blk 0 y):
  Calls Tryz.prog 139 #[.slice (some ⟨b,off,none⟩) l.length cap,.func (.func 201) #[] #[.pointer (some ⟨blk,0,none⟩)]] w fun e w'=>∃i:Int,e=.returned (.int .i64 i)∧decide (0≤i)=l.any (fun x=>shareB x y)∧Below w.heap.size w w':=by
 have hlt:=hy.lt;have HL:Hid (OpsAt w b off l):=hl;have HY:Hid (OpAt w blk 0 y):=hy;clear hl hy;go_enter Tryz.func139,Tryz.ntmps139
 go_wp2
 go_loopw [8] (fun i wr=>∃k:Nat,k≤l.length∧i=.int .i64 k∧(l.take k).any (fun x=>shareB x y)=false∧Below w.heap.size w wr) (fun i _=>l.length - (intOf i).toNat)
 case atStart=>exact⟨0,Nat.zero_le _,rfl,rfl,Below.refl _ _⟩
 case round=>
  obtain⟨k,hk,rfl,ha,hnx⟩:=hrel;have HA:Hid ((l.take k).any (fun x=>shareB x y)=false):=ha;clear ha;by_cases hkl:k < l.length
  ·obtain⟨c0,c1,c2,c3,c4,c5,c6,c7⟩:=(HL.out k hkl).below hb hnx;go_wp2_with fail
   refine(clo47 l[k] y blk wr (HY.out.below hlt hnx)).mono ?_;cases hs:shareB l[k] y
   ·rintro e w1 ⟨rfl,hb1⟩;have R1:Hid ((l.take (k+1)).any (fun x=>shareB x y)=false):=any_take_succ l _ k hkl HA.out hs;have R2:Hid (Below w.heap.size w w1):=belJ hnx hb1;clear hs;go_wp2
    go_roundw
    case rel=>exact⟨k+1,by omega,by go_num,R1.out,R2.out⟩
    case measure=>simp[intOf];omega
   ·rintro e w1 ⟨rfl,hb1⟩;have R1:Hid (l.any (fun x=>shareB x y)=true):=any_of l _ k hkl hs;have R2:Hid (Below w.heap.size w w1):=belJ hnx hb1;clear hs;go_wp2;go_ret;exact⟨_,rfl,by rw[R1.out];simp,R2.out⟩
  ·have R1:Hid (l.any (fun x=>shareB x y)=false):=by
    have h:=HA.out;rw[List.take_of_length_le (by omega)] at h;exact h
   go_wp2;go_ret;exact⟨_,rfl,by rw[R1.out];rfl,hnx⟩
set_option maxHeartbeats 400000 in
theorem contains47 (l:List Opn) (y:Opn) (b off cap blk:Nat) (w:World) (hlen:l.length≤60) (hl:OpsAt w b off l) (hb:b < w.heap.size) (hy:OpAt w blk 0 y):
  Calls Tryz.prog 79 #[.slice (some ⟨b,off,none⟩) l.length cap,.func (.func 201) #[] #[.pointer (some ⟨blk,0,none⟩)]] w fun e w'=>e=.returned (.bool (l.any (fun x=>shareB x y)))∧Below w.heap.size w w':=by
 go_enter Tryz.func79,Tryz.ntmps79
 go_wp2_with fail
 refine(index47 l y b off cap blk w hlen hl hb hy).mono ?_;rintro e w1 ⟨i,rfl,hi,hb1⟩;have HI:Hid (decide (0≤i)=l.any (fun x=>shareB x y)):=hi;clear hi;go_wp2;all_goals
  go_ret;refine⟨?_,hb1⟩;rw[←HI.out]
  simp_all
set_option maxHeartbeats 1000000 in
theorem index49 (l:List Opn) (y:Opn) (b off cap blk:Nat) (w:World) (hlen:l.length≤60) (hl:OpsAt w b off l) (hb:b < w.heap.size) (hy:OpAt w blk 0 y):
  Calls Tryz.prog 139 #[.slice (some ⟨b,off,none⟩) l.length cap,.func (.func 203) #[] #[.pointer (some ⟨blk,0,none⟩)]] w fun e w'=>∃i:Int,e=.returned (.int .i64 i)∧decide (0≤i)=l.any (fun x=>clashB x y)∧Below w.heap.size w w':=by
 have hlt:=hy.lt;have HL:Hid (OpsAt w b off l):=hl;have HY:Hid (OpAt w blk 0 y):=hy;clear hl hy;go_enter Tryz.func139,Tryz.ntmps139
 go_wp2
 go_loopw [8] (fun i wr=>∃k:Nat,k≤l.length∧i=.int .i64 k∧(l.take k).any (fun x=>clashB x y)=false∧Below w.heap.size w wr) (fun i _=>l.length - (intOf i).toNat)
 case atStart=>exact⟨0,Nat.zero_le _,rfl,rfl,Below.refl _ _⟩
 case round=>
  obtain⟨k,hk,rfl,ha,hnx⟩:=hrel;have HA:Hid ((l.take k).any (fun x=>clashB x y)=false):=ha;clear ha;by_cases hkl:k < l.length
  ·obtain⟨c0,c1,c2,c3,c4,c5,c6,c7⟩:=(HL.out k hkl).below hb hnx;go_wp2_with fail
   refine(clo49 l[k] y blk wr (HY.out.below hlt hnx)).mono ?_;cases hs:clashB l[k] y
   ·rintro e w1 ⟨rfl,hb1⟩;have R1:Hid ((l.take (k+1)).any (fun x=>clashB x y)=false):=any_take_succ l _ k hkl HA.out hs;have R2:Hid (Below w.heap.size w w1):=belJ hnx hb1;clear hs;go_wp2
    go_roundw
    case rel=>exact⟨k+1,by omega,by go_num,R1.out,R2.out⟩
    case measure=>simp[intOf];omega
   ·rintro e w1 ⟨rfl,hb1⟩;have R1:Hid (l.any (fun x=>clashB x y)=true):=any_of l _ k hkl hs;have R2:Hid (Below w.heap.size w w1):=belJ hnx hb1;clear hs;go_wp2;go_ret;exact⟨_,rfl,by rw[R1.out];simp,R2.out⟩
  ·have R1:Hid (l.any (fun x=>clashB x y)=false):=by
    have h:=HA.out;rw[List.take_of_length_le (by omega)] at h;exact h
   go_wp2;go_ret;exact⟨_,rfl,by rw[R1.out];rfl,hnx⟩
set_option maxHeartbeats 400000 in
theorem contains49 (l:List Opn) (y:Opn) (b off cap blk:Nat) (w:World) (hlen:l.length≤60) (hl:OpsAt w b off l) (hb:b < w.heap.size) (hy:OpAt w blk 0 y):
  Calls Tryz.prog 79 #[.slice (some ⟨b,off,none⟩) l.length cap,.func (.func 203) #[] #[.pointer (some ⟨blk,0,none⟩)]] w fun e w'=>e=.returned (.bool (l.any (fun x=>clashB x y)))∧Below w.heap.size w w':=by
 go_enter Tryz.func79,Tryz.ntmps79
 go_wp2_with fail
 refine(index49 l y b off cap blk w hlen hl hb hy).mono ?_;rintro e w1 ⟨i,rfl,hi,hb1⟩;have HI:Hid (decide (0≤i)=l.any (fun x=>clashB x y)):=hi;clear hi;go_wp2;all_goals
  go_ret;refine⟨?_,hb1⟩;rw[←HI.out]
  simp_all
open Go.RowKit
structure NumAt (w : World) (g off : Nat) (x : Int) : Prop where
 cell:w.cell? ⟨g,off,none⟩=some (.int .i64 x)
 fz:w.frozen? ⟨g,off,none⟩=false
 lt:g < w.heap.size
theorem NumAt.alloc {w:World} {g off:Nat} {x:Int} (h:NumAt w g off x) (o:Obj):NumAt (w.alloc o) g off x:=
 ⟨(World.grownBy_alloc w o none).cell h.cell (by simp),by
  have e:=(World.grownBy_alloc w o none).block g h.lt (by simp);exact(World.frozen?_of_block (a:=⟨g,off,none⟩) e).trans h.fz,Nat.lt_of_lt_of_le h.lt (World.grownBy_alloc w o none).size⟩
theorem RowAt.num {w:World} {base g off cap:Nat} {x:Int} (h:RowAt w base (.slice (some ⟨g,off,none⟩) 1 cap) [x]):NumAt w g off x:=by
 rcases h with ⟨h,_⟩ | ⟨g',off',cap',cur,e,hb,hg,h1,h2,h3,h4⟩
 ·cases h
 ·obtain⟨⟨rfl,rfl⟩,_,rfl⟩:(g=g'∧off=off')∧1= [x].length∧cap=cap':=by simpa using e
  exact⟨h4 0 (by simp),unfrozen_of_heap hg _,lt_of_heap hg⟩
theorem RowAt.write {w:World} {base g off cap:Nat} {x:Int} (h:RowAt w base (.slice (some ⟨g,off,none⟩) 1 cap) [x]) (y:Int):RowAt (w.setCell ⟨g,off,none⟩ (.int .i64 y)) base (.slice (some ⟨g,off,none⟩) 1 cap) [y]:=by
 have hn:=h.num;rcases h with ⟨h,_⟩ | ⟨g',off',cap',cur,e,hb,hg,h1,h2,h3,h4⟩
 ·cases h
 ·obtain⟨⟨rfl,rfl⟩,_,rfl⟩:(g=g'∧off=off')∧1= [x].length∧cap=cap':=by simpa using e
  refine rowAt_put hb (heap_setCell hg _ _) (by simpa using h1) h2 h3 (fun j hj=>?_) rfl;obtain rfl:j=0:=by simp at hj;omega
  simpa using World.cell?_setCell_same _ _ _ hn.cell
set_option maxHeartbeats 1000000 in
theorem callRegister_any (x:Int) (op:Opn) (g off:Nat) (w:World) (h:NumAt w g off x):
  Calls Tryz.prog 205 #[.pointer (some ⟨g,off,none⟩),op.agg] w fun e w'=>e=.returned (.int .i64 (regM x op.d op.a op.b).2)∧
   ∃w1,w.grownBy w1 none∧((regM x op.d op.a op.b).1=x∧w'=w1∨w'=w1.setCell ⟨g,off,none⟩ (.int .i64 (regM x op.d op.a op.b).1)):=by
 obtain⟨c1,f1,_⟩:=h.alloc op.obj;have hgr:=World.grownBy_alloc w op.obj none;unfold Opn.obj at c1 f1 hgr;unfold Opn.agg;cases h2:(op.d==2)
 ·have n2:op.d≠2:=by simpa using h2
  cases h3:(op.d==3)
  ·have n3:op.d≠3:=by simpa using h3
   have e:regM x op.d op.a op.b=(x,x):=by simp[regM,n2,n3]
   rw[e];clear e h n2 n3;go_enter Tryz.func205,Tryz.ntmps205
   go_wp2;go_ret;exact⟨rfl,_,hgr,.inl ⟨trivial,rfl⟩⟩
  ·have n3:op.d=3:=by simpa using h3
   cases h4:(x != op.a)
   ·have n4:x=op.a:=by simpa using h4
    have e:regM x op.d op.a op.b=(op.b,1):=by simp[regM,n3,n4]
    rw[e];clear e h n2 n3 n4;go_enter Tryz.func205,Tryz.ntmps205
    go_wp2_with fail
    go_region
    go_wp2;go_ret;exact⟨rfl,_,hgr.trans (grown_drew _ _),.inr rfl⟩
   ·have n4:x≠op.a:=by simpa using h4
    have e:regM x op.d op.a op.b=(x,0):=by simp[regM,n3,n4]
    rw[e];clear e h n2 n3 n4;go_enter Tryz.func205,Tryz.ntmps205
    go_wp2_with fail
    go_region
    go_wp2;go_ret;exact⟨rfl,_,hgr.trans (grown_drew _ _),.inl ⟨trivial,rfl⟩⟩
 ·have n2:op.d=2:=by simpa using h2
  have e:regM x op.d op.a op.b=(op.a,0):=by simp[regM,n2]
  rw[e];clear e h n2;go_enter Tryz.func205,Tryz.ntmps205
  go_wp2;go_ret;exact⟨rfl,_,hgr,.inr rfl⟩
set_option maxHeartbeats 1000000 in
theorem callCounter_any (x:Int) (op:Opn) (g off:Nat) (w:World) (h:NumAt w g off x):
  Calls Tryz.prog 206 #[.pointer (some ⟨g,off,none⟩),op.agg] w fun e w'=>e=.returned (.int .i64 (cntM x op.d op.a).2)∧
   ∃w1,w.grownBy w1 none∧((cntM x op.d op.a).1=x∧w'=w1∨w'=w1.setCell ⟨g,off,none⟩ (.int .i64 (cntM x op.d op.a).1)):=by
 obtain⟨c1,f1,_⟩:=h.alloc op.obj;have hgr:=World.grownBy_alloc w op.obj none;unfold Opn.obj at c1 f1 hgr;unfold Opn.agg;cases h2:(op.d==4)
 ·have n2:op.d≠4:=by simpa using h2
  have e:cntM x op.d op.a=(x,x):=by simp[cntM,n2]
  rw[e];clear e h n2;go_enter Tryz.func206,Tryz.ntmps206
  go_wp2;go_ret;exact⟨rfl,_,hgr,.inl ⟨trivial,rfl⟩⟩
 ·have n2:op.d=4:=by simpa using h2
  have e:cntM x op.d op.a=(wrap64 (x+op.a),wrap64 (x+op.a)):=by simp[cntM,n2]
  rw[e];clear e h n2;go_enter Tryz.func206,Tryz.ntmps206
  go_wp2_with fail
  go_region
  have c2:=World.cell?_setCell_same _ ⟨g,off,none⟩ (.int .i64 (wrap64 (x+op.a))) (show (w.alloc (.cells #[.int .i64 op.p,.int .i64 op.k,.int .i64 op.d,.int .i64 op.a,.int .i64 op.b,.int .i64 op.r,.int .i64 op.c,.int .i64 op.e] 157)).drew.cell? _=_ from c1);go_wp2;go_ret;exact⟨rfl,_,hgr.trans (grown_drew _ _),.inr rfl⟩
set_option maxHeartbeats 1000000 in
theorem callMutex_any (x:Int) (op:Opn) (g off:Nat) (w:World) (h:NumAt w g off x):
  Calls Tryz.prog 210 #[.pointer (some ⟨g,off,none⟩),op.agg] w fun e w'=>e=.returned (.bool (mutM x op.d).isSome)∧
   ∃w1,w.grownBy w1 none∧(mutM x op.d=none∧w'=w1∨∃y,mutM x op.d=some y∧w'=w1.setCell ⟨g,off,none⟩ (.int .i64 y)):=by
 obtain⟨c1,f1,_⟩:=h.alloc op.obj;have hgr:=World.grownBy_alloc w op.obj none;unfold Opn.obj at c1 f1 hgr;unfold Opn.agg;cases h2:(op.d==12)
 ·have n2:op.d≠12:=by simpa using h2
  cases h3:(x != 0)
  ·have n3:x=0:=by simpa using h3
   have e:mutM x op.d=some 1:=by simp[mutM,n2,n3]
   rw[e];clear e h n2 n3;go_enter Tryz.func210,Tryz.ntmps210
   go_wp2;go_ret;exact⟨rfl,_,hgr,.inr ⟨1,rfl,rfl⟩⟩
  ·have n3:x≠0:=by simpa using h3
   have e:mutM x op.d=none:=by simp[mutM,n2,n3]
   rw[e];clear e h n2 n3;go_enter Tryz.func210,Tryz.ntmps210
   go_wp2;go_ret;exact⟨rfl,_,hgr,.inl ⟨trivial,rfl⟩⟩
 ·have n2:op.d=12:=by simpa using h2
  cases h3:(x != 1)
  ·have n3:x=1:=by simpa using h3
   have e:mutM x op.d=some 0:=by simp[mutM,n2,n3]
   rw[e];clear e h n2 n3;go_enter Tryz.func210,Tryz.ntmps210
   go_wp2;go_ret;exact⟨rfl,_,hgr,.inr ⟨0,rfl,rfl⟩⟩
  ·have n3:x≠1:=by simpa using h3
   have e:mutM x op.d=none:=by simp[mutM,n2,n3]
   rw[e];clear e h n2 n3;go_enter Tryz.func210,Tryz.ntmps210
   go_wp2;go_ret;exact⟨rfl,_,hgr,.inl ⟨trivial,rfl⟩⟩
open Go.RowKit
structure Turned (w : World) (base : Nat) (v : Value) (w' : World) (v' : Value) (st' : List Int) : Prop where
 row:RowAt w' base v' st'
 grown:w.grownBy w' v.ownBlock
 own:∀k,v'.ownBlock=some k→v.ownBlock=some k∨w.heap.size≤k
theorem Turned.behind {w w1:World} {base:Nat} {v:Value} {w':World} {v':Value} {st':List Int} (h:Turned w1 base v w' v' st') (hg:w.grownBy w1 none):Turned w base v w' v' st':=
 ⟨h.row,(hg.but _).trans h.grown,fun k hk=>(h.own k hk).imp id (fun e=>Nat.le_trans hg.size e)⟩
theorem RowAt.new {w w':World} {base:Nat} {v:Value} {st:List Int} (h:RowAt w base v st) (hg:w.grownBy w' none):RowAt w' base v st:=h.kept hg (Classical.em _)
theorem turned_same {w:World} {base:Nat} {v:Value} {st:List Int} (h:RowAt w base v st):Turned w base v w v st:=⟨h,grown_refl _ _,fun _ hk=>.inl hk⟩
theorem info3:(Tryz.prog.info? 3).map (fun i=>(i.zero,i.size,i.bytes))=some (some (Value.int .i64 0),1,8):=by kernel_rfl
section
variable {w : World}
theorem wpList_append_row {ops:Array Oper} {rest:List Oper} {o:Oper} {a:Act} {Q:Exit→Act→World→Prop} (hgd:o.guard=none) (s x:Operand)
  (ho:o.op=.call {callee:=.builtin .append,args:=#[s,x],argTypes:=#[26,26]})
  (base:Nat) (v:Value) (st:List Int) (hs:a.eval s=v) (hrow:RowAt w base v st)
  (B c:Nat) (n:Int) (hx:a.eval x=.slice (some ⟨B,0,none⟩) 1 c) (hn:w.cell? ⟨B,0,none⟩=some (.int .i64 n))
  (hlen:st.length≤100000) (hbase:base≤w.heap.size)
  (h:∀v' w',Turned w base v w' v' (st++ [n])→wpList Tryz.prog ops Q rest (a.put o.dst v') w'):wpList Tryz.prog ops Q (o::rest) a w:=by
 obtain⟨i,hi,hz,hsz,hby⟩:=info_parts info3;have hnews:∀j u,[Value.int .i64 n][j]?=some u→w.cell? ((⟨B,0,none⟩:Addr).add j)=some u:=by
  intro j u hj
  match j,hj with
  | 0,hj=>simp at hj;subst hj;simpa [Addr.add] using hn
 have hmk:∀v' w',w'.ownsRow w.heap.size 3 1 v' (st.length+1) (st.map (Value.int .i64)++ [.int .i64 n])→w.grownBy w' none→Turned w base v w' v' (st++ [n]):=by
  intro v' w' ho' hg;have hr:RowAt w' w.heap.size v' (st++ [n]):=rowAt_owns (by simpa using ho');exact⟨hr.base hbase,hg.but _,fun k hk=>.inr (hr.lt k hk).1⟩
 rcases hrow with ⟨rfl,rfl⟩ | ⟨g,off,cap,cur,rfl,hb,hg,h1,h2,h3,h4⟩
 ·refine wpList_append_grows w hgd s x 26 ho 3 i _ 1 8 Tryz.underlying26 hi hz hsz hby rfl (by decide) none 0 0 [] hs (fun _=>⟨rfl,rfl⟩) rfl (fun b hb=>by cases hb) ⟨B,0,none⟩ 1 c [.int .i64 n] hx rfl hnews (by simp[Value.oneCell']) (by decide) (by decide) (by decide) ?_;intro v' w' ho' hg';exact h v' w' (hmk v' w' ho' hg')
 ·by_cases hroom:st.length+1≤cap
  ·refine wpList_append_room1 w hgd s x 26 26 ho 3 (.int .i64 0) 8 Tryz.underlying26 info3 g off st.length cap hs _ hx 1 [.int .i64 n]
    (Src.ofSlice w Tryz.underlying26 ⟨B,0,none⟩ 1 c [.int .i64 n] (by simp) hnews (by simp[Value.oneCell'])) hroom
    (fun j hj=>some_of_heap hg (by simp at hj;omega)) (fun j _=>unfrozen_of_heap hg _) ?_
   have hc:(w.setCells g (off+st.length) [.int .i64 n]).cell? ⟨g,off+st.length,none⟩=some (.int .i64 n):=by
    simpa using World.cell?_setCells_in g [.int .i64 n] (off+st.length) w (fun j hj=>some_of_heap hg (by simp at hj;omega)) 0 (by simp)
   refine h _ _ ⟨rowAt_put hb (heap_setCells _ _ _ _ hg) (by simpa using hroom) h2 h3 (fun j hj=>?_) (by simp),grown_setCells _ _ _ _,fun k hk=>.inl hk⟩;by_cases hj':j < st.length
   ·rw[List.getElem_append_left hj',World.cell?_setCells_out g _ _ _ _ (fun _ _=>.inl (by show off+j < off+st.length;omega))];exact h4 j hj'
   ·obtain rfl:j=st.length:=by simp at hj;omega
    rw[hc];simp
  ·refine wpList_append_grows w hgd s x 26 ho 3 i _ 1 8 Tryz.underlying26 hi hz hsz hby rfl (by decide) (some ⟨g,off,none⟩) st.length cap (st.map (Value.int .i64)) hs (fun e=>by cases e) (by simp) (fun b hb j u hu=>?_) ⟨B,0,none⟩ 1 c [.int .i64 n] hx rfl hnews (by simp[Value.oneCell']) (by omega) (by unfold maxLen;omega) (by omega) ?_
   ·obtain rfl:=Option.some.inj hb;have hj:j < st.length:=by
     have:=(List.getElem?_eq_some_iff.1 hu).1
     simpa using this
    rw[List.getElem?_map,List.getElem?_eq_getElem hj] at hu;simp at hu;subst hu;rw[Addr.add_lit];exact h4 j hj
   ·intro v' w' ho' hg';exact h v' w' (hmk v' w' ho' hg')
end
theorem queM_push {st:List Int} {k a:Int} (h:k=9):queM st k a=(st++ [a],0):=by simp[queM,h]
theorem queM_none {k a:Int} (h:k≠9):queM [] k a=([],-1):=by simp[queM,h]
theorem queM_pop {st:List Int} {k a:Int} (h:k≠9) (h0:0 < st.length):queM st k a=(st.drop 1,st[0]):=by
 cases st with
 | nil=>simp at h0
 | cons x r=>simp[queM,h]
theorem staM_push {st:List Int} {k a:Int} (h:k=9):staM st k a=(st++ [a],0):=by simp[staM,h]
theorem staM_none {k a:Int} (h:k≠9):staM [] k a=([],-1):=by simp[staM,h]
theorem staM_pop {st:List Int} {k a:Int} (h:k≠9) (h0:0 < st.length):staM st k a=(st.take (st.length - 1),st[st.length - 1]):=by
 have:st≠ []:=fun e=>by simp[e] at h0
 simp[staM,h,this,List.getD_eq_getElem?_getD,List.getElem?_eq_getElem (show st.length - 1 < st.length by omega)]
theorem RowAt.drop1 {w:World} {base g off cap:Nat} {st:List Int} (h:RowAt w base (.slice (some ⟨g,off,none⟩) st.length cap) st) (h0:0 < st.length):
  RowAt w base (.slice (if cap=1 then some ⟨g,off,none⟩ else some ⟨g,off+1,none⟩) (st.length - 1) (cap - 1)) (st.drop 1):=by
 rcases h with ⟨h,_⟩ | ⟨g',off',cap',cur,e,hb,hg,h1,h2,h3,h4⟩
 ·cases h
 ·obtain⟨⟨rfl,rfl⟩,rfl⟩:(g=g'∧off=off')∧cap=cap':=by simpa using e
  by_cases hc:cap=1
  ·rw[if_pos hc];refine rowAt_put hb ⟨cur,hg,rfl⟩ (by simp;omega) (by omega) (by omega) (fun j hj=>?_) (by simp);simp at hj;omega
  ·rw[if_neg hc];refine rowAt_put hb ⟨cur,hg,rfl⟩ (by simp;omega) (by omega) (by omega) (fun j hj=>?_) (by simp);have:=h4 (1+j) (by simp at hj;omega);rw[List.getElem_drop,show off+1+j=off+(1+j) by omega];exact this
theorem RowAt.init {w:World} {base g off cap:Nat} {st:List Int} (h:RowAt w base (.slice (some ⟨g,off,none⟩) st.length cap) st):
  RowAt w base (.slice (some ⟨g,off,none⟩) (st.length - 1) cap) (st.take (st.length - 1)):=by
 rcases h with ⟨h,_⟩ | ⟨g',off',cap',cur,e,hb,hg,h1,h2,h3,h4⟩
 ·cases h
 ·obtain⟨⟨rfl,rfl⟩,rfl⟩:(g=g'∧off=off')∧cap=cap':=by simpa using e
  refine rowAt_put hb ⟨cur,hg,rfl⟩ (by simp;omega) (by omega) (by omega) (fun j hj=>?_) (by simp);rw[List.getElem_take];exact h4 j (by simp at hj;omega)
set_option maxRecDepth 100000 in
set_option maxHeartbeats 1000000 in
theorem callQueue_push (st:List Int) (op:Opn) (v:Value) (base:Nat) (w:World) (h:RowAt w base v st) (hlen:st.length≤100000) (hbase:base≤w.heap.size) (hd:op.d=9):
  Calls Tryz.prog 208 #[v,op.agg] w fun e w'=>∃v',e=.returned (.tuple #[v',.int .i64 (queM st op.d op.a).2])∧Turned w base v w' v' (queM st op.d op.a).1:=by
 rw[queM_push hd];have h2:(op.d==9)=true:=by simpa using hd
 have hgr:=World.grownBy_alloc w op.obj none;unfold Opn.obj at hgr;unfold Opn.agg;have H:=hideIt h;clear h hd;go_enter Tryz.func208,Tryz.ntmps208
 go_wp2_with (at_builtin;refine wpList_append_row rfl _ _ rfl base v st rfl ((H.out.new hgr).new (World.grownBy_alloc _ (.cells #[.int .i64 op.a] 3) none)) (w.heap.size+1) 1 op.a rfl ?c1 hlen ?c2 ?_)
 case c1=>simp
 case c2=>simp;omega
 intro v' w' ht;have HT:=hideIt (ht.behind (hgr.trans (World.grownBy_alloc _ _ none)));clear ht;go_wp2;go_ret2;exact⟨_,rfl,HT.out⟩
set_option maxRecDepth 100000 in
set_option maxHeartbeats 1000000 in
theorem callStack_push (st:List Int) (op:Opn) (v:Value) (base:Nat) (w:World) (h:RowAt w base v st) (hlen:st.length≤100000) (hbase:base≤w.heap.size) (hd:op.d=9):
  Calls Tryz.prog 209 #[v,op.agg] w fun e w'=>∃v',e=.returned (.tuple #[v',.int .i64 (staM st op.d op.a).2])∧Turned w base v w' v' (staM st op.d op.a).1:=by
 rw[staM_push hd];have h2:(op.d==9)=true:=by simpa using hd
 have hgr:=World.grownBy_alloc w op.obj none;unfold Opn.obj at hgr;unfold Opn.agg;have H:=hideIt h;clear h hd;go_enter Tryz.func209,Tryz.ntmps209
 go_wp2_with (at_builtin;refine wpList_append_row rfl _ _ rfl base v st rfl ((H.out.new hgr).new (World.grownBy_alloc _ (.cells #[.int .i64 op.a] 3) none)) (w.heap.size+1) 1 op.a rfl ?c1 hlen ?c2 ?_)
 case c1=>simp
 case c2=>simp;omega
 intro v' w' ht;have HT:=hideIt (ht.behind (hgr.trans (World.grownBy_alloc _ _ none)));clear ht;go_wp2;go_ret2;exact⟨_,rfl,HT.out⟩
set_option maxHeartbeats 1000000 in
theorem callQueue_pop (st:List Int) (op:Opn) (v:Value) (base:Nat) (w:World) (h:RowAt w base v st) (hd:op.d≠9) (hlen:st.length≤100000):
  Calls Tryz.prog 208 #[v,op.agg] w fun e w'=>∃v',e=.returned (.tuple #[v',.int .i64 (queM st op.d op.a).2])∧Turned w base v w' v' (queM st op.d op.a).1:=by
 have h2:(op.d==9)=false:=by simpa using hd
 have hgr:=World.grownBy_alloc w op.obj none;have HR:=hideIt (h.new hgr);have HG:=hideIt hgr;unfold Opn.obj at HR HG;clear hgr;by_cases h0:st= []
 ·subst h0;rw[queM_none hd];obtain⟨a,cap,rfl,_⟩:=h.has;unfold Opn.agg;clear h hd;go_enter Tryz.func208,Tryz.ntmps208
  go_wp2;go_ret2;exact⟨_,rfl,(turned_same HR.out).behind HG.out⟩
 ·have hpos:0 < st.length:=List.length_pos_iff.2 h0;rw[queM_pop hd hpos];rcases h with ⟨_,h⟩ | ⟨g,off,cap,cur,rfl,hb,hg,h1,h2',h3,h4⟩
  ·exact absurd h h0
  have c1:(w.alloc op.obj).cell? ⟨g,off,none⟩=some (.int .i64 st[0]):=HG.out.cell (h4 0 hpos) (by simp);have hT:Hid (Turned w base (.slice (some ⟨g,off,none⟩) st.length cap) ((w.alloc op.obj).drew) (.slice (if cap=1 then some ⟨g,off,none⟩ else some ⟨g,off+1,none⟩) (st.length - 1) (cap - 1)) (st.drop 1)):=by
   refine⟨(HR.out.drop1 hpos).new (grown_drew _ _),(HG.out.trans (grown_drew _ _)).but _,fun k hk=>.inl ?_⟩
   revert hk
   split<;>exact fun hk=>hk
  have k1:(1:Int)≤(st.length:Int):=by omega
  have k2:(st.length:Int)≤(cap:Int):=by omega
  have k3:(0:Int) < (st.length:Int):=by omega
  have k4:((st.length:Int)==0)=false:=by simp;omega
  have k5:(1:Int)≤(cap:Int):=by omega
  have hcap:cap≤9223372036854775807:=by unfold maxLen at h3;omega
  unfold Opn.obj at c1 hT;unfold Opn.agg;clear hd h0 h4 hg h2' HR HG h3 hb;by_cases hc:cap=1
  ·subst hc;go_enter Tryz.func208,Tryz.ntmps208
   go_wp2_with fail
   go_region
   go_wp2;go_ret2;exact⟨_,rfl,by simpa [show st.length=1 by omega] using hT.out⟩
  ·go_enter Tryz.func208,Tryz.ntmps208
   go_wp2_with fail
   go_region
   go_wp2;go_ret2;exact⟨_,rfl,by simpa [hc] using hT.out⟩
set_option maxHeartbeats 1000000 in
theorem callStack_pop (st:List Int) (op:Opn) (v:Value) (base:Nat) (w:World) (h:RowAt w base v st) (hd:op.d≠9) (hlen:st.length≤100000):
  Calls Tryz.prog 209 #[v,op.agg] w fun e w'=>∃v',e=.returned (.tuple #[v',.int .i64 (staM st op.d op.a).2])∧Turned w base v w' v' (staM st op.d op.a).1:=by
 have h2:(op.d==9)=false:=by simpa using hd
 have hgr:=World.grownBy_alloc w op.obj none;have HR:=hideIt (h.new hgr);have HG:=hideIt hgr;unfold Opn.obj at HR HG;clear hgr;by_cases h0:st= []
 ·subst h0;rw[staM_none hd];obtain⟨a,cap,rfl,_⟩:=h.has;unfold Opn.agg;clear h hd;go_enter Tryz.func209,Tryz.ntmps209
  go_wp2;go_ret2;exact⟨_,rfl,(turned_same HR.out).behind HG.out⟩
 ·have hpos:0 < st.length:=List.length_pos_iff.2 h0;rw[staM_pop hd hpos];rcases h with ⟨_,h⟩ | ⟨g,off,cap,cur,rfl,hb,hg,h1,h2',h3,h4⟩
  ·exact absurd h h0
  have c1:(w.alloc op.obj).cell? ⟨g,off+(st.length - 1),none⟩=some (.int .i64 (st[st.length - 1]'(by omega))):=HG.out.cell (h4 (st.length - 1) (by omega)) (by simp);have hT:Hid (Turned w base (.slice (some ⟨g,off,none⟩) st.length cap) ((w.alloc op.obj).drew) (.slice (some ⟨g,off,none⟩) (st.length - 1) cap) (st.take (st.length - 1))):=
   ⟨HR.out.init.new (grown_drew _ _),(HG.out.trans (grown_drew _ _)).but _,fun k hk=>.inl hk⟩
  obtain⟨z,hz⟩:∃z,z=st[st.length - 1]'(by omega):=⟨_,rfl⟩;rw[←hz] at c1 ⊢;obtain⟨n,hn⟩:∃n,st.length=n+1:=⟨st.length - 1,by omega⟩;rw[hn] at c1 hT ⊢;rw[Nat.add_sub_cancel] at c1 hT ⊢;have k0:IntKind.i64.wrap (((n+1:Nat):Int) - 1)=(n:Int):=by rw[IntKind.wrap_i64];omega
  have k1:(0:Int)≤(n:Int):=by omega
  have k2:(n:Int) < ((n+1:Nat):Int):=by omega
  have k3:(n:Int)≤(cap:Int):=by omega
  have k4:decide ((n:Int) < 0)=false:=by simp
  have hcap:cap≤9223372036854775807:=by unfold maxLen at h3;omega
  unfold Opn.obj at c1 hT;unfold Opn.agg;clear hd h0 h4 hg h2' HR HG h3 hb hz;go_enter Tryz.func209,Tryz.ntmps209
  go_wp2_with fail
  go_region
  go_wp2;go_ret2;exact⟨_,rfl,by simpa using hT.out⟩
end Go.Proofs.YtjpklmighoondaaGreatDoor
namespace Go.Proofs.YtjpklmighoondaaGreatDoor
open Go.Shelf
def sl_ren:Go.Shelf.Ren:=⟨fun | 25=>246 | 31=>274 | 32=>275 | 37=>137 | 21=>247 | 27=>276 | 28=>277 | 35=>287 | 39=>292 | 23=>248 | 15=>291 | n=>n,fun | 22=>26 | 40=>70 | 0=>0 | 3=>3 | 4=>4 | n=>n,fun | n=>n⟩
theorem laySearch:Go.Proofs.Lays2.n25 Tryz.prog sl_ren:= {
 mixed:=by kernel_rfl
 f25:=Tryz.func246.trans (congrArg some (by kernel_rfl))
 f31:=Tryz.func274.trans (congrArg some (by kernel_rfl))
 f32:=Tryz.func275.trans (congrArg some (by kernel_rfl))
 f37:=Tryz.func137.trans (congrArg some (by kernel_rfl))
 t0:=Tryz.underlying0
 a0:=Tryz.isAgg0
 z0:=Tryz.sizeOf0
 v0:=Tryz.zeroValue0
 t3:=Tryz.underlying3
 a3:=Tryz.isAgg3
 z3:=Tryz.sizeOf3
 v3:=Tryz.zeroValue3
 t4:=Tryz.underlying4
 a4:=Tryz.isAgg4
 z4:=Tryz.sizeOf4
 v4:=Tryz.zeroValue4
 t22:=Tryz.underlying26
 a22:=Tryz.isAgg26
 z22:=Tryz.sizeOf26
 v22:=Tryz.zeroValue26
 t40:=Tryz.underlying70
 a40:=Tryz.isAgg70
 z40:=Tryz.sizeOf70
 v40:=Tryz.zeroValue70
}
theorem layInsert:Go.Proofs.Lays2.n21 Tryz.prog sl_ren:= {
 mixed:=by kernel_rfl
 f21:=Tryz.func247.trans (congrArg some (by kernel_rfl))
 f27:=Tryz.func276.trans (congrArg some (by kernel_rfl))
 f28:=Tryz.func277.trans (congrArg some (by kernel_rfl))
 f35:=Tryz.func287.trans (congrArg some (by kernel_rfl))
 f39:=Tryz.func292.trans (congrArg some (by kernel_rfl))
 t0:=Tryz.underlying0
 a0:=Tryz.isAgg0
 z0:=Tryz.sizeOf0
 v0:=Tryz.zeroValue0
 t3:=Tryz.underlying3
 a3:=Tryz.isAgg3
 z3:=Tryz.sizeOf3
 v3:=Tryz.zeroValue3
 t4:=Tryz.underlying4
 a4:=Tryz.isAgg4
 z4:=Tryz.sizeOf4
 v4:=Tryz.zeroValue4
 t22:=Tryz.underlying26
 a22:=Tryz.isAgg26
 z22:=Tryz.sizeOf26
 v22:=Tryz.zeroValue26
 i3:=by kernel_rfl
}
theorem layDelete:Go.Proofs.Lays2.n23 Tryz.prog sl_ren:= {
 mixed:=by kernel_rfl
 f23:=Tryz.func248.trans (congrArg some (by kernel_rfl))
 t0:=Tryz.underlying0
 a0:=Tryz.isAgg0
 z0:=Tryz.sizeOf0
 v0:=Tryz.zeroValue0
 t3:=Tryz.underlying3
 a3:=Tryz.isAgg3
 z3:=Tryz.sizeOf3
 v3:=Tryz.zeroValue3
 t4:=Tryz.underlying4
 a4:=Tryz.isAgg4
 z4:=Tryz.sizeOf4
 v4:=Tryz.zeroValue4
 t22:=Tryz.underlying26
 a22:=Tryz.isAgg26
 z22:=Tryz.sizeOf26
 v22:=Tryz.zeroValue26
 i3:=by kernel_rfl
}
theorem layClone:Go.Proofs.Lays2.n15 Tryz.prog sl_ren:= {
 mixed:=by kernel_rfl
 f15:=Tryz.func291.trans (congrArg some (by kernel_rfl))
 t3:=Tryz.underlying3
 a3:=Tryz.isAgg3
 z3:=Tryz.sizeOf3
 v3:=Tryz.zeroValue3
 t4:=Tryz.underlying4
 a4:=Tryz.isAgg4
 z4:=Tryz.sizeOf4
 v4:=Tryz.zeroValue4
 t22:=Tryz.underlying26
 a22:=Tryz.isAgg26
 z22:=Tryz.sizeOf26
 v22:=Tryz.zeroValue26
 i3:=by kernel_rfl
}
end Go.Proofs.YtjpklmighoondaaGreatDoor
