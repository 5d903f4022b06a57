/-
  The program's store, walked: New.
  The program's store, walked: spread.
-/
import Derived.Test.YtjpklmighoondaaGreatDoorMnZ
import Derived.Test.YtjpklmighoondaaGreatDoorSwMZ
namespace Go.Proofs.YtjpklmighoondaaGreatDoor.St
open Go.RowKit
theorem infoN:(Tryz.prog.info? 115).map (fun i=>(i.zero,i.size,i.bytes))=some (some (.agg #[.int .i64 0,.int .i64 0,.int .i64 0,.int .i64 0,.int .i64 0,.int .i64 0,.int .i64 0,.int .i64 0,.int .i64 0,.int .i64 0,.int .i64 0,.int .i64 0,.int .i64 0,.int .i64 0,.int .i64 0,.int .i64 0,.int .i64 0,.int .i64 0,.int .i64 0,.int .i64 0,.int .i64 0,.int .i64 0,.int .i64 0,.int .i64 0]),24,192):=by kernel_rfl
theorem infoC:(Tryz.prog.info? 250).map (fun i=>(i.zero,i.size,i.bytes))=some (some (.agg #[.int .i64 0,.int .i64 0,.int .i64 0,.int .i64 0,.int .i64 0,.int .i64 0,.int .i64 0,.int .i64 0,.int .i64 0,.slice none 0 0,.int .i64 0,.int .i64 0,.int .i64 0]),13,120):=by kernel_rfl
def nodeZ (n:Nat):Array Value:=madeCells #[.int .i64 0,.int .i64 0,.int .i64 0,.int .i64 0,.int .i64 0,.int .i64 0,.int .i64 0,.int .i64 0,.int .i64 0,.int .i64 0,.int .i64 0,.int .i64 0,.int .i64 0,.int .i64 0,.int .i64 0,.int .i64 0,.int .i64 0,.int .i64 0,.int .i64 0,.int .i64 0,.int .i64 0,.int .i64 0,.int .i64 0,.int .i64 0] (n*24)
def clZ (n:Nat):Array Value:=madeCells #[.int .i64 0,.int .i64 0,.int .i64 0,.int .i64 0,.int .i64 0,.int .i64 0,.int .i64 0,.int .i64 0,.int .i64 0,.slice none 0 0,.int .i64 0,.int .i64 0,.int .i64 0] (n*13)
theorem made_nodes (w:World) (n:Nat) (hn:n≤60):(Instr.makeSlice 101 (.int .i64 (n:Int)) (.int .i64 (n:Int))).run Tryz.prog w=.ok (.slice (some ⟨w.heap.size,0,none⟩) n n) (w.alloc (.cells (nodeZ n) 115)):=by
 obtain⟨i,hi,hz,hs,hb⟩:=info_parts' infoN;have:=run_make (P:=Tryz.prog) w 101 115 i _ Tryz.underlying101 hi hz .i64 .i64 (n:Int) (n:Int) (by omega) (Int.le_refl _) (by rw[hb];omega) (by omega);rw[hs,Int.toNat_natCast] at this;exact this
theorem made_cls (w:World) (n:Nat) (hn:n≤60):(Instr.makeSlice 102 (.int .i64 (n:Int)) (.int .i64 (n:Int))).run Tryz.prog w=.ok (.slice (some ⟨w.heap.size,0,none⟩) n n) (w.alloc (.cells (clZ n) 250)):=by
 obtain⟨i,hi,hz,hs,hb⟩:=info_parts' infoC;have:=run_make (P:=Tryz.prog) w 102 250 i _ Tryz.underlying102 hi hz .i64 .i64 (n:Int) (n:Int) (by omega) (Int.le_refl _) (by rw[hb];omega) (by omega);rw[hs,Int.toNat_natCast] at this;exact this
theorem clZ_at (n:Nat) {i j:Nat} (hi:i < n) (hj:j < 13):(clZ n)[i*13+j]?=(#[.int .i64 0,.int .i64 0,.int .i64 0,.int .i64 0,.int .i64 0,.int .i64 0,.int .i64 0,.int .i64 0,.int .i64 0,.slice none 0 0,.int .i64 0,.int .i64 0,.int .i64 0]:Array Value)[j]?:=by
 unfold clZ madeCells;have h1:i*13+j < n*13:=by omega
 have h2:(i*13+j)%13=j:=by omega
 rw[Array.getElem?_map,Array.getElem?_range,if_pos h1];show some ((#[.int .i64 0,.int .i64 0,.int .i64 0,.int .i64 0,.int .i64 0,.int .i64 0,.int .i64 0,.int .i64 0,.int .i64 0,.slice none 0 0,.int .i64 0,.int .i64 0,.int .i64 0]:Array Value)[(i*13+j)%13]!)=_;rw[h2];have h3:j < (#[.int .i64 0,.int .i64 0,.int .i64 0,.int .i64 0,.int .i64 0,.int .i64 0,.int .i64 0,.int .i64 0,.int .i64 0,.slice none 0 0,.int .i64 0,.int .i64 0,.int .i64 0]:Array Value).size:=hj;rw[getElem!_pos _ j h3,Array.getElem?_eq_getElem h3]
def stZ (N C n k:Nat) (ask tell:Int) (back:Bool):Obj:=.cells #[.int .i64 (n:Int),.int .i64 (k:Int),.int .i64 ask,.int .i64 tell,.bool back,.slice none 0 0,.slice none 0 0,.slice (some ⟨N,0,none⟩) n n,.slice (some ⟨C,0,none⟩) k k,.slice none 0 0,.slice none 0 0] 110 (0,0)
structure NwAt (w W : World) (B N C n k : Nat) (ask tell : Int) (back : Bool) (m q : Nat) : Prop where
 bel:Below w.heap.size w W
 blk:W.heap[B]?=some (stZ N C n k ask tell back)
 nb:∃cur,W.heap[N]?=some (.cells cur 115 (0,0))∧cur.size=n*24
 nx:∀i j,i < n→j < 8→(i < m∨(i=m∧j < q))→W.cell? ⟨N,i*24+j*3,none⟩=some (.int .i64 0)∧W.cell? ⟨N,i*24+j*3+1,none⟩=some (.int .i64 (-1))∧W.cell? ⟨N,i*24+j*3+2,none⟩=some (.int .i64 0)
 cb:W.heap[C]?=some (.cells (clZ k) 250 (0,0))
 lo:w.heap.size≤B∧w.heap.size≤N∧w.heap.size≤C
 ne:B≠N∧C≠N∧B≠C
section
variable {w W W' : World} {B N C n k : Nat} {ask tell : Int} {back : Bool} {m q : Nat}
theorem NwAt.below (h:NwAt w W B N C n k ask tell back m q) (hb:Below W.heap.size W W'):NwAt w W' B N C n k ask tell back m q:=by
 obtain⟨cur,hc,hs⟩:=h.nb;have lN:=lt_of_heap hc;exact⟨belJ h.bel hb,(hb.block B (lt_of_heap h.blk)).trans h.blk,⟨cur,(hb.block N lN).trans hc,hs⟩,fun i j hi hj hm=>by
  obtain⟨a,b,c⟩:=h.nx i j hi hj hm;exact⟨(hb.cell (p:=⟨N,_,none⟩) lN).trans a,(hb.cell (p:=⟨N,_,none⟩) lN).trans b,(hb.cell (p:=⟨N,_,none⟩) lN).trans c⟩,(hb.block C (lt_of_heap h.cb)).trans h.cb,h.lo,h.ne⟩
theorem NwAt.next (h:NwAt w W B N C n k ask tell back m 8):NwAt w W B N C n k ask tell back (m+1) 0:=
 ⟨h.bel,h.blk,h.nb,fun i j hi hj hm=>h.nx i j hi hj (by omega),h.cb,h.lo,h.ne⟩
theorem NwAt.room (h:NwAt w W B N C n k ask tell back m q) {i:Nat} (hi:i < n*24):(∃v,W.cell? ⟨N,i,none⟩=some v)∧W.frozen? ⟨N,i,none⟩=false:=by
 obtain⟨cur,hc,hs⟩:=h.nb;exact⟨⟨cur[i],by rw[cell_of_row _ _ _ _ 115 _ hc,Array.getElem?_eq_getElem (by omega)]⟩,frozen_of_row _ _ _ _ 115 hc⟩
def set3 (W:World) (N o:Nat):World:=((W.setCell ⟨N,o,none⟩ (.int .i64 0)).setCell ⟨N,o+1,none⟩ (.int .i64 (-1))).setCell ⟨N,o+2,none⟩ (.int .i64 0)
theorem NwAt.put (h:NwAt w W B N C n k ask tell back m q) (hm:m < n) (hq:q < 8):NwAt w (set3 W N (m*24+q*3)) B N C n k ask tell back m (q+1):=by
 obtain⟨cur,hc,hs⟩:=h.nb;obtain⟨u1,e1,s1⟩:=heap_setCell hc (m*24+q*3) (.int .i64 0);obtain⟨u2,e2,s2⟩:=heap_setCell e1 (m*24+q*3+1) (.int .i64 (-1));obtain⟨u3,e3,s3⟩:=heap_setCell e2 (m*24+q*3+2) (.int .i64 0);have hoth:∀b,b≠N→(set3 W N (m*24+q*3)).heap[b]?=W.heap[b]?:=fun b hb=>((Below.heap_setCell _ ⟨N,_,none⟩ _ b hb).trans (Below.heap_setCell _ ⟨N,_,none⟩ _ b hb)).trans (Below.heap_setCell _ ⟨N,_,none⟩ _ b hb)
 have hcell:∀o,o≠m*24+q*3→o≠m*24+q*3+1→o≠m*24+q*3+2→(set3 W N (m*24+q*3)).cell? ⟨N,o,none⟩=W.cell? ⟨N,o,none⟩:=fun o h1 h2 h3=>by
  unfold set3;rw[World.cell?_setCell_other _ _ _ _ (offNe (Ne.symm h3)),World.cell?_setCell_other _ _ _ _ (offNe (Ne.symm h2)),World.cell?_setCell_other _ _ _ _ (offNe (Ne.symm h1))]
 refine⟨((h.bel.setCell (p:=⟨N,_,none⟩) h.lo.2.1 _).setCell (p:=⟨N,_,none⟩) h.lo.2.1 _).setCell (p:=⟨N,_,none⟩) h.lo.2.1 _,(hoth B h.ne.1).trans h.blk,⟨u3,e3,by omega⟩,fun i j hi hj hij=>?_,(hoth C h.ne.2.1).trans h.cb,h.lo,h.ne⟩;by_cases e:i=m∧j=q
 ·obtain⟨rfl,rfl⟩:=e;obtain⟨⟨v0,r0⟩,_⟩:=h.room (i:=i*24+j*3) (by omega);obtain⟨⟨v1,r1⟩,_⟩:=h.room (i:=i*24+j*3+1) (by omega);obtain⟨⟨v2,r2⟩,_⟩:=h.room (i:=i*24+j*3+2) (by omega);unfold set3;refine⟨?_,?_,?_⟩
  ·rw[World.cell?_setCell_other _ _ _ _ (offNe (by omega)),World.cell?_setCell_other _ _ _ _ (offNe (by omega))];exact World.cell?_setCell_same _ _ _ r0
  ·rw[World.cell?_setCell_other _ _ _ _ (offNe (by omega))];exact World.cell?_setCell_same _ _ _ ((World.cell?_setCell_other _ _ _ _ (offNe (by omega))).trans r1)
  ·exact World.cell?_setCell_same _ _ _ (((World.cell?_setCell_other _ _ _ _ (offNe (by omega))).trans (World.cell?_setCell_other _ _ _ _ (offNe (by omega)))).trans r2)
 ·obtain⟨a,b,c⟩:=h.nx i j hi hj (by omega);exact⟨(hcell _ (by omega) (by omega) (by omega)).trans a,(hcell _ (by omega) (by omega) (by omega)).trans b,(hcell _ (by omega) (by omega) (by omega)).trans c⟩
end
theorem NwAt.c7 {w W:World} {B N C n k:Nat} {ask tell:Int} {back:Bool} {m q:Nat} (h:NwAt w W B N C n k ask tell back m q):W.cell? ⟨B,7,none⟩=some (.slice (some ⟨N,0,none⟩) n n):=by rw[cell_of_row _ _ _ _ 110 _ h.blk];rfl
theorem nw_start1 {w W:World} (hb:Below w.heap.size w W) (n k:Nat) (ask tell:Int) (back:Bool):NwAt w (((W.alloc (.cells (nodeZ n) 115)).alloc (.cells (clZ k) 250)).alloc (stZ W.heap.size (W.heap.size+1) n k ask tell back)).drew (W.heap.size+1+1) W.heap.size (W.heap.size+1) n k ask tell back 0 0:=by
 have e1:=heap_alloc_new W (.cells (nodeZ n) 115);have e2:=heap_alloc_new (W.alloc (.cells (nodeZ n) 115)) (.cells (clZ k) 250);have e3:=heap_alloc_new ((W.alloc (.cells (nodeZ n) 115)).alloc (.cells (clZ k) 250)) (stZ W.heap.size (W.heap.size+1) n k ask tell back);have b2:=belA (Below.refl (W.alloc (.cells (nodeZ n) 115)).heap.size (W.alloc (.cells (nodeZ n) 115))) (.cells (clZ k) 250);have b3:=belA (Below.refl ((W.alloc (.cells (nodeZ n) 115)).alloc (.cells (clZ k) 250)).heap.size ((W.alloc (.cells (nodeZ n) 115)).alloc (.cells (clZ k) 250))) (stZ W.heap.size (W.heap.size+1) n k ask tell back);have s1:(W.alloc (.cells (nodeZ n) 115)).heap.size=W.heap.size+1:=by simp
 have s2:((W.alloc (.cells (nodeZ n) 115)).alloc (.cells (clZ k) 250)).heap.size=W.heap.size+1+1:=by simp
 rw[s1] at e2;rw[s2] at e3;have hs:=hb.size;exact⟨(belA (belA (belA hb _) _) _).drew,e3,⟨_,((b3.block _ (by omega)).trans (b2.block _ (by omega))).trans e1,by simp[nodeZ,size_madeCells]⟩,fun i j _ _ h=>absurd h (by omega),(b3.block _ (by omega)).trans e2,by omega,by omega⟩
theorem nw_start2 {w W:World} (hb:Below w.heap.size w W) (n k:Nat) (ask tell:Int) (back:Bool):NwAt w (((W.alloc (.cells (clZ k) 250)).alloc (.cells (nodeZ n) 115)).alloc (stZ (W.heap.size+1) W.heap.size n k ask tell back)).drew (W.heap.size+1+1) (W.heap.size+1) W.heap.size n k ask tell back 0 0:=by
 have e1:=heap_alloc_new W (.cells (clZ k) 250);have e2:=heap_alloc_new (W.alloc (.cells (clZ k) 250)) (.cells (nodeZ n) 115);have e3:=heap_alloc_new ((W.alloc (.cells (clZ k) 250)).alloc (.cells (nodeZ n) 115)) (stZ (W.heap.size+1) W.heap.size n k ask tell back);have b2:=belA (Below.refl (W.alloc (.cells (clZ k) 250)).heap.size (W.alloc (.cells (clZ k) 250))) (.cells (nodeZ n) 115);have b3:=belA (Below.refl ((W.alloc (.cells (clZ k) 250)).alloc (.cells (nodeZ n) 115)).heap.size ((W.alloc (.cells (clZ k) 250)).alloc (.cells (nodeZ n) 115))) (stZ (W.heap.size+1) W.heap.size n k ask tell back);have s1:(W.alloc (.cells (clZ k) 250)).heap.size=W.heap.size+1:=by simp
 have s2:((W.alloc (.cells (clZ k) 250)).alloc (.cells (nodeZ n) 115)).heap.size=W.heap.size+1+1:=by simp
 rw[s1] at e2;rw[s2] at e3;have hs:=hb.size;exact⟨(belA (belA (belA hb _) _) _).drew,e3,⟨_,(b3.block _ (by omega)).trans e2,by simp[nodeZ,size_madeCells]⟩,fun i j _ _ h=>absurd h (by omega),((b3.block _ (by omega)).trans (b2.block _ (by omega))).trans e1,by omega,by omega⟩
theorem checkC_ok {n k ask tell:Int} (h:checkC n k ask tell=0):(1≤n∧n≤7)∧(1≤k∧k≤8)∧(1≤ask∧ask≤n)∧1≤tell∧tell≤n:=by
 unfold checkC at h
 split at h
 ·cases h
 ·split at h
  ·cases h
  ·omega
set_option maxRecDepth 100000 in
set_option maxHeartbeats 4000000 in
theorem new_bad (n k ask tell:Int) (back:Bool) (w:World) (hc:checkC n k ask tell≠0):Calls Tryz.prog 19 #[.agg #[.int .i64 n,.int .i64 k,.int .i64 ask,.int .i64 tell,.bool back]] w fun e w'=>e=.returned (.tuple #[.pointer none,toldE (checkC n k ask tell)])∧Below w.heap.size w w':=by
 have HB:=hideIt (belA (Below.refl _ w) (.cells #[.int .i64 n,.int .i64 k,.int .i64 ask,.int .i64 tell,.bool back] 23));have HC:=hideIt (check_any n k ask tell back (w.alloc (.cells #[.int .i64 n,.int .i64 k,.int .i64 ask,.int .i64 tell,.bool back] 23)));obtain⟨c,hcc⟩:∃c,checkC n k ask tell=c:=⟨_,rfl⟩;rw[hcc] at HC hc ⊢;have he:toldE c=.iface 55 (.int .i64 c):=by unfold toldE;rw[if_neg hc]
 rw[he] at HC ⊢;clear he hcc hc;go_enter Tryz.func19,Tryz.ntmps19
 go_wp2_with fail
 refine HC.out.mono ?_;rintro e W2 ⟨rfl,hb⟩;have HB2:=hideIt (belJ HB.out hb);clear hb HC HB;go_wp2;go_ret2;exact⟨rfl,HB2.out⟩
set_option maxRecDepth 100000 in
set_option maxHeartbeats 8000000 in
theorem new_any (n k:Nat) (ask tell:Int) (back:Bool) (w:World) (hc:checkC (n:Int) (k:Int) ask tell=0):Calls Tryz.prog 19 #[.agg #[.int .i64 (n:Int),.int .i64 (k:Int),.int .i64 ask,.int .i64 tell,.bool back]] w fun e w'=>∃B N C,e=.returned (.tuple #[.pointer (some ⟨B,0,none⟩),.nilIface])∧NwAt w w' B N C n k ask tell back n 0:=by
 obtain⟨hn,hk,_⟩:=checkC_ok hc;have HC:=hideIt (check_any (n:Int) (k:Int) ask tell back (w.alloc (.cells #[.int .i64 (n:Int),.int .i64 (k:Int),.int .i64 ask,.int .i64 tell,.bool back] 23)));rw[hc] at HC;clear hc;have HB:=hideIt (belA (Below.refl _ w) (.cells #[.int .i64 (n:Int),.int .i64 (k:Int),.int .i64 ask,.int .i64 tell,.bool back] 23));have hnew:=heap_alloc_new w (.cells #[.int .i64 (n:Int),.int .i64 (k:Int),.int .i64 ask,.int .i64 tell,.bool back] 23);have hz:toldE 0=.nilIface:=rfl;rw[hz] at HC;have HW:=hideIt hnew;clear hz hnew;have mkN:∀Z,(Instr.makeSlice 101 (.int .i64 (n:Int)) (.int .i64 (n:Int))).run Tryz.prog Z=.ok (.slice (some ⟨Z.heap.size,0,none⟩) n n) (Z.alloc (.cells (nodeZ n) 115)):=fun Z=>made_nodes Z n (by omega)
 have mkC:∀Z,(Instr.makeSlice 102 (.int .i64 (k:Int)) (.int .i64 (k:Int))).run Tryz.prog Z=.ok (.slice (some ⟨Z.heap.size,0,none⟩) k k) (Z.alloc (.cells (clZ k) 250)):=fun Z=>made_cls Z k (by omega)
 go_enter Tryz.func19,Tryz.ntmps19
 go_wp2_with fail
 refine HC.out.mono ?_;rintro e W1 ⟨rfl,hb⟩;have HB1:=hideIt (belJ HB.out hb);have hblk:W1.heap[w.heap.size]?=some (.cells #[.int .i64 (n:Int),.int .i64 (k:Int),.int .i64 ask,.int .i64 tell,.bool back] 23):=(hb.block _ (by simp)).trans HW.out;have a0:W1.cell? ⟨w.heap.size,0,none⟩=some (.int .i64 (n:Int)):=by rw[cell_of_row _ _ _ _ 23 _ hblk];rfl
 have a1:W1.cell? ⟨w.heap.size,1,none⟩=some (.int .i64 (k:Int)):=by rw[cell_of_row _ _ _ _ 23 _ hblk];rfl
 have a2:W1.cell? ⟨w.heap.size,2,none⟩=some (.int .i64 ask):=by rw[cell_of_row _ _ _ _ 23 _ hblk];rfl
 have a3:W1.cell? ⟨w.heap.size,3,none⟩=some (.int .i64 tell):=by rw[cell_of_row _ _ _ _ 23 _ hblk];rfl
 have a4:W1.cell? ⟨w.heap.size,4,none⟩=some (.bool back):=by rw[cell_of_row _ _ _ _ 23 _ hblk];rfl
 have hlt:w.heap.size < W1.heap.size:=lt_of_heap hblk;have ne1:¬w.heap.size=W1.heap.size:=by omega
 have ne2:¬W1.heap.size=w.heap.size:=by omega
 have ne3:¬w.heap.size=W1.heap.size+1:=by omega
 have ne4:¬W1.heap.size+1=w.heap.size:=by omega
 clear hb HC HB hblk HW;go_upto_region 4 with fail
 go_region
 ·have HN0:=hideIt (nw_start1 HB1.out n k ask tell back);clear a0 a1 a2 a3 a4 hlt ne1 ne2 ne3 ne4 mkN mkC;unfold stZ at HN0;generalize World.drew _=V at HN0 ⊢;generalize W1.heap.size+1+1=B at HN0 ⊢;generalize W1.heap.size+1=C at HN0 ⊢;generalize W1.heap.size=N at HN0 ⊢;have c7:=HN0.out.c7;go_wp2;clear c7
  go_loopw [27] (fun v wr=>∃m:Nat,m≤n∧v=.int .i64 m∧NwAt w wr B N C n k ask tell back m 0) (fun v _=>n - (intOf v).toNat)
  case atStart=>exact⟨0,Nat.zero_le _,rfl,HN0.out⟩
  case round=>
   clear HN0;obtain⟨m,hm,rfl,hN⟩:=hrel;have HN:=hideIt hN;clear hN;by_cases hmn:m < n
   ·have hmn':(m:Int) < n:=by omega
    go_wp2
    go_loopw [30] (fun v wz=>∃q:Nat,q≤8∧v=.int .i64 q∧NwAt w wz B N C n k ask tell back m q) (fun v _=>8 - (intOf v).toNat)
    case atStart=>exact⟨0,Nat.zero_le _,rfl,HN.out⟩
    case round=>
     clear HN;obtain⟨q,hq,rfl,hN⟩:=hrel;have HN:=hideIt hN;clear hN;by_cases hqn:q < 8
     ·have hqn':(q:Int) < 8:=by omega
      have HC0:Hid (∀Z,Below wr.heap.size wr Z→Z.cell? ⟨B,7,none⟩=some (.slice (some ⟨N,0,none⟩) n n)):=fun Z hZ=>(HN.out.below hZ).c7
      have HU:Hid (∀Z,Calls Tryz.prog 42 #[] Z fun e w'=>e=.returned (.agg #[.int .i64 0,.int .i64 (-1),.int .i64 0])∧Below Z.heap.size Z w'):=fun Z=>unwr_any Z
      have HPut:Hid (∀Z,Below wr.heap.size wr Z→NwAt w (set3 Z N (m*24+q*3)) B N C n k ask tell back m (q+1)∧(∃v0,Z.cell? ⟨N,m*24+q*3,none⟩=some v0)∧(∃v0,Z.cell? ⟨N,m*24+q*3+1,none⟩=some v0)∧(∃v0,Z.cell? ⟨N,m*24+q*3+2,none⟩=some v0)∧Z.frozen? ⟨N,m*24+q*3,none⟩=false∧Z.frozen? ⟨N,m*24+q*3+1,none⟩=false∧Z.frozen? ⟨N,m*24+q*3+2,none⟩=false):=fun Z hZ=>by
       have hN2:=HN.out.below hZ;exact⟨hN2.put hmn hqn,(hN2.room (by omega)).1,(hN2.room (by omega)).1,(hN2.room (by omega)).1,(hN2.room (by omega)).2,(hN2.room (by omega)).2,(hN2.room (by omega)).2⟩
      clear HN;go_wp2_with fail
      refine wp_region_L (B:= [9]) (S:=fun _=>True) (T:=fun Z=>Below wr.heap.size wr Z) (by kernel_rfl) ⟨trivial,(Below.refl _ _).drew⟩ (fun hHeld=>?_);refine tkS 0 ?_ rfl ?_ ?_;rotate_left 1
      ·intro wz _;go_simp;all_goals with_reducible rfl
      simp only[Act.put,p1,p2,p3,p4,p5];refine tkS 1 ?_ rfl ?_ ?_;rotate_left 1
      ·intro wz _;go_simp;all_goals with_reducible rfl
      simp only[Act.put,p1,p2,p3,p4,p5,p6];refine tkS 2 ?_ rfl ?_ ?_;rotate_left 1
      ·intro wz _;go_simp;all_goals with_reducible rfl
      simp only[Act.put,p1,p2,p3,p4,p5,p6];refine tkL [7,8,9] 3 ?_ rfl ?_ ?_;rotate_left 1
      ·intro wz sb;have y0:=HC0.out wz sb.2;go_simp;all_goals with_reducible rfl
      simp only[Act.put,p1,p2,p3,p4,p5,p6];refine tkS 4 ?_ rfl ?_ ?_;rotate_left 1
      ·intro wz _;go_simp;all_goals with_reducible rfl
      simp only[Act.put,p1,p2,p3,p4,p5,p6];refine tkS 5 ?_ rfl ?_ ?_;rotate_left 1
      ·intro wz _;go_simp;all_goals with_reducible rfl
      simp only[Act.put,p1,p2,p3,p4,p5,p6];refine tkS 7 ?_ rfl ?_ ?_;rotate_left 1
      ·intro wz _;go_simp;all_goals with_reducible rfl
      simp only[Act.put,p1,p2,p3,p4,p5,p6];refine wpAnyL_ready (rs:= [6]) (by kernel_rfl) (by simp) (AllReadyL.cons rfl (fun Q hQ=>?_) AllReadyL.nil);go_simp;refine(HU.out _).mono ?_;rintro e V3 ⟨rfl,hb3⟩;refine hQ.out _ _ ⟨trivial,belJ hHeld.2 hb3⟩ (fun hHeld=>?_);clear hQ Q hb3;refine tkS 8 ?_ rfl ?_ ?_;rotate_left 1
      ·intro wz _;go_simp;all_goals with_reducible rfl
      simp only[Act.put,p1,p2,p3,p4,p5,p6];obtain⟨hp1,⟨v0,p0⟩,⟨v1,p1⟩,⟨v2,p2⟩,f0,f1,f2⟩:=HPut.out _ hHeld.2;unfold set3 at hp1;have R1:=hideIt hp1;clear hp1 HPut HC0 HU;refine wpAnyL_ready (rs:= [9]) (by kernel_rfl) (by simp) (AllReadyL.last rfl (by kernel_rfl) (fun Q hQ=>?_) AllReadyL.nil);go_simp;refine hQ.out _ _ trivial (fun _=>?_);clear hQ Q hHeld;refine wpAnyL_done (by kernel_rfl) ?_ _;go_wp2
      go_roundw
      case rel=>exact⟨q+1,by omega,by go_num,R1.out⟩
      case measure=>simp[intOf];omega
     ·have hq8:q=8:=by omega
      have R1:Hid (NwAt w wr B N C n k ask tell back (m+1) 0):=by subst hq8;exact HN.out.next
      have hd:decide ((q:Int) < 8)=false:=decide_eq_false (by omega);have hnlt:¬(q:Int) < 8:=by omega
      clear HN hq8 hqn;go_wp2
      go_roundw
      case rel=>exact⟨m+1,by omega,by go_num,R1.out⟩
      case measure=>simp[intOf];omega
   ·obtain rfl:m=n:=by omega
    go_wp2;go_ret2;exact⟨B,N,C,rfl,HN.out⟩
 ·have HN0:=hideIt (nw_start2 HB1.out n k ask tell back);clear a0 a1 a2 a3 a4 hlt ne1 ne2 ne3 ne4 mkN mkC;unfold stZ at HN0;generalize World.drew _=V at HN0 ⊢;generalize W1.heap.size+1+1=B at HN0 ⊢;generalize W1.heap.size+1=N at HN0 ⊢;generalize W1.heap.size=C at HN0 ⊢;have c7:=HN0.out.c7;go_wp2;clear c7
  go_loopw [27] (fun v wr=>∃m:Nat,m≤n∧v=.int .i64 m∧NwAt w wr B N C n k ask tell back m 0) (fun v _=>n - (intOf v).toNat)
  case atStart=>exact⟨0,Nat.zero_le _,rfl,HN0.out⟩
  case round=>
   clear HN0;obtain⟨m,hm,rfl,hN⟩:=hrel;have HN:=hideIt hN;clear hN;by_cases hmn:m < n
   ·have hmn':(m:Int) < n:=by omega
    go_wp2
    go_loopw [30] (fun v wz=>∃q:Nat,q≤8∧v=.int .i64 q∧NwAt w wz B N C n k ask tell back m q) (fun v _=>8 - (intOf v).toNat)
    case atStart=>exact⟨0,Nat.zero_le _,rfl,HN.out⟩
    case round=>
     clear HN;obtain⟨q,hq,rfl,hN⟩:=hrel;have HN:=hideIt hN;clear hN;by_cases hqn:q < 8
     ·have hqn':(q:Int) < 8:=by omega
      have HC0:Hid (∀Z,Below wr.heap.size wr Z→Z.cell? ⟨B,7,none⟩=some (.slice (some ⟨N,0,none⟩) n n)):=fun Z hZ=>(HN.out.below hZ).c7
      have HU:Hid (∀Z,Calls Tryz.prog 42 #[] Z fun e w'=>e=.returned (.agg #[.int .i64 0,.int .i64 (-1),.int .i64 0])∧Below Z.heap.size Z w'):=fun Z=>unwr_any Z
      have HPut:Hid (∀Z,Below wr.heap.size wr Z→NwAt w (set3 Z N (m*24+q*3)) B N C n k ask tell back m (q+1)∧(∃v0,Z.cell? ⟨N,m*24+q*3,none⟩=some v0)∧(∃v0,Z.cell? ⟨N,m*24+q*3+1,none⟩=some v0)∧(∃v0,Z.cell? ⟨N,m*24+q*3+2,none⟩=some v0)∧Z.frozen? ⟨N,m*24+q*3,none⟩=false∧Z.frozen? ⟨N,m*24+q*3+1,none⟩=false∧Z.frozen? ⟨N,m*24+q*3+2,none⟩=false):=fun Z hZ=>by
       have hN2:=HN.out.below hZ;exact⟨hN2.put hmn hqn,(hN2.room (by omega)).1,(hN2.room (by omega)).1,(hN2.room (by omega)).1,(hN2.room (by omega)).2,(hN2.room (by omega)).2,(hN2.room (by omega)).2⟩
      clear HN;go_wp2_with fail
      refine wp_region_L (B:= [9]) (S:=fun _=>True) (T:=fun Z=>Below wr.heap.size wr Z) (by kernel_rfl) ⟨trivial,(Below.refl _ _).drew⟩ (fun hHeld=>?_);refine tkS 0 ?_ rfl ?_ ?_;rotate_left 1
      ·intro wz _;go_simp;all_goals with_reducible rfl
      simp only[Act.put,p1,p2,p3,p4,p5];refine tkS 1 ?_ rfl ?_ ?_;rotate_left 1
      ·intro wz _;go_simp;all_goals with_reducible rfl
      simp only[Act.put,p1,p2,p3,p4,p5,p6];refine tkS 2 ?_ rfl ?_ ?_;rotate_left 1
      ·intro wz _;go_simp;all_goals with_reducible rfl
      simp only[Act.put,p1,p2,p3,p4,p5,p6];refine tkL [7,8,9] 3 ?_ rfl ?_ ?_;rotate_left 1
      ·intro wz sb;have y0:=HC0.out wz sb.2;go_simp;all_goals with_reducible rfl
      simp only[Act.put,p1,p2,p3,p4,p5,p6];refine tkS 4 ?_ rfl ?_ ?_;rotate_left 1
      ·intro wz _;go_simp;all_goals with_reducible rfl
      simp only[Act.put,p1,p2,p3,p4,p5,p6];refine tkS 5 ?_ rfl ?_ ?_;rotate_left 1
      ·intro wz _;go_simp;all_goals with_reducible rfl
      simp only[Act.put,p1,p2,p3,p4,p5,p6];refine tkS 7 ?_ rfl ?_ ?_;rotate_left 1
      ·intro wz _;go_simp;all_goals with_reducible rfl
      simp only[Act.put,p1,p2,p3,p4,p5,p6];refine wpAnyL_ready (rs:= [6]) (by kernel_rfl) (by simp) (AllReadyL.cons rfl (fun Q hQ=>?_) AllReadyL.nil);go_simp;refine(HU.out _).mono ?_;rintro e V3 ⟨rfl,hb3⟩;refine hQ.out _ _ ⟨trivial,belJ hHeld.2 hb3⟩ (fun hHeld=>?_);clear hQ Q hb3;refine tkS 8 ?_ rfl ?_ ?_;rotate_left 1
      ·intro wz _;go_simp;all_goals with_reducible rfl
      simp only[Act.put,p1,p2,p3,p4,p5,p6];obtain⟨hp1,⟨v0,p0⟩,⟨v1,p1⟩,⟨v2,p2⟩,f0,f1,f2⟩:=HPut.out _ hHeld.2;unfold set3 at hp1;have R1:=hideIt hp1;clear hp1 HPut HC0 HU;refine wpAnyL_ready (rs:= [9]) (by kernel_rfl) (by simp) (AllReadyL.last rfl (by kernel_rfl) (fun Q hQ=>?_) AllReadyL.nil);go_simp;refine hQ.out _ _ trivial (fun _=>?_);clear hQ Q hHeld;refine wpAnyL_done (by kernel_rfl) ?_ _;go_wp2
      go_roundw
      case rel=>exact⟨q+1,by omega,by go_num,R1.out⟩
      case measure=>simp[intOf];omega
     ·have hq8:q=8:=by omega
      have R1:Hid (NwAt w wr B N C n k ask tell back (m+1) 0):=by subst hq8;exact HN.out.next
      have hd:decide ((q:Int) < 8)=false:=decide_eq_false (by omega);have hnlt:¬(q:Int) < 8:=by omega
      clear HN hq8 hqn;go_wp2
      go_roundw
      case rel=>exact⟨m+1,by omega,by go_num,R1.out⟩
      case measure=>simp[intOf];omega
   ·obtain rfl:m=n:=by omega
    go_wp2;go_ret2;exact⟨B,N,C,rfl,HN.out⟩
end Go.Proofs.YtjpklmighoondaaGreatDoor.St
namespace Go.Proofs.YtjpklmighoondaaGreatDoor.St
open Go.RowKit
def DrawL (w:World) (n:Nat) (r:Nat→Nat→Bool) (e:Ending) (w':World):Prop:=∃lv,e=.returned lv∧LnkS w' (fun b=>w.heap.size≤b∧LTg w' b) lv (tabL n r)∧(∃a n c,lv=.slice (some a) n c)∧Below w.heap.size w w'
section
variable {w0 W W' : World} {K : StK} {P : Pst}
set_option maxRecDepth 100000 in
theorem spread_nil (B:Nat) (w:World):Calls Tryz.prog 115 #[.pointer (some ⟨B,0,none⟩),.slice none 0 0] w fun e w'=>e=.returned (.slice none 0 0)∧w'=w:=by
 have hnil:=nilEqL w;go_enter Tryz.func115,Tryz.ntmps115
 go_wp2;go_ret;exact⟨rfl,rfl⟩
set_option maxRecDepth 100000 in
set_option maxHeartbeats 8000000 in
theorem spread_any (h:StoP w0 W K P) (hn1:1≤P.n) (hn7:P.n≤7) (hk8:P.k≤8) (r:Nat→Nat→Bool) (X:Nat→Prop) (l:Value) (hl:LnkS W X l (tabL P.n r)):
  Calls Tryz.prog 115 #[.pointer (some ⟨K.B,0,none⟩),l] W fun e w'=>DrawL W (P.n+P.k) (fun a b=>r (a%P.n) (b%P.n)) e w':=by
 obtain⟨g,off,cap,e0,_⟩:=hl.tab (show 0 < P.n by omega);have HRow:Hid (∀Z,Below W.heap.size W Z→∀i,i < P.n→∃rg ro rc,rg < W.heap.size∧Z.cell? ⟨g,off+i,none⟩=some (.slice (some ⟨rg,ro,none⟩) P.n rc)∧∀j,j < P.n→Z.cell? ⟨rg,ro+j,none⟩=some (.bool (r i j))):=fun Z hZ i hi=>by
  obtain⟨g',off',cap',e',rg,ro,rc,h1,h2⟩:=hl.tab hi;rw[e0] at e';cases e';have hlt:rg < W.heap.size:=World.block_lt_of_cell? W _ (h2 0 (by omega));have hlg:g < W.heap.size:=World.block_lt_of_cell? W _ h1;exact⟨rg,ro,rc,hlt,(hZ.cell (p:=⟨g,off+i,none⟩) hlg).trans h1,fun j hj=>(hZ.cell (p:=⟨rg,ro+j,none⟩) hlt).trans (h2 j hj)⟩
 subst e0;have HNd:Hid (∀Z,Below W.heap.size W Z→∀i:Nat,Calls Tryz.prog 169 #[.pointer (some ⟨K.B,0,none⟩),.int .i64 (i:Int)] Z fun e w'=>e=.returned (.int .i64 ((i%P.n:Nat):Int))∧w'=Z):=fun Z hZ i=>nodeOf_any (h.below hZ) hn1 i
 have hnil:=nilNeL W ⟨g,off,none⟩ P.n cap;obtain⟨⟨c0,c1,_⟩,_⟩:=h.cells;obtain⟨N,hN⟩:∃N,P.n+P.k=N:=⟨_,rfl⟩;have hN15:1≤N∧N≤15:=by omega
 have hw:IntKind.i64.wrap ((P.n:Int)+(P.k:Int))=(N:Int):=by rw[←hN];exact IntWalk.i64_in _ (by omega)
 have hmk:∀w,(Instr.makeSlice 105 (.int .i64 (N:Int)) (.int .i64 (N:Int))).run Tryz.prog w=.ok (.slice (some ⟨w.heap.size,0,none⟩) N N) (w.alloc (.cells (madeCells #[.slice none 0 0] N) 266)):=fun w=>made_rows w N (by omega)
 have HMod:Hid (∀i:Nat,i%P.n < P.n):=fun i=>Nat.mod_lt _ (by omega)
 have HSp:Hid (∀(e:Ending) (w':World),DrawL W N (fun a b=>r (a%P.n) (b%P.n)) e w'→DrawL W (P.n+P.k) (fun a b=>r (a%P.n) (b%P.n)) e w'):=fun e w' hd=>by rw[hN];exact hd
 clear hl h hN;generalize P.n=n at*
 generalize P.k=k at*
 have HR:Hid (∀a b:Nat,(fun a b=>r (a%n) (b%n)) a b=r (a%n) (b%n)):=fun _ _=>rfl
 generalize (fun a b=>r (a%n) (b%n))=R at*
 go_enter Tryz.func115,Tryz.ntmps115
 have HMa:Hid (MatAt (W.alloc (.cells (madeCells #[.slice none 0 0] N) 266)).drew W.heap.size W.heap.size N 0 (fun _=>0) R):=((mat_made W N).same fun i k hi=>absurd hi (by omega)).drew;have HBa:Hid (Below W.heap.size W (W.alloc (.cells (madeCells #[.slice none 0 0] N) 266)).drew):=(belA (Below.refl _ _) _).drew;go_upto_region 3 with fail
 go_region
 clear hmk hw hnil c0 c1;go_wp2;generalize (W.alloc _).drew=W1 at HMa HBa ⊢
 go_loopw [26] (fun v wr=>∃(m:Nat) (cb:Nat→Nat),m≤N∧v=.int .i64 m∧MatAt wr W.heap.size W.heap.size N m cb R∧Below W.heap.size W wr) (fun v _=>N - (intOf v).toNat)
 case atStart=>exact⟨0,_,Nat.zero_le _,rfl,HMa.out,HBa.out⟩
 case round=>
  clear HMa HBa W1;obtain⟨m,cb,hm,rfl,hM,hb⟩:=hrel;have HM:=hideIt hM;have HB:=hideIt hb;clear hM hb;by_cases hmn:m < N
  ·have hmn':(m:Int) < N:=by omega
   have HN1c:=hideIt (HNd.out wr HB.out m);have hmod:=HMod.out m;obtain⟨rg,ro,rc,hrl,h1,h2⟩:=HRow.out wr HB.out (m%n) hmod;have hmod':((m%n:Nat):Int) < (n:Int):=by omega
   have HRr:Hid (∀Z,Below W.heap.size W Z→∀j,j < n→Z.cell? ⟨rg,ro+j,none⟩=some (.bool (r (m%n) j))):=fun Z hZ j hj=>(hZ.cell (p:=⟨rg,ro+j,none⟩) hrl).trans ((HB.out.cell (p:=⟨rg,ro+j,none⟩) hrl).symm.trans (h2 j hj))
   clear h2 hmod;have Hrl:=hideIt hrl;clear hrl;go_wp2_with fail
   refine HN1c.out.mono ?_;rintro e V ⟨rfl,rfl⟩;clear HN1c;generalize hi0:m%n=i0 at*
   have hmk2:=made_bits V N (by omega);have HMa:=hideIt (HM.out.alloc (.cells (madeCells #[.bool false] N) 4));have HN1:=hideIt (bits_made V N);have hBl:=HM.out.lt;have hBs:=HB.out.size;obtain⟨ov,hov⟩:=HMa.out.room m hmn;have hfz:=HMa.out.fz m;have HB1:Hid (Below W.heap.size W ((V.alloc (.cells (madeCells #[.bool false] N) 4)).setCell ⟨W.heap.size,m,none⟩ (.slice (some ⟨V.heap.size,0,none⟩) N N))):=(belA HB.out _).setCell (p:=⟨W.heap.size,m,none⟩) (Nat.le_refl _) _;have HM2:Hid (MatAt ((V.alloc (.cells (madeCells #[.bool false] N) 4)).setCell ⟨W.heap.size,m,none⟩ (.slice (some ⟨V.heap.size,0,none⟩) N N)) W.heap.size W.heap.size N (m+1) (fun i=>if i=m then V.heap.size else cb i) (midB R m 0)):=
    (HMa.out.add hmn HN1.out hBs (by omega) (fun i hi=>Nat.ne_of_lt (HM.out.row i hi).lt)).same fun i k _ _=>by
     unfold midB;by_cases e:i=m
     ·rw[if_pos e,if_pos ⟨e,Nat.zero_le _⟩]
     ·rw[if_neg e,if_neg (fun h=>e h.1)]
   rw[World.setCell_alloc_past _ _ _ _ hBl] at HM2 HB1;have hc2:=HM2.out.head m (Nat.lt_succ_self m);rw[if_pos rfl] at hc2;clear HMa HN1 HM;go_wp2;clear hmk2 hov hfz hc2 h1;generalize (V.setCell _ _).alloc _=W2 at HB1 HM2 ⊢;obtain⟨cb1,HM2⟩:∃cb1,Hid (MatAt W2 W.heap.size W.heap.size N (m+1) cb1 (midB R m 0)):=⟨_,HM2⟩;clear HB hBl hBs
   go_loopw [46] (fun v wz=>∃k:Nat,k≤N∧v=.int .i64 k∧MatAt wz W.heap.size W.heap.size N (m+1) cb1 (midB R m k)∧Below W.heap.size W wz) (fun v _=>N - (intOf v).toNat)
   case atStart=>exact⟨0,Nat.zero_le _,rfl,HM2.out,HB1.out⟩
   case round=>
    clear HM2 HB1;obtain⟨k,hk,rfl,hM,hb⟩:=hrel;have HM:=hideIt hM;have HB:=hideIt hb;clear hM hb;by_cases hkn:k < N
    ·have hkn':(k:Int) < N:=by omega
     have hge:=(HM.out.from_ m (by omega)).1;have HNk:=hideIt (HNd.out wr HB.out k);have hkmod:=HMod.out k;have hkmod':((k%n:Nat):Int) < (n:Int):=by omega
     have hkd:decide (((k%n:Nat):Int) < (n:Int))=true:=decide_eq_true hkmod';have hc1:wr.cell? ⟨W.heap.size,m,none⟩=some (.slice (some ⟨cb1 m,0,none⟩) N N):=HM.out.head m (by omega);have hc3:wr.cell? ⟨rg,ro+k%n,none⟩=some (.bool (R m k)):=by rw[HR.out,hi0];exact HRr.out wr HB.out _ hkmod
     have HPut:Hid (∀Z:World,Below wr.heap.size wr Z→(MatAt (Z.setCell ⟨cb1 m,k,none⟩ (.bool (R m k))) W.heap.size W.heap.size N (m+1) cb1 (midB R m (k+1))∧Below W.heap.size W (Z.setCell ⟨cb1 m,k,none⟩ (.bool (R m k))))∧Z.cell? ⟨cb1 m,k,none⟩=some (.bool (midB R m k m k))∧Z.frozen? ⟨cb1 m,k,none⟩=false):=fun Z hZ=>
      ⟨⟨((HM.out.below hZ).put (by omega) hkn _).same fun i b _ _=>midB_put R m k _ rfl i b,(belJ HB.out hZ).setCell (p:=⟨cb1 m,k,none⟩) hge _⟩,((HM.out.below hZ).row m (by omega)).bit k hkn,((HM.out.below hZ).row m (by omega)).fz k⟩
     obtain⟨hp1,hp2,hp3⟩:=HPut.out _ (Below.refl _ _);have R1:=hideIt hp1;clear hkmod HM HPut hp1;go_wp2_with fail
     refine HNk.out.mono ?_;rintro e V2 ⟨rfl,rfl⟩;clear HNk;generalize hk0:k%n=kk at*
     go_upto_region 13 with fail
     go_region
     go_wp2
     go_roundw
     case rel=>exact⟨k+1,by omega,by go_num,R1.out.1.drew,R1.out.2.drew⟩
     case measure=>simp[intOf];omega
    ·obtain rfl:k=N:=by omega
     have R1:Hid (MatAt wr W.heap.size W.heap.size k (m+1) cb1 R):=HM.out.same fun i b _ hb=>midB_end _ _ _ _ _ hb
     go_wp2
     go_roundw
     case rel=>exact⟨m+1,cb1,by omega,by go_num,R1.out,HB.out⟩
     case measure=>simp[intOf];omega
  ·obtain rfl:m=N:=by omega
   go_wp2;go_ret;exact HSp.out _ _ ⟨_,rfl,HM.out.links,⟨_,_,_,rfl⟩,HB.out⟩
end
end Go.Proofs.YtjpklmighoondaaGreatDoor.St
