/-
  The program's store, walked: spread.
  The program's store, walked: Cut.
  The program's store: a new one; whatever is played; what is kept (plain and walked).
  In a drawn region, behind a call: the condition that is held may grow. (Nothing of the program in it.)
  What next gives: a read, a write.
-/
import Derived.Test.YtjpklmighoondaaGreatDoorSwMY
import Derived.Test.YtjpklmighoondaaGreatDoorFieldsQY
import Derived.Test.YtjpklmighoondaaGreatDoorGpRY
import Derived.Test.YtjpklmighoondaaGreatDoorGnPY
import Derived.Deep.RegionHeld3
import Derived.Test.YtjpklmighoondaaGreatDoorGnHY
import Derived.Deep.RegionWith
import Derived.Deep.DeepCutAuto
set_option maxRecDepth 100000
namespace Go.Proofs.YtjpklmighoondaaGreatDoor.St
open Go.RowKit
def DrawL (w:World) (n:Nat) (r:Nat→Nat→Bool) (e:Ending) (w':World):Prop:=∃lv,e=.returned lv∧LnkS w' (fun b=>w.heap.size≤b∧LTg w' b) lv (tabL n r)∧(∃a n c,lv=.slice (some a) n c)∧Below w.heap.size w w'
section
variable {w0 W W' : World} {K : StK} {P : Pst}
theorem spread_nil (B:Nat) (w:World):Calls Tryz.prog 115 #[.pointer (some ⟨B,0,none⟩),.slice none 0 0] w fun e w'=>e=.returned (.slice none 0 0)∧w'=w:=by
 have hnil:=nilEqL w;go_enter Tryz.func115,Tryz.ntmps115
 go_wp2;go_ret;exact⟨rfl,rfl⟩
set_option maxHeartbeats 8000000 in
theorem spread_any (h:StoP w0 W K P) (hn1:1≤P.n) (hn7:P.n≤7) (hk8:P.k≤8) (r:Nat→Nat→Bool) (X:Nat→Prop) (l:Value) (hl:LnkS W X l (tabL P.n r)):
  Calls Tryz.prog 115 #[.pointer (some ⟨K.B,0,none⟩),l] W fun e w'=>DrawL W (P.n+P.k) (fun a b=>r (a%P.n) (b%P.n)) e w':=by
 obtain⟨g,off,cap,e0,_⟩:=hl.tab (show 0 < P.n by omega);have HRow:Hid (∀Z,Below W.heap.size W Z→∀i,i < P.n→∃rg ro rc,rg < W.heap.size∧Z.cell? ⟨g,off+i,none⟩=some (.slice (some ⟨rg,ro,none⟩) P.n rc)∧∀j,j < P.n→Z.cell? ⟨rg,ro+j,none⟩=some (.bool (r i j))):=fun Z hZ i hi=>by
  obtain⟨g',off',cap',e',rg,ro,rc,h1,h2⟩:=hl.tab hi;rw[e0] at e';cases e';have hlt:rg < W.heap.size:=World.block_lt_of_cell? W _ (h2 0 (by omega));have hlg:g < W.heap.size:=World.block_lt_of_cell? W _ h1;exact⟨rg,ro,rc,hlt,(hZ.cell (p:=⟨g,off+i,none⟩) hlg).trans h1,fun j hj=>(hZ.cell (p:=⟨rg,ro+j,none⟩) hlt).trans (h2 j hj)⟩
 subst e0;have HNd:Hid (∀Z,Below W.heap.size W Z→∀i:Nat,Calls Tryz.prog 169 #[.pointer (some ⟨K.B,0,none⟩),.int .i64 (i:Int)] Z fun e w'=>e=.returned (.int .i64 ((i%P.n:Nat):Int))∧w'=Z):=fun Z hZ i=>nodeOf_any (h.below hZ) hn1 i
 have hnil:=nilNeL W ⟨g,off,none⟩ P.n cap;obtain⟨⟨c0,c1,_⟩,_⟩:=h.cells;obtain⟨N,hN⟩:∃N,P.n+P.k=N:=⟨_,rfl⟩;have hN15:1≤N∧N≤15:=by omega
 have hw:IntKind.i64.wrap ((P.n:Int)+(P.k:Int))=(N:Int):=by rw[←hN];exact IntWalk.i64_in _ (by omega)
 have hmk:∀w,(Instr.makeSlice 105 (.int .i64 (N:Int)) (.int .i64 (N:Int))).run Tryz.prog w=.ok (.slice (some ⟨w.heap.size,0,none⟩) N N) (w.alloc (.cells (madeCells #[.slice none 0 0] N) 266)):=fun w=>made_rows w N (by omega)
 have HMod:Hid (∀i:Nat,i%P.n < P.n):=fun i=>Nat.mod_lt _ (by omega)
 have HSp:Hid (∀(e:Ending) (w':World),DrawL W N (fun a b=>r (a%P.n) (b%P.n)) e w'→DrawL W (P.n+P.k) (fun a b=>r (a%P.n) (b%P.n)) e w'):=fun e w' hd=>by rw[hN];exact hd
 clear hl h hN;generalize P.n=n at*
 generalize P.k=k at*
 have HR:Hid (∀a b:Nat,(fun a b=>r (a%n) (b%n)) a b=r (a%n) (b%n)):=fun _ _=>rfl
 generalize (fun a b=>r (a%n) (b%n))=R at*
 go_enter Tryz.func115,Tryz.ntmps115
 have HMa:Hid (MatAt (W.alloc (.cells (madeCells #[.slice none 0 0] N) 266)).drew W.heap.size W.heap.size N 0 (fun _=>0) R):=((mat_made W N).same fun i k hi=>absurd hi (by omega)).drew;have HBa:Hid (Below W.heap.size W (W.alloc (.cells (madeCells #[.slice none 0 0] N) 266)).drew):=(belA (Below.refl _ _) _).drew;go_upto_region 3 with fail
 go_region
 clear hmk hw hnil c0 c1;go_wp2;generalize (W.alloc _).drew=W1 at HMa HBa ⊢
 go_loopw [26] (fun v wr=>∃(m:Nat) (cb:Nat→Nat),m≤N∧v=.int .i64 m∧MatAt wr W.heap.size W.heap.size N m cb R∧Below W.heap.size W wr) (fun v _=>N - (intOf v).toNat)
 case atStart=>exact⟨0,_,Nat.zero_le _,rfl,HMa.out,HBa.out⟩
 case round=>
  clear HMa HBa W1;obtain⟨m,cb,hm,rfl,hM,hb⟩:=hrel;have HM:=hideIt hM;have HB:=hideIt hb;clear hM hb;by_cases hmn:m < N
  ·have hmn':(m:Int) < N:=by omega
   have HN1c:=hideIt (HNd.out wr HB.out m);have hmod:=HMod.out m;obtain⟨rg,ro,rc,hrl,h1,h2⟩:=HRow.out wr HB.out (m%n) hmod;have hmod':((m%n:Nat):Int) < (n:Int):=by omega
   have HRr:Hid (∀Z,Below W.heap.size W Z→∀j,j < n→Z.cell? ⟨rg,ro+j,none⟩=some (.bool (r (m%n) j))):=fun Z hZ j hj=>(hZ.cell (p:=⟨rg,ro+j,none⟩) hrl).trans ((HB.out.cell (p:=⟨rg,ro+j,none⟩) hrl).symm.trans (h2 j hj))
   clear h2 hmod;have Hrl:=hideIt hrl;clear hrl;go_wp2_with fail
   refine HN1c.out.mono ?_;rintro e V ⟨rfl,rfl⟩;clear HN1c;generalize hi0:m%n=i0 at*
   have hmk2:=made_bits V N (by omega);have HMa:=hideIt (HM.out.alloc (.cells (madeCells #[.bool false] N) 4));have HN1:=hideIt (bits_made V N);have hBl:=HM.out.lt;have hBs:=HB.out.size;obtain⟨ov,hov⟩:=HMa.out.room m hmn;have hfz:=HMa.out.fz m;have HB1:Hid (Below W.heap.size W ((V.alloc (.cells (madeCells #[.bool false] N) 4)).setCell ⟨W.heap.size,m,none⟩ (.slice (some ⟨V.heap.size,0,none⟩) N N))):=(belA HB.out _).setCell (p:=⟨W.heap.size,m,none⟩) (Nat.le_refl _) _;have HM2:Hid (MatAt ((V.alloc (.cells (madeCells #[.bool false] N) 4)).setCell ⟨W.heap.size,m,none⟩ (.slice (some ⟨V.heap.size,0,none⟩) N N)) W.heap.size W.heap.size N (m+1) (fun i=>if i=m then V.heap.size else cb i) (midB R m 0)):=
    (HMa.out.add hmn HN1.out hBs (by omega) (fun i hi=>Nat.ne_of_lt (HM.out.row i hi).lt)).same fun i k _ _=>by
     unfold midB;by_cases e:i=m
     ·rw[if_pos e,if_pos ⟨e,Nat.zero_le _⟩]
     ·rw[if_neg e,if_neg (fun h=>e h.1)]
   rw[World.setCell_alloc_past _ _ _ _ hBl] at HM2 HB1;have hc2:=HM2.out.head m (Nat.lt_succ_self m);rw[if_pos rfl] at hc2;clear HMa HN1 HM;go_wp2;clear hmk2 hov hfz hc2 h1;generalize (V.setCell _ _).alloc _=W2 at HB1 HM2 ⊢;obtain⟨cb1,HM2⟩:∃cb1,Hid (MatAt W2 W.heap.size W.heap.size N (m+1) cb1 (midB R m 0)):=⟨_,HM2⟩;clear HB hBl hBs
   go_loopw [46] (fun v wz=>∃k:Nat,k≤N∧v=.int .i64 k∧MatAt wz W.heap.size W.heap.size N (m+1) cb1 (midB R m k)∧Below W.heap.size W wz) (fun v _=>N - (intOf v).toNat)
   case atStart=>exact⟨0,Nat.zero_le _,rfl,HM2.out,HB1.out⟩
   case round=>
    clear HM2 HB1;obtain⟨k,hk,rfl,hM,hb⟩:=hrel;have HM:=hideIt hM;have HB:=hideIt hb;clear hM hb;by_cases hkn:k < N
    ·have hkn':(k:Int) < N:=by omega
     have hge:=(HM.out.from_ m (by omega)).1;have HNk:=hideIt (HNd.out wr HB.out k);have hkmod:=HMod.out k;have hkmod':((k%n:Nat):Int) < (n:Int):=by omega
     have hkd:decide (((k%n:Nat):Int) < (n:Int))=true:=decide_eq_true hkmod';have hc1:wr.cell? ⟨W.heap.size,m,none⟩=some (.slice (some ⟨cb1 m,0,none⟩) N N):=HM.out.head m (by omega);have hc3:wr.cell? ⟨rg,ro+k%n,none⟩=some (.bool (R m k)):=by rw[HR.out,hi0];exact HRr.out wr HB.out _ hkmod
     have HPut:Hid (∀Z:World,Below wr.heap.size wr Z→(MatAt (Z.setCell ⟨cb1 m,k,none⟩ (.bool (R m k))) W.heap.size W.heap.size N (m+1) cb1 (midB R m (k+1))∧Below W.heap.size W (Z.setCell ⟨cb1 m,k,none⟩ (.bool (R m k))))∧Z.cell? ⟨cb1 m,k,none⟩=some (.bool (midB R m k m k))∧Z.frozen? ⟨cb1 m,k,none⟩=false):=fun Z hZ=>
      ⟨⟨((HM.out.below hZ).put (by omega) hkn _).same fun i b _ _=>midB_put R m k _ rfl i b,(belJ HB.out hZ).setCell (p:=⟨cb1 m,k,none⟩) hge _⟩,((HM.out.below hZ).row m (by omega)).bit k hkn,((HM.out.below hZ).row m (by omega)).fz k⟩
     obtain⟨hp1,hp2,hp3⟩:=HPut.out _ (Below.refl _ _);have R1:=hideIt hp1;clear hkmod HM HPut hp1;go_wp2_with fail
     refine HNk.out.mono ?_;rintro e V2 ⟨rfl,rfl⟩;clear HNk;generalize hk0:k%n=kk at*
     go_upto_region 13 with fail
     go_region
     go_wp2
     go_roundw
     case rel=>exact⟨k+1,by omega,by go_num,R1.out.1.drew,R1.out.2.drew⟩
     case measure=>simp[intOf];omega
    ·obtain rfl:k=N:=by omega
     have R1:Hid (MatAt wr W.heap.size W.heap.size k (m+1) cb1 R):=HM.out.same fun i b _ hb=>midB_end _ _ _ _ _ hb
     go_wp2
     go_roundw
     case rel=>exact⟨m+1,cb1,by omega,by go_num,R1.out,HB.out⟩
     case measure=>simp[intOf];omega
  ·obtain rfl:m=N:=by omega
   go_wp2;go_ret;exact HSp.out _ _ ⟨_,rfl,HM.out.links,⟨_,_,_,rfl⟩,HB.out⟩
end
end Go.Proofs.YtjpklmighoondaaGreatDoor.St
namespace Go.Proofs.YtjpklmighoondaaGreatDoor.St
open Go.RowKit
theorem nilNqL (w:World):(binOp .neq 105 (.slice none 0 0) (.slice none 0 0)).run Tryz.prog w=.ok (.bool false) w:=by kernel_rfl
theorem nilNqLs (w:World) (a:Addr) (n c:Nat):(binOp .neq 105 (.slice (some a) n c) (.slice none 0 0)).run Tryz.prog w=.ok (.bool true) w:=by kernel_rfl
section
variable {w0 W W' : World} {K : StK} {P : Pst}
set_option maxHeartbeats 4000000 in
theorem cutS_nil (h:StoP w0 W K P):Calls Tryz.prog 54 #[.pointer (some ⟨K.B,0,none⟩),.slice none 0 0] W fun en W'=>en=.returned (toldE 0)∧StTold w0 K P W (allP P) W':=by
 have HS:Hid (∀Z,Calls Tryz.prog 115 #[.pointer (some ⟨K.B,0,none⟩),.slice none 0 0] Z fun e w'=>e=.returned (.slice none 0 0)∧w'=Z):=fun Z=>spread_nil K.B Z
 have HC:Hid (∀Z,Below W.heap.size W Z→Calls Tryz.prog 114 #[.pointer (some ⟨K.B,5,none⟩),.slice none 0 0] Z fun e w'=>e=.returned (.tuple #[])∧CutQ K.B 5 (.slice none 0 0) Z w'):=fun Z hZ=>pcut_nil _ _ _ _ _ _ _ (h.below hZ).net ((h.below hZ).fzB 6)
 have HP:=hideIt h;have hnil:=nilNqL W;clear h;go_enter Tryz.func54,Tryz.ntmps54
 go_upto_region 3 with fail
 refine wp_region_L (B:= [6]) (S:=fun _=>True) (T:=fun Z=>Below W.heap.size W Z) (by kernel_rfl) ⟨trivial,(Below.refl _ _).drew⟩ (fun hHeld=>?_);refine tkS 0 ?_ rfl ?_ ?_;rotate_left 1
 ·intro wz _;go_simp;all_goals with_reducible rfl
 simp only[Act.put,p1,p2,p3,p4,p5];refine tkS 1 ?_ rfl ?_ ?_;rotate_left 1
 ·intro wz _;go_simp;all_goals with_reducible rfl
 simp only[Act.put,p1,p2,p3,p4,p5,p6];refine tkS 2 ?_ rfl ?_ ?_;rotate_left 1
 ·intro wz _;go_simp;all_goals with_reducible rfl
 simp only[Act.put,p1,p2,p3,p4,p5,p6];refine tkS 3 ?_ rfl ?_ ?_;rotate_left 1
 ·intro wz _;go_simp;all_goals with_reducible rfl
 simp only[Act.put,p1,p2,p3,p4,p5,p6];refine tkS 4 ?_ rfl ?_ ?_;rotate_left 1
 ·intro wz _;go_simp;all_goals with_reducible rfl
 simp only[Act.put,p1,p2,p3,p4,p5,p6];refine wpAnyL_ready (rs:= [5]) (by kernel_rfl) (by simp) (AllReadyL.cons rfl (fun Q hQ=>?_) AllReadyL.nil);go_simp;refine(HS.out _).mono ?_;rintro e W2 ⟨rfl,rfl⟩;refine hQ.out _ _ ⟨trivial,hHeld.2⟩ (fun hHeld=>?_);clear hQ Q;refine wpAnyL_ready (rs:= [6]) (by kernel_rfl) (by simp) (AllReadyL.last rfl (by kernel_rfl) (fun Q hQ=>?_) AllReadyL.nil);go_simp;refine(HC.out _ hHeld.2).mono ?_;rintro e W3 ⟨rfl,W4,hb,rfl⟩;have hB4:Below W.heap.size W W4:=belJ hHeld.2 hb;have hR:=HP.out.setL hB4 (lv':=.slice none 0 0) (nil:=true) (r:=P.lr) (.inl ⟨rfl,rfl⟩);have HR:=hideIt hR;refine hQ.out _ _ trivial (fun _=>?_);clear hQ Q hR hHeld HS HC HP hb hB4;refine wpAnyL_done (by kernel_rfl) ?_ _;go_wp2;go_ret;exact⟨rfl,_,HR.out.1,HR.out.2⟩
set_option maxHeartbeats 4000000 in
theorem cutS_any (h:StoP w0 W K P) (hn1:1≤P.n) (hn7:P.n≤7) (hk8:P.k≤8) (r:Nat→Nat→Bool) (X:Nat→Prop) {a:Addr} {c:Nat} (hl:LnkS W X (.slice (some a) P.n c) (tabL P.n r)):
  Calls Tryz.prog 54 #[.pointer (some ⟨K.B,0,none⟩),.slice (some a) P.n c] W fun en W'=>en=.returned (toldE 0)∧StTold w0 K P W (wideP P r) W':=by
 have HS:Hid (∀Z,Below W.heap.size W Z→Calls Tryz.prog 115 #[.pointer (some ⟨K.B,0,none⟩),.slice (some a) P.n c] Z fun e w'=>DrawL Z (P.n+P.k) (fun a b=>r (a%P.n) (b%P.n)) e w'):=fun Z hZ=>spread_any (h.below hZ) hn1 hn7 hk8 r X _ (hl.below hZ (Nat.le_refl _))
 have HC:Hid (∀Z,Below W.heap.size W Z→∀(Y:Nat→Prop) (l:Value),LnkS Z Y l (tabL (P.n+P.k) fun a b=>r (a%P.n) (b%P.n))→Calls Tryz.prog 114 #[.pointer (some ⟨K.B,5,none⟩),l] Z fun e w'=>e=.returned (.tuple #[])∧∃lv' w1,Below Z.heap.size Z w1∧w'=w1.setCell ⟨K.B,5+1,none⟩ lv'∧LnkS w1 (fun b=>Z.heap.size≤b∧LTg w1 b) lv' (tabL (P.n+P.k) fun a b=>r (a%P.n) (b%P.n))∧∃a n c,lv'=.slice (some a) n c):=fun Z hZ Y l hY=>pcut_any (P.n+P.k) (by omega) _ Y l _ _ _ _ _ _ _ (h.below hZ).net ((h.below hZ).fzB 6) hY
 have HP:=hideIt h;have hnil:=nilNqLs W a P.n c;obtain⟨⟨c0,_⟩,_⟩:=h.cells;have HW:Hid (∀W4 lv',Below W.heap.size W W4→LkP W4 lv' false (tabL (P.n+P.k) fun a b=>r (a%P.n) (b%P.n))→StTold w0 K P W (wideP P r) (W4.setCell ⟨K.B,6,none⟩ lv')):=fun W4 lv' hb hk=>⟨_,h.setL hb hk⟩
 clear h hl HP;generalize (fun a b=>r (a%P.n) (b%P.n))=R at*
 generalize P.n+P.k=N at*
 generalize wideP P r=P' at*
 go_enter Tryz.func54,Tryz.ntmps54
 go_upto_region 3 with fail
 refine wp_region_L (B:= [6]) (S:=fun _=>True) (T:=fun Z=>Below W.heap.size W Z) (by kernel_rfl) ⟨trivial,(Below.refl _ _).drew⟩ (fun hHeld=>?_);refine tkS 0 ?_ rfl ?_ ?_;rotate_left 1
 ·intro wz _;go_simp;all_goals with_reducible rfl
 simp only[Act.put,p1,p2,p3,p4,p5];refine tkS 1 ?_ rfl ?_ ?_;rotate_left 1
 ·intro wz _;go_simp;all_goals with_reducible rfl
 simp only[Act.put,p1,p2,p3,p4,p5,p6];refine tkS 2 ?_ rfl ?_ ?_;rotate_left 1
 ·intro wz _;go_simp;all_goals with_reducible rfl
 simp only[Act.put,p1,p2,p3,p4,p5,p6];refine tkS 3 ?_ rfl ?_ ?_;rotate_left 1
 ·intro wz _;go_simp;all_goals with_reducible rfl
 simp only[Act.put,p1,p2,p3,p4,p5,p6];refine tkS 4 ?_ rfl ?_ ?_;rotate_left 1
 ·intro wz _;go_simp;all_goals with_reducible rfl
 simp only[Act.put,p1,p2,p3,p4,p5,p6];refine wpAnyL_ready (rs:= [5]) (by kernel_rfl) (by simp) (AllReadyL.cons rfl (fun Q hQ=>?_) AllReadyL.nil);go_simp;refine(HS.out _ hHeld.2).mono ?_;rintro e W2 ⟨lv,rfl,h1,⟨a1,n1,c1,rfl⟩,h2⟩;have H1:=hideIt h1;refine hQ.out _ _ ⟨trivial,belJ hHeld.2 h2⟩ (fun hHeld=>?_);clear hQ Q h1 h2;refine wpAnyL_ready (rs:= [6]) (by kernel_rfl) (by simp) (AllReadyL.last rfl (by kernel_rfl) (fun Q hQ=>?_) AllReadyL.nil);go_simp;refine(HC.out _ hHeld.2 _ _ H1.out).mono ?_;rintro e W3 ⟨rfl,lv',W4,hb,rfl,h3,h4⟩;have HR:=hideIt (HW.out W4 lv' (belJ hHeld.2 hb) (.inr ⟨rfl,LnkS.mono h3 fun b _ hx=>hx.2,h4⟩));refine hQ.out _ _ trivial (fun _=>?_);clear hQ Q hHeld HS HC hb h3 h4 H1;refine wpAnyL_done (by kernel_rfl) ?_ _;go_wp2;go_ret;exact⟨rfl,HR.out⟩
end
end Go.Proofs.YtjpklmighoondaaGreatDoor.St
namespace Go.Proofs.YtjpklmighoondaaGreatDoor.St
open Go.RowKit
def stK0 (B N C:Nat):StK:=⟨B,N,C,.slice none 0 0,.slice none 0 0,.slice none 0 0,.slice none 0 0,fun _=>.slice none 0 0⟩
theorem sto_new {w W:World} {B N C n k ask tell:Nat} {back:Bool} (h:NwAt w W B N C n k (ask:Int) (tell:Int) back n 0):StoP w W (stK0 B N C) (pst0 n k ask tell back):=by
 obtain⟨cur,hc,_⟩:=h.nb;have hcl:∀i j,i < k→j < 13→W.cell? ⟨C,i*13+j,none⟩=(#[.int .i64 0,.int .i64 0,.int .i64 0,.int .i64 0,.int .i64 0,.int .i64 0,.int .i64 0,.int .i64 0,.int .i64 0,.slice none 0 0,.int .i64 0,.int .i64 0,.int .i64 0]:Array Value)[j]?:=fun i j hi hj=>by
  rw[cell_of_row _ _ _ _ 250 _ h.cb];exact clZ_at k hi hj
 refine⟨h.bel,h.blk,⟨cur,hc⟩,fun i q hi hq=>h.nx i q hi hq (.inl hi),⟨_,h.cb⟩,fun i hi=>⟨?_,⟨?_,?_,?_,?_,?_,?_,?_⟩,?_,?_,⟨?_,?_,?_⟩⟩,⟨rfl,.inl ⟨rfl,rfl⟩⟩,⟨rfl,.inl ⟨rfl,rfl⟩⟩,⟨rfl,.inl ⟨rfl,rfl⟩⟩,fun i _=>⟨rfl,.inl ⟨rfl,rfl⟩⟩,.inl ⟨rfl,rfl⟩,h.lo,fun i j _ _ _ b hb=>by cases hb⟩
 ·exact hcl i 0 hi (by decide)
 ·exact hcl i 1 hi (by decide)
 ·exact hcl i 2 hi (by decide)
 ·exact hcl i 3 hi (by decide)
 ·exact hcl i 4 hi (by decide)
 ·exact hcl i 5 hi (by decide)
 ·exact hcl i 6 hi (by decide)
 ·exact hcl i 7 hi (by decide)
 ·exact hcl i 8 hi (by decide)
 ·exact hcl i 9 hi (by decide)
 ·exact hcl i 10 hi (by decide)
 ·exact hcl i 11 hi (by decide)
 ·exact hcl i 12 hi (by decide)
theorem PInv.up2 {P:Pst} {b:Nat} (h:PInv P b) (hb:b+2≤9000):PInv P (b+2):=(h.up (by omega)).up hb
theorem pinv0 {n k ask tell:Nat} (back:Bool) (h1:1≤n) (h7:n≤7) (h8:k≤8):PInv (pst0 n k ask tell back) 0:=
 ⟨h1,h7,h8,by omega,Nat.le_refl _,Nat.le_refl _,Nat.zero_le _,fun m hm=>(by cases hm),fun i _=>⟨Nat.le_refl _,⟨Int.le_refl _,Int.le_refl _⟩,⟨Int.le_refl _,Int.le_refl _⟩,Int.le_refl _,(show (0:Int) < 8 by decide)⟩,fun i q _ _=>⟨Int.le_refl _,Int.le_refl _⟩,fun m hm=>by cases hm⟩
theorem PInv.links {P:Pst} {b:Nat} (h:PInv P b) (nil:Bool) (r:Nat→Nat→Bool):PInv {P with nil:=nil,lr:=r} b:=⟨h.n1,h.n7,h.k8,h.b0,h.ev,h.st,h.ml,h.mq,h.cl,h.hs,h.fr⟩
theorem PInv.play {P:Pst} {b:Nat} (h:PInv P b) (hb:b+2≤9000) (m:Mvs):PInv (playP P m) (b+2):=by
 unfold playP;repeat' split
 ·exact(h.beg (by omega) _ _ _ _).up (by omega)
 ·exact(h.beg (by omega) _ _ _ _).up (by omega)
 ·exact h.deli hb _
 ·exact(h.drop _).up2 hb
 ·exact(h.doub _).up2 hb
 ·exact(h.give (by omega) _).up (by omega)
 ·exact(h.links true P.lr).up2 hb
 ·unfold cutP
  split
  ·exact(h.links false _).up2 hb
  ·exact h.up2 hb
theorem runP_take {P:Pst} {l:List Mvs} {i:Nat} (hi:i < l.length):runP P (l.take (i+1))=playP (runP P (l.take i)) l[i]:=by
 unfold runP;rw[List.take_succ_eq_append_getElem hi,List.foldl_append];rfl
theorem runP_inv {n k ask tell:Nat} (back:Bool) (h1:1≤n) (h7:n≤7) (h8:k≤8) (l:List Mvs) (hl:l.length≤4000):∀i,i≤l.length→PInv (runP (pst0 n k ask tell back) (l.take i)) (2*i):=by
 intro i
 induction i with
 | zero=>exact fun _=>pinv0 back h1 h7 h8
 | succ i ih=>
  intro hi;rw[runP_take (by omega)];exact(ih (by omega)).play (by omega) _
end Go.Proofs.YtjpklmighoondaaGreatDoor.St
namespace Go.Proofs.YtjpklmighoondaaGreatDoor.Gn
theorem wpAnyH_more {P:Program} {md:Region.Mode} {ops:Array Oper} {Q:Exit→Act→World→Prop} {S S':World→Prop} (hS:∀w,S' w→S w):∀(fuel:Nat) (listed:Array Bool) (a:Act) (w:World),wpAnyH P md ops Q S' fuel listed a w→wpAnyH P md ops Q S fuel listed a w
 | 0,_,_,_,h=>h
 | fuel+1,_,_,_,h=>⟨h.1,fun i hi=>wpOp_mono (fun a' w' h'=>⟨hS w' h'.1,wpAnyH_more hS fuel _ a' w' h'.2⟩) (h.2 i hi)⟩
open Go.RowKit
def clA:Option Cl→Value
 | none=>.agg #[.bool false,.int .i64 0,.int .i64 0]
 | some c=>.agg #[.bool c.wr,.int .i64 c.key,.int .i64 c.v]
def clV (c:Option Cl):Value:=.tuple #[clA c,.bool c.isSome]
structure NxTold (n base B o : Nat) (t : Tp) (w : World) (v : Value) (g : Gt) (bs : List Nat) (e : Ending) (w' : World) : Prop where
 ret:e=.returned (clV (nextF n g t).c)
 tp:TpAt w' base B o (nextF n g t).t
 gen:∃bs',GAt n w' base v (nextF n g t).g bs'∧∀b∈bs',b∈bs
 fr:Fr (B::bs) w w'
 oth:∀p:Addr,p.block=B→p≠⟨B,o+1,none⟩→w'.cell? p=w.cell? p∧w'.frozen? p=w.frozen? p
structure MetOk (v : Value) (T : TypeId) (x : Value) (F : FuncId) : Prop where
 shape:v=.iface T x
 nil : ∀ w, (nilAhead 526 T x "Next").run Tryz.prog w = .ok (some false) w
 met : ∀ w, (method 526 T x "Next").run Tryz.prog w = .ok (F, x) w
 ent:∀args w,(callFunc F args).run Tryz.prog w=.ok (.enter F args) w
theorem tpTurn_oth (w:World) (B o:Nat) (t:Tp) (n:Int) (p:Addr) (hp:p≠⟨B,o+1,none⟩):(tpTurn w B o t n).cell? p=w.cell? p∧(tpTurn w B o t n).frozen? p=w.frozen? p:=by
 unfold tpTurn
 split
 ·exact⟨rfl,rfl⟩
 ·exact⟨World.cell?_setCell_other _ _ _ _ (Ne.symm hp),frozen_setCell _ _ _ _⟩
theorem results_two {fn:Func} {p u:Tmp} {ty:TypeId} (h:fn.results=#[.cell p ty,.tmp u]) (tmps:Array Value) (w:World) (g:Nat) (v:Value)
  (hp:tmps.getD p undef=.pointer (some ⟨g,0,none⟩)) (hl:(loadVar ty ⟨g,0,none⟩).run Tryz.prog w=.ok v w):(results fn tmps).run Tryz.prog w=.ok (.tuple #[v,tmps.getD u undef]) w:=by
 rw[results_cell_tmp h];simp only[hp,asAddr,Sem.run_pure,Result.andThen_ok,hl]
theorem sizeCl:(Tryz.prog.info? 195).map (·.size)=some 3:=by kernel_rfl
theorem loadCl {w:World} {g:Nat} {v u x:Value} (h:w.cell? ⟨g,0,none⟩=some v) (h':w.cell? ⟨g,1,none⟩=some u) (h'':w.cell? ⟨g,2,none⟩=some x):(loadVar 195 ⟨g,0,none⟩).run Tryz.prog w=.ok (.agg #[v,u,x]) w:=
 run_loadVar_mid w g 0 195 [v,u,x] _ (fun j y hy=>by
  match j with
  | 0=>simp at hy;subst hy;exact h
  | 1=>simp at hy;subst hy;exact h'
  | 2=>simp at hy;subst hy;exact h''
  | j+3=>simp at hy) Tryz.underlying195 rfl sizeCl
theorem blk3 {w:World} {b:Nat} {v u x:Value} {t:TypeId} (h:w.heap[b]?=some (.cells #[v,u,x] t)):w.cell? ⟨b,0,none⟩=some v∧w.cell? ⟨b,1,none⟩=some u∧w.cell? ⟨b,2,none⟩=some x:=
 ⟨by rw[cell_of_row _ _ _ _ t _ h];rfl,by rw[cell_of_row _ _ _ _ t _ h];rfl,by rw[cell_of_row _ _ _ _ t _ h];rfl⟩
theorem oth_of {w w':World} {X:List Nat} (h:Fr X w w') {B:Nat} (hB:B < w.heap.size) (hn:B∉X) (p:Addr) (hp:p.block=B):w'.cell? p=w.cell? p∧w'.frozen? p=w.frozen? p:=by
 subst hp;exact⟨World.cell?_of_block (h.block _ hB hn),World.frozen?_of_block (h.block _ hB hn)⟩
def set3 (w:World) (G:Nat) (a b c:Value):World:=((w.setCell ⟨G,0,none⟩ a).setCell ⟨G,1,none⟩ b).setCell ⟨G,2,none⟩ c
theorem offN {g a b:Nat} (h:a≠b):(⟨g,a,none⟩:Addr)≠⟨g,b,none⟩:=fun e=>h (by injection e)
theorem load_set3 {w:World} {G:Nat} {x y z a b c:Value} (h0:w.cell? ⟨G,0,none⟩=some x) (h1:w.cell? ⟨G,1,none⟩=some y) (h2:w.cell? ⟨G,2,none⟩=some z):(loadVar 195 ⟨G,0,none⟩).run Tryz.prog (set3 w G a b c)=.ok (.agg #[a,b,c]) (set3 w G a b c):=by
 unfold set3;refine loadCl ?_ ?_ ?_
 ·rw[World.cell?_setCell_other _ _ _ _ (offN (by omega)),World.cell?_setCell_other _ _ _ _ (offN (by omega))];exact World.cell?_setCell_same' _ _ _ (by rw[h0];rfl)
 ·rw[World.cell?_setCell_other _ _ _ _ (offN (by omega))];refine World.cell?_setCell_same' _ _ _ ?_;rw[World.cell?_setCell_other _ _ _ _ (offN (by omega)),h1];rfl
 ·refine World.cell?_setCell_same' _ _ _ ?_;rw[World.cell?_setCell_other _ _ _ _ (offN (by omega)),World.cell?_setCell_other _ _ _ _ (offN (by omega)),h2];rfl
theorem fr_set3 {X:List Nat} {w W:World} (h:Fr X w W) {G:Nat} (hG:w.heap.size≤G) (a b c:Value):Fr X w (set3 W G a b c):=((h.setNew _ _ hG).setNew _ _ hG).setNew _ _ hG
theorem fr_set3' (w:World) (G:Nat) (a b c:Value):Fr [G] w (set3 w G a b c):=((Fr.set w _ a (by simp)).trans (Fr.set _ _ b (by simp))).trans (Fr.set _ _ c (by simp))
theorem oth_set3 (w:World) (G:Nat) (a b c:Value) (p:Addr) (hp:p.block≠G):(set3 w G a b c).cell? p=w.cell? p∧(set3 w G a b c).frozen? p=w.frozen? p:=by
 have ne:∀j,(⟨G,j,none⟩:Addr)≠p:=fun j e=>hp (by rw[←e])
 unfold set3;exact⟨((World.cell?_setCell_other _ _ _ _ (ne _)).trans (World.cell?_setCell_other _ _ _ _ (ne _))).trans (World.cell?_setCell_other _ _ _ _ (ne _)),by rw[frozen_setCell,frozen_setCell,frozen_setCell]⟩
theorem Fr.app {X Y:List Nat} {a b c:World} (h:Fr X a b) (k:Fr Y b c) (hX:∀x∈X,x∈Y∨a.heap.size≤x):Fr Y a c:=(h.more hX).trans k
set_option maxHeartbeats 1000000 in
theorem read_next (n base B o:Nat) (k:Int) (t:Tp) (w:World) (h:TpAt w base B o t):
  Calls Tryz.prog 315 #[.agg #[.int .i64 k],.pointer (some ⟨B,o,none⟩)] w (NxTold (n+1) base B o t w (.iface 182 (.agg #[.int .i64 k])) (.rd k) []):=by
 have HT:=hideIt h;clear h;go_enter Tryz.func315,Tryz.ntmps315
 go_wp2;have hfr:∀X o1 o2,Fr X w ((w.alloc o1).alloc o2):=fun X o1 o2=>(Fr.alloc X w o1).trans (Fr.alloc X _ o2)
 have hb3:=heap_new (w.alloc (.cells #[.int .i64 k] 182)) (.cells #[.bool false,.int .i64 k,.int .i64 0] 195);rw[World.size_alloc] at hb3;obtain⟨z0,z1,z2⟩:=blk3 hb3;exact bodyPost_ret (results_two rfl _ _ _ _ rfl (loadCl z0 z1 z2)) rfl ⟨rfl,HT.out.fr (hfr [] _ _) (by simp) (by simp),⟨[],⟨rfl,rfl⟩,by simp⟩,hfr _ _ _,fun p hp _=>oth_of (hfr [] _ _) HT.out.lt (by simp) p hp⟩
set_option maxHeartbeats 2000000 in
theorem write_next (n base B o:Nat) (k lo hi:Int) (t:Tp) (w:World) (h:TpAt w base B o t) (hu:t.u≤1000000000) (h1: -1000000≤lo) (h2:lo≤hi) (h3:hi≤1000000):
  Calls Tryz.prog 320 #[.agg #[.int .i64 k,.int .i64 lo,.int .i64 hi],.pointer (some ⟨B,o,none⟩)] w (NxTold (n+1) base B o t w (.iface 248 (.agg #[.int .i64 k,.int .i64 lo,.int .i64 hi])) (.wr k lo hi) []):=by
 have HT:=hideIt h;have HB:=hideIt (fun W (h:TpAt W base B o t)=>tBelow_any base B o (hi - lo+1) t W h hu (by omega));have HL:=hideIt (Tp.below_lt (t:=t) (n:=hi - lo+1) (by omega));have hlt:=h.lt;clear h;have w1:IntKind.i64.wrap (hi - lo)=hi - lo:=by rw[IntKind.wrap_i64];omega
 have w2:IntKind.i64.wrap (hi - lo+1)=hi - lo+1:=by rw[IntKind.wrap_i64];omega
 go_enter Tryz.func320,Tryz.ntmps320
 go_upto_region 1 with fail
 have hfr:∀X o1 o2,Fr X w (((w.alloc o1).alloc o2).drewN 1):=fun X o1 o2=>((Fr.alloc X w o1).trans (Fr.alloc X _ o2)).trans (Fr.drewN X _ 1)
 have HF:=hideIt hfr;clear hfr;have hc0:=heap_new w (.cells #[.int .i64 k,.int .i64 lo,.int .i64 hi] 248);obtain⟨x0,x1,x2⟩:=blk3 hc0;refine wp_region_held_drew (S:=fun W=>W.cell? ⟨w.heap.size,0,none⟩=some (.int .i64 k)∧W.cell? ⟨w.heap.size,1,none⟩=some (.int .i64 lo)∧W.cell? ⟨w.heap.size,2,none⟩=some (.int .i64 hi)) (by kernel_rfl) ?_ (fun hHeld=>?_)
 ·exact⟨(World.cell?_alloc_lt _ _ _ (by simp)).trans x0,(World.cell?_alloc_lt _ _ _ (by simp)).trans x1,(World.cell?_alloc_lt _ _ _ (by simp)).trans x2⟩
 refine tkH 0 ?_ rfl ?_ ?_;rotate_left 1
 ·intro wz hwz;go_simp;all_goals with_reducible rfl
 simp only[Act.put,p1,p2,p3,p4,p5];refine tkH 1 ?_ rfl ?_ ?_;rotate_left 1
 ·intro wz hwz;obtain⟨y0,y1,y2⟩:=hwz;go_simp;all_goals with_reducible rfl
 simp only[Act.put,p1,p2,p3,p4,p5,p6];refine tkH 2 ?_ rfl ?_ ?_;rotate_left 1
 ·intro wz hwz;go_simp;all_goals with_reducible rfl
 simp only[Act.put,p1,p2,p3,p4,p5,p6];refine tkH 3 ?_ rfl ?_ ?_;rotate_left 1
 ·intro wz hwz;obtain⟨y0,y1,y2⟩:=hwz;go_simp;all_goals with_reducible rfl
 simp only[Act.put,p1,p2,p3,p4,p5,p6];refine tkH 4 ?_ rfl ?_ ?_;rotate_left 1
 ·intro wz hwz;go_simp;all_goals with_reducible rfl
 simp only[Act.put,p1,p2,p3,p4,p5,p6];refine tkH 5 ?_ rfl ?_ ?_;rotate_left 1
 ·intro wz hwz;go_simp;all_goals with_reducible rfl
 simp only[Act.put,p1,p2,p3,p4,p5,p6];refine tkH 6 ?_ rfl ?_ ?_;rotate_left 1
 ·intro wz hwz;obtain⟨y0,y1,y2⟩:=hwz;go_simp;all_goals with_reducible rfl
 simp only[Act.put,p1,p2,p3,p4,p5,p6];refine tkH 7 ?_ rfl ?_ ?_;rotate_left 1
 ·intro wz hwz;go_simp;all_goals with_reducible rfl
 simp only[Act.put,p1,p2,p3,p4,p5,p6];refine tkH 8 ?_ rfl ?_ ?_;rotate_left 1
 ·intro wz hwz;obtain⟨y0,y1,y2⟩:=hwz;go_simp;all_goals with_reducible rfl
 simp only[Act.put,p1,p2,p3,p4,p5,p6];refine tkH 9 ?_ rfl ?_ ?_;rotate_left 1
 ·intro wz hwz;go_simp;all_goals with_reducible rfl
 simp only[Act.put,p1,p2,p3,p4,p5,p6];refine tkH 10 ?_ rfl ?_ ?_;rotate_left 1
 ·intro wz hwz;go_simp;all_goals with_reducible rfl
 simp only[Act.put,p1,p2,p3,p4,p5,p6];have hsz:(((w.alloc (Obj.cells #[Value.int IntKind.i64 k,Value.int IntKind.i64 lo,Value.int IntKind.i64 hi] 248)).alloc (Obj.cells #[Value.bool false,Value.int IntKind.i64 0,Value.int IntKind.i64 0] 195)).drewN 1).heap.size=w.heap.size+2:=by simp[World.drewN]
 have hc1:(((w.alloc (Obj.cells #[Value.int IntKind.i64 k,Value.int IntKind.i64 lo,Value.int IntKind.i64 hi] 248)).alloc (Obj.cells #[Value.bool false,Value.int IntKind.i64 0,Value.int IntKind.i64 0] 195)).drewN 1).heap[w.heap.size+1]?=some (Obj.cells #[Value.bool false,Value.int IntKind.i64 0,Value.int IntKind.i64 0] 195):=by
  have:=heap_new (w.alloc (Obj.cells #[Value.int IntKind.i64 k,Value.int IntKind.i64 lo,Value.int IntKind.i64 hi] 248)) (Obj.cells #[Value.bool false,Value.int IntKind.i64 0,Value.int IntKind.i64 0] 195);rw[World.size_alloc] at this;exact this
 have hF0:=HF.out [] (Obj.cells #[Value.int IntKind.i64 k,Value.int IntKind.i64 lo,Value.int IntKind.i64 hi] 248) (Obj.cells #[Value.bool false,Value.int IntKind.i64 0,Value.int IntKind.i64 0] 195);have HT0:=hideIt (HT.out.fr hF0 (by simp) (by simp));have HF0:=hideIt hF0;clear hF0 HF x0 x1 x2 hc0;change wpAnyH _ _ _ _ _ _ _ _ (World.drewN _ 1);have hHeld0:(World.drewN _ 1).cell? _=_∧(World.drewN _ 1).cell? _=_∧(World.drewN _ 1).cell? _=_:=hHeld;clear hHeld;generalize ((w.alloc (Obj.cells #[Value.int IntKind.i64 k,Value.int IntKind.i64 lo,Value.int IntKind.i64 hi] 248)).alloc (Obj.cells #[Value.bool false,Value.int IntKind.i64 0,Value.int IntKind.i64 0] 195)).drewN 1=W0 at*
 refine wpAnyH_ready (rs:= [11]) (by kernel_rfl) (by simp) (AllReadyH.cons rfl (fun K hK=>?_) AllReadyH.nil);go_simp;refine(HB.out _ HT0.out).mono ?_;rintro y w1 ⟨rfl,n1,rfl⟩;have hg1:=grown_turn W0 B o t (hi - lo+1) n1;have hoth:=tpTurn_oth (W0.drewN n1) B o t (hi - lo+1);have hT1:=HT0.out.turn (hi - lo+1) n1;have hck:∀p:Addr,p.block≠B→p.block < W0.heap.size→(tpTurn (W0.drewN n1) B o t (hi - lo+1)).cell? p=W0.cell? p:=fun p hp hl=>World.cell?_of_block (hg1.block _ hl (fun e=>hp (by injection e)))
 have hk:(tpTurn (W0.drewN n1) B o t (hi - lo+1)).heap[w.heap.size+1]?=some (Obj.cells #[Value.bool false,Value.int IntKind.i64 0,Value.int IntKind.i64 0] 195):=(hg1.block _ (by omega) (fun e=>by injection e with e;omega)).trans hc1;have hHeld1:(tpTurn (W0.drewN n1) B o t (hi - lo+1)).cell? ⟨w.heap.size,0,none⟩=some (.int .i64 k)∧(tpTurn (W0.drewN n1) B o t (hi - lo+1)).cell? ⟨w.heap.size,1,none⟩=some (.int .i64 lo)∧(tpTurn (W0.drewN n1) B o t (hi - lo+1)).cell? ⟨w.heap.size,2,none⟩=some (.int .i64 hi):=⟨(hck _ (by simp;omega) (by simp;omega)).trans hHeld0.1,(hck _ (by simp;omega) (by simp;omega)).trans hHeld0.2.1,(hck _ (by simp;omega) (by simp;omega)).trans hHeld0.2.2⟩;have hvy:IntKind.i64.wrap (lo+t.below (hi - lo+1))=lo+t.below (hi - lo+1):=by have:=HL.out;rw[IntKind.wrap_i64];omega
 have HFt:=hideIt (Fr.turn W0 B o t (hi - lo+1) n1);have HOt:=hideIt hoth;have HT1:=hideIt hT1;have HNx:Hid (nextF (n+1) (.wr k lo hi) t=⟨some ⟨true,k,lo+t.below (hi - lo+1)⟩,.wr k lo hi,t.on (hi - lo+1)⟩):=hideIt rfl;generalize tpTurn (W0.drewN n1) B o t (hi - lo+1)=W1 at*
 clear hg1 hoth hT1 hck HB HL;generalize t.below (hi - lo+1)=y at*
 refine hK.out _ _ ?_ (fun hHeld=>?_)
 ·exact hHeld1
 clear hK K;refine tkH 12 ?_ rfl ?_ ?_;rotate_left 1
 ·intro wz hwz;go_simp;all_goals with_reducible rfl
 simp only[Act.put,p1,p2,p3,p4,p5,p6];refine tkH 13 ?_ rfl ?_ ?_;rotate_left 1
 ·intro wz hwz;go_simp;all_goals with_reducible rfl
 simp only[Act.put,p1,p2,p3,p4,p5,p6];obtain⟨z0,z1,z2⟩:=blk3 hk;have f0:=frozen_of_row W1 (w.heap.size+1) 0 _ 195 hk;have f1:=frozen_of_row W1 (w.heap.size+1) 1 _ 195 hk;have f2:=frozen_of_row W1 (w.heap.size+1) 2 _ 195 hk;refine wpAnyH_ready (rs:= [14]) (by kernel_rfl) (by simp) (AllReadyH.cons rfl (fun K hK=>?_) AllReadyH.nil);go_simp;change K _ (set3 W1 (w.heap.size+1) (.bool true) (.int .i64 k) (.int .i64 (lo+y)));have hld:=load_set3 (a:=.bool true) (b:=.int .i64 k) (c:=.int .i64 (lo+y)) z0 z1 z2;have hF2:Fr [B] w (set3 W1 (w.heap.size+1) (.bool true) (.int .i64 k) (.int .i64 (lo+y))):=fr_set3 (HF0.out.app HFt.out (by simp)) (by omega) _ _ _;have hT2:TpAt (set3 W1 (w.heap.size+1) (.bool true) (.int .i64 k) (.int .i64 (lo+y))) base B o (t.on (hi - lo+1)):=HT1.out.fr (fr_set3' _ _ _ _ _) (by simp;omega) (by have:=HT1.out.lo;simp;omega);have hO2:∀p:Addr,p.block=B→p≠⟨B,o+1,none⟩→(set3 W1 (w.heap.size+1) (.bool true) (.int .i64 k) (.int .i64 (lo+y))).cell? p=w.cell? p∧(set3 W1 (w.heap.size+1) (.bool true) (.int .i64 k) (.int .i64 (lo+y))).frozen? p=w.frozen? p:=fun p hp hq=>by
  obtain⟨a1,a2⟩:=oth_set3 W1 (w.heap.size+1) (.bool true) (.int .i64 k) (.int .i64 (lo+y)) p (by rw[hp];omega);obtain⟨b1,b2⟩:=HOt.out p hq;obtain⟨c1,c2⟩:=oth_of HF0.out hlt (by simp) p hp;exact⟨a1.trans (b1.trans c1),a2.trans (b2.trans c2)⟩
 have hS2:(set3 W1 (w.heap.size+1) (.bool true) (.int .i64 k) (.int .i64 (lo+y))).cell? ⟨w.heap.size,0,none⟩=some (.int .i64 k)∧(set3 W1 (w.heap.size+1) (.bool true) (.int .i64 k) (.int .i64 (lo+y))).cell? ⟨w.heap.size,1,none⟩=some (.int .i64 lo)∧(set3 W1 (w.heap.size+1) (.bool true) (.int .i64 k) (.int .i64 (lo+y))).cell? ⟨w.heap.size,2,none⟩=some (.int .i64 hi):=
  ⟨(oth_set3 W1 (w.heap.size+1) _ _ _ _ (by simp)).1.trans hHeld1.1,(oth_set3 W1 (w.heap.size+1) _ _ _ _ (by simp)).1.trans hHeld1.2.1,(oth_set3 W1 (w.heap.size+1) _ _ _ _ (by simp)).1.trans hHeld1.2.2⟩
 generalize set3 W1 (w.heap.size+1) (.bool true) (.int .i64 k) (.int .i64 (lo+y))=W2 at*
 refine hK.out _ _ hS2 (fun hHeld=>?_);clear hK K;refine tkH 15 ?_ rfl ?_ ?_;rotate_left 1
 ·intro wz hwz;go_simp;all_goals with_reducible rfl
 simp only[Act.put,p1,p2,p3,p4,p5,p6];refine wpAnyH_done (by kernel_rfl) ?_ _;go_wp2;exact bodyPost_ret (results_two rfl _ _ _ _ rfl hld) rfl ⟨by rw[HNx.out];rfl,by rw[HNx.out];exact hT2,by rw[HNx.out];exact⟨[],⟨rfl,rfl,h1,h2,h3⟩,by simp⟩,hF2,hO2⟩
end Go.Proofs.YtjpklmighoondaaGreatDoor.Gn
