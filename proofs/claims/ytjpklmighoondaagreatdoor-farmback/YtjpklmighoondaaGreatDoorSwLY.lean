/-
  The program's store, walked: Begin.
-/
import Derived.Test.YtjpklmighoondaaGreatDoorFieldsQY
import Derived.Test.YtjpklmighoondaaGreatDoorSwKY
namespace Go.Proofs.YtjpklmighoondaaGreatDoor.St
open Go.RowKit
def begB (key:Int) (wr:Bool) (v:Int):Bool:=decide (key < 0)||decide (8≤key)||decide (v < -1000000)||decide (1000000 < v)||(v != 0&& !wr)
def begC (P:Pst) (c key:Int) (wr:Bool) (v:Int):Int:=if begB key wr v=true then 2 else freeP P c
def begP (P:Pst) (c key:Int) (wr:Bool) (v:Int):Pst:=if begB key wr v=true then P else if freeP P c=0 then beginP P c.toNat key wr v else P
theorem freeP_zero {P:Pst} {c:Int} (h:freeP P c=0):0≤c∧c < P.k:=by
 unfold freeP at h
 split at h
 ·exact absurd h (by decide)
 ·omega
section
variable {w0 W W' : World} {K : StK} {P : Pst}
set_option maxRecDepth 100000 in
set_option maxHeartbeats 8000000 in
theorem begin_any {b:Nat} (h:StoP w0 W K P) (hb:PBnd P b) (c key:Int) (wr:Bool) (v:Int):
  Calls Tryz.prog 102 #[.pointer (some ⟨K.B,0,none⟩),.int .i64 c,.int .i64 key,.bool wr,.int .i64 v] W fun en W'=>en=.returned (toldE (begC P c key wr v))∧StTold w0 K P W (begP P c key wr v) W':=by
 have HP:=hideIt h;have HB:=hideIt hb;have HF:=hideIt (free_any h hb.k8 hb.ev c);cases hg:begB key wr v with
 | true=>
  have HR:Hid (toldE (begC P c key wr v)=.iface 55 (.int .i64 2)∧StTold w0 K P W (begP P c key wr v) W):=by
   unfold begC begP;rw[if_pos hg,if_pos hg];exact⟨rfl,K,h,SFr.below (Below.refl _ _)⟩
  have HG:=hideIt hg;clear h hb hg HP HB HF;by_cases k0:key < 0
  ·have d0:decide (key < 0)=true:=decide_eq_true k0;clear k0;go_enter Tryz.func102,Tryz.ntmps102
   go_wp2;go_ret;exact⟨by rw[HR.out.1];rfl,HR.out.2⟩
  have d0:decide (key < 0)=false:=decide_eq_false k0;by_cases k1:8≤key
  ·have d1:decide (key≥8)=true:=decide_eq_true k1;clear k0 k1;go_enter Tryz.func102,Tryz.ntmps102
   go_wp2;go_ret;exact⟨by rw[HR.out.1];rfl,HR.out.2⟩
  have d1:decide (key≥8)=false:=decide_eq_false k1;by_cases k2:v < -1000000
  ·have d2:decide (v < -1000000)=true:=decide_eq_true k2;clear k0 k1 k2;go_enter Tryz.func102,Tryz.ntmps102
   go_wp2;go_ret;exact⟨by rw[HR.out.1];rfl,HR.out.2⟩
  have d2:decide (v < -1000000)=false:=decide_eq_false k2;by_cases k3:1000000 < v
  ·have d3:decide (v > 1000000)=true:=decide_eq_true k3;clear k0 k1 k2 k3;go_enter Tryz.func102,Tryz.ntmps102
   go_wp2;go_ret;exact⟨by rw[HR.out.1];rfl,HR.out.2⟩
  have d3:decide (v > 1000000)=false:=decide_eq_false k3;obtain⟨hv,hw⟩:(v != 0)=true∧wr=false:=by
   have:=HG.out;unfold begB at this;rw[decide_eq_false k0,decide_eq_false k1,decide_eq_false k2,decide_eq_false k3] at this
   simpa using this
  subst hw;clear k0 k1 k2 k3;go_enter Tryz.func102,Tryz.ntmps102
  go_wp2;go_ret;exact⟨by rw[HR.out.1];rfl,HR.out.2⟩
 | false=>
  obtain⟨d0,d1,d2,d3,dv⟩:decide (key < 0)=false∧decide (key≥8)=false∧decide (v < -1000000)=false∧decide (v > 1000000)=false∧((v != 0)&& !wr)=false:=by
   unfold begB at hg;rw[Bool.or_eq_false_iff,Bool.or_eq_false_iff,Bool.or_eq_false_iff,Bool.or_eq_false_iff] at hg;obtain⟨⟨⟨⟨h1,h2⟩,h3⟩,h4⟩,h5⟩:=hg;exact⟨h1,h2,h3,h4,h5⟩
  by_cases hf:freeP P c=0
  rotate_left 1
  ·have HR:Hid (toldE (begC P c key wr v)=.iface 55 (.int .i64 (freeP P c))∧∀W3,Below W.heap.size W W3→StTold w0 K P W (begP P c key wr v) W3):=by
    unfold begC begP;rw[if_neg (by rw[hg];simp),if_neg (by rw[hg];simp),if_neg hf];exact⟨if_neg hf,fun W3 h3=>⟨K,h.below h3,SFr.below h3⟩⟩
   have hft:toldE (freeP P c)=.iface 55 (.int .i64 (freeP P c)):=if_neg hf;rw[hft] at HF;clear h hb hg HP HB hf hft;generalize begC P c key wr v=cd at*
   generalize begP P c key wr v=Pend at*
   generalize freeP P c=f at*
   cases wr with
   | true=>
    clear dv;cases hv:(v != 0) with
    | true=>
     go_enter Tryz.func102,Tryz.ntmps102
     go_upto_region 3 with fail
     go_wp2_with fail
     refine HF.out.mono ?_;rintro e W1 ⟨rfl,hb1⟩;have HB1:=hideIt hb1;clear hb1;go_wp2;go_ret;exact⟨by rw[HR.out.1];rfl,HR.out.2 _ HB1.out⟩
    | false=>
     go_enter Tryz.func102,Tryz.ntmps102
     go_upto_region 3 with fail
     go_wp2_with fail
     refine HF.out.mono ?_;rintro e W1 ⟨rfl,hb1⟩;have HB1:=hideIt hb1;clear hb1;go_wp2;go_ret;exact⟨by rw[HR.out.1];rfl,HR.out.2 _ HB1.out⟩
   | false=>
    replace dv:(v != 0)=false:=by simpa using dv
    go_enter Tryz.func102,Tryz.ntmps102
    go_upto_region 3 with fail
    go_wp2_with fail
    refine HF.out.mono ?_;rintro e W1 ⟨rfl,hb1⟩;have HB1:=hideIt hb1;clear hb1;go_wp2;go_ret;exact⟨by rw[HR.out.1];rfl,HR.out.2 _ HB1.out⟩
  obtain⟨hc0,hck⟩:=freeP_zero hf;obtain⟨i,rfl⟩:∃i:Nat,c=i:=⟨c.toNat,by omega⟩;have hi:i < P.k:=by omega
  have HCd:Hid (toldE (begC P (i:Int) key wr v)=.nilIface):=by
   show _=_;unfold begC;rw[if_neg (by rw[hg];simp),hf];rfl
  have HPe:Hid (begP P (i:Int) key wr v=beginP P i key wr v):=by
   show _=_;unfold begP;rw[if_neg (by rw[hg];simp),if_pos hf,Int.toNat_natCast]
  have hft:toldE (freeP P (i:Int))=.nilIface:=by rw[hf];rfl
  rw[hft] at HF;clear h hb hg hf hft hc0;generalize begC P (i:Int) key wr v=cd at*
  generalize begP P (i:Int) key wr v=Pend at*
  cases wr with
  | true=>
   clear dv;cases hv:(v != 0) with
   | true=>
    have HSee:Hid (∀Z,Below W.heap.size W Z→Calls Tryz.prog 150 #[.pointer (some ⟨K.B,0,none⟩),.agg #[.int .i64 (i:Int),.int .i64 1,.int .i64 key,.int .i64 2,.int .i64 v,.int .i64 0,.int .i64 0],.agg #[.int .i64 0,.int .i64 0]] Z fun en W'=>en=.returned (.tuple #[])∧StTold w0 K P Z (seeP P (callP (i:Int) key true v) zeroS) W'):=fun Z hZ=>see_any (HP.out.below hZ) HB.out.ev HB.out.st (callP (i:Int) key true v) zeroS
    have HOw:Hid (∀b,K.own P.k b→b < W.heap.size):=fun b hb=>(HP.out.own_lt hb).2
    have hrd:=(HB.out.cl i hi).2.1;have HBd:=hideIt hrd;have HN7:Hid (P.n≤7∧P.k≤8∧b≤9000):=⟨HB.out.n7,HB.out.k8,HB.out.b0⟩;have HCl:Hid (K.B < W.heap.size∧K.C < W.heap.size):=⟨HP.out.ltB,HP.out.ltC⟩;clear hrd HP HB;go_enter Tryz.func102,Tryz.ntmps102
    go_upto_region 3 with fail
    go_wp2_with fail
    refine HF.out.mono ?_;rintro e W1 ⟨rfl,hb1⟩;have HB1:=hideIt hb1;clear hb1 HF;go_wp2_with fail
    have hbx:Below W1.heap.size W1 (W1.alloc (.cells #[.int .i64 (i:Int),.int .i64 1,.int .i64 key,.int .i64 2,.int .i64 v,.int .i64 0,.int .i64 0] 54)):=belA (Below.refl _ _) _;have hnw:=heap_alloc_new W1 (.cells #[.int .i64 (i:Int),.int .i64 1,.int .i64 key,.int .i64 2,.int .i64 v,.int .i64 0,.int .i64 0] 54);have HBx:=hideIt (belJ HB1.out hbx);have HNw:=hideIt hnw;clear hbx hnw;generalize W1.alloc (.cells #[.int .i64 (i:Int),.int .i64 1,.int .i64 key,.int .i64 2,.int .i64 v,.int .i64 0,.int .i64 0] 54)=Wx at*
    refine(HSee.out _ HBx.out).mono ?_;rintro e W2 ⟨rfl,K1,hP2,hF2⟩;have hx2:W2.heap[W1.heap.size]?=some (.cells #[.int .i64 (i:Int),.int .i64 1,.int .i64 key,.int .i64 2,.int .i64 v,.int .i64 0,.int .i64 0] 54):=by
     refine(hF2.rest _ (lt_of_heap HNw.out) fun ho=>?_).trans HNw.out;have:=HOw.out _ ho;have:=HB1.out.size;omega
    have eB:=hF2.B.1;have eC:=hF2.B.2.2;have HP2:=hideIt hP2;have HF2:Hid (SFr K P.k W W2 K1):=(SFr.below HBx.out).trans hF2;have HX2:=hideIt hx2;clear hP2 hF2 hx2 HSee HNw HBx;have hsz:W.heap.size≤W1.heap.size:=HB1.out.size;have hlt:=HCl.out;have HT:Hid (∀Z,Below W2.heap.size W2 Z→Z.cell? ⟨K.B,8,none⟩=some (.slice (some ⟨K.C,0,none⟩) P.k P.k)):=fun Z hZ=>by
     have:=(HP2.out.below hZ).cells.2.2.2.2.1;rw[eB,eC] at this;exact this
    have HU:Hid (∀Z,Below W2.heap.size W2 Z→Z.cell? ⟨W1.heap.size,0,none⟩=some (.int .i64 (i:Int))∧Z.cell? ⟨W1.heap.size,1,none⟩=some (.int .i64 1)∧Z.cell? ⟨W1.heap.size,2,none⟩=some (.int .i64 key)∧Z.cell? ⟨W1.heap.size,3,none⟩=some (.int .i64 2)∧Z.cell? ⟨W1.heap.size,4,none⟩=some (.int .i64 v)∧Z.cell? ⟨W1.heap.size,5,none⟩=some (.int .i64 0)∧Z.cell? ⟨W1.heap.size,6,none⟩=some (.int .i64 0)):=fun Z hZ=>blkEv (e:=callP (i:Int) key true v) ((hZ.block _ (lt_of_heap HX2.out)).trans HX2.out)
    have HEnd:Hid (∀Z,Below W2.heap.size W2 Z→EvpAt Z K.C (i*13+1) (P.cl i).call∧(∀j,Z.frozen? ⟨K.C,j,none⟩=false)∧∃K3,K3.B=K.B∧K3.N=K.N∧K3.C=K.C∧StoP w0 ((((((((Z).setCell ⟨K.C,i*13+1,none⟩ (.int .i64 (i:Int))).setCell ⟨K.C,i*13+1+1,none⟩ (.int .i64 1)).setCell ⟨K.C,i*13+1+2,none⟩ (.int .i64 key)).setCell ⟨K.C,i*13+1+3,none⟩ (.int .i64 2)).setCell ⟨K.C,i*13+1+4,none⟩ (.int .i64 v)).setCell ⟨K.C,i*13+1+5,none⟩ (.int .i64 0)).setCell ⟨K.C,i*13+1+6,none⟩ (.int .i64 0)) K3 {seeP P (callP (i:Int) key true v) zeroS with cl:=updP P.cl i {P.cl i with call:=callP (i:Int) key true v}} ∧SFr K P.k W ((((((((Z).setCell ⟨K.C,i*13+1,none⟩ (.int .i64 (i:Int))).setCell ⟨K.C,i*13+1+1,none⟩ (.int .i64 1)).setCell ⟨K.C,i*13+1+2,none⟩ (.int .i64 key)).setCell ⟨K.C,i*13+1+3,none⟩ (.int .i64 2)).setCell ⟨K.C,i*13+1+4,none⟩ (.int .i64 v)).setCell ⟨K.C,i*13+1+5,none⟩ (.int .i64 0)).setCell ⟨K.C,i*13+1+6,none⟩ (.int .i64 0)) K3):=fun Z hZ=>by
     have hz:=HP2.out.below hZ;obtain⟨h1,h2⟩:=hz.setCall hi (callP (i:Int) key true v);have hcx:=(hz.cx i hi).call;have hfz:=hz.fzC;have hN:=HF2.out.B.2.1;rw[eC] at h1 h2 hcx;refine⟨hcx,fun j=>by rw[←eC];exact hfz j,{K1 with cv:=updP K1.cv i (K1.cv i),C:=K.C},eB,hN,rfl,h1,HF2.out.trans ((SFr.below hZ).trans h2)⟩
    go_wp2_with fail
    refine wp_region_L (B:= [8]) (S:=fun _=>True) (T:=fun Z=>Below W2.heap.size W2 Z) (by kernel_rfl) ⟨trivial,(Below.refl _ _).drew⟩ (fun hHeld=>?_);refine tkS 0 ?_ rfl ?_ ?_;rotate_left 1
    ·intro wz _;go_simp;all_goals with_reducible rfl
    simp only[Act.put,p1,p2,p3,p4,p5];refine tkS 1 ?_ rfl ?_ ?_;rotate_left 1
    ·intro wz _;go_simp;all_goals with_reducible rfl
    simp only[Act.put,p1,p2,p3,p4,p5,p6];refine tkS 2 ?_ rfl ?_ ?_;rotate_left 1
    ·intro wz _;go_simp;all_goals with_reducible rfl
    simp only[Act.put,p1,p2,p3,p4,p5,p6];refine tkL [6,7,8] 3 ?_ rfl ?_ ?_;rotate_left 1
    ·intro wz sb;have y0:=HT.out wz sb.2;go_simp;all_goals with_reducible rfl
    simp only[Act.put,p1,p2,p3,p4,p5,p6];refine tkS 4 ?_ rfl ?_ ?_;rotate_left 1
    ·intro wz _;go_simp;all_goals with_reducible rfl
    simp only[Act.put,p1,p2,p3,p4,p5,p6];refine tkL [6,7,8] 5 ?_ rfl ?_ ?_;rotate_left 1
    ·intro wz sb;obtain⟨y0,y1,y2,y3,y4,y5,y6⟩:=HU.out wz sb.2;go_simp;all_goals with_reducible rfl
    simp only[Act.put,p1,p2,p3,p4,p5,p6];have hii:(i:Int) < (P.k:Int):=by omega
    obtain⟨⟨k0,k1,k2,k3,k4,k5,k6⟩,fz,K3,e1,e2,e3,hP3,hF3⟩:=HEnd.out _ hHeld.2;have HP3:=hideIt hP3;have HF3:=hideIt hF3;clear hP3 hF3 HEnd;refine tkS 6 ?_ rfl ?_ ?_;rotate_left 1
    ·intro wz _;go_simp;all_goals with_reducible rfl
    simp only[Act.put,p1,p2,p3,p4,p5,p6];refine tkS 7 ?_ rfl ?_ ?_;rotate_left 1
    ·intro wz _;go_simp;all_goals with_reducible rfl
    simp only[Act.put,p1,p2,p3,p4,p5,p6];generalize W2.drew=Y0 at*
    refine wpAnyL_ready (rs:= [8]) (by kernel_rfl) (by simp) (AllReadyL.last rfl (by kernel_rfl) (fun Q hQ=>?_) AllReadyL.nil);go_simp;refine hQ.out _ _ trivial (fun _=>?_);clear hQ Q k0 k1 k2 k3 k4 k5 k6 fz hHeld HT HU;refine wpAnyL_done (by kernel_rfl) ?_ _;generalize World.setCell _ _ _=W4 at*
    go_wp2_with fail
    have HT:Hid (∀Z,Below W4.heap.size W4 Z→Z.cell? ⟨K.B,8,none⟩=some (.slice (some ⟨K.C,0,none⟩) P.k P.k)):=fun Z hZ=>by
     have:=(HP3.out.below hZ).cells.2.2.2.2.1;rw[e1,e3] at this;exact this
    have HEnd:Hid (∀Z,Below W4.heap.size W4 Z→HdAt Z K.C (i*13+10) (P.cl i).kept∧(∀j,Z.frozen? ⟨K.C,j,none⟩=false)∧Calls Tryz.prog 151 #[.pointer (some ⟨K.B,0,none⟩),.int .i64 (i:Int),.int .i64 1] ((((Z).setCell ⟨K.C,i*13+10,none⟩ (.int .i64 0)).setCell ⟨K.C,i*13+10+1,none⟩ (.int .i64 (-1))).setCell ⟨K.C,i*13+10+2,none⟩ (.int .i64 0)) fun en W'=>en=.returned (.tuple #[])∧StTold w0 K P W Pend W'):=fun Z hZ=>by
     have hz:=HP3.out.below hZ;obtain⟨h1,h2⟩:=hz.setKept hi hd0;have hcx:=(hz.cx i hi).kept;have hfz:=hz.fzC;rw[e3] at hcx;refine⟨by simpa only[updP_same] using hcx,fun j=>by rw[←e3];exact hfz j,?_⟩;obtain⟨n7,k8,b5⟩:=HN7.out;have hb:=HBd.out;have hg:=goRound_any h1 n7 k8 hi (by show 0≤(updP (updP P.cl i _) i _ i).rd∧(updP (updP P.cl i _) i _ i).rd≤100000;simp only[updP_same];omega) 1;rw[e3] at hg;simp only[e1] at hg;refine hg.mono fun en W' ⟨g1,K5,g2,g3⟩=>⟨g1,K5,?_,HF3.out.trans ((SFr.below hZ).trans ?_)⟩
     ·rw[HPe.out];unfold beginP;simp only[updP_updP,updP_same] at g2;exact g2
     ·rw[e3] at h2;simp only[e1] at h2;exact h2.trans g3
    refine wp_region_L (B:= [8]) (S:=fun _=>True) (T:=fun Z=>Below W4.heap.size W4 Z) (by kernel_rfl) ⟨trivial,(Below.refl _ _).drew⟩ (fun hHeld=>?_);refine tkS 0 ?_ rfl ?_ ?_;rotate_left 1
    ·intro wz _;go_simp;all_goals with_reducible rfl
    simp only[Act.put,p1,p2,p3,p4,p5];refine tkS 1 ?_ rfl ?_ ?_;rotate_left 1
    ·intro wz _;go_simp;all_goals with_reducible rfl
    simp only[Act.put,p1,p2,p3,p4,p5,p6];refine tkS 2 ?_ rfl ?_ ?_;rotate_left 1
    ·intro wz _;go_simp;all_goals with_reducible rfl
    simp only[Act.put,p1,p2,p3,p4,p5,p6];refine tkL [6,7,8] 3 ?_ rfl ?_ ?_;rotate_left 1
    ·intro wz sb;have y0:=HT.out wz sb.2;go_simp;all_goals with_reducible rfl
    simp only[Act.put,p1,p2,p3,p4,p5,p6];refine tkS 4 ?_ rfl ?_ ?_;rotate_left 1
    ·intro wz _;go_simp;all_goals with_reducible rfl
    simp only[Act.put,p1,p2,p3,p4,p5,p6];have HUw:=hideIt (unwr_any W4.drew);generalize W4.drew=Y1 at*
    refine wpAnyL_ready (rs:= [5]) (by kernel_rfl) (by simp) (AllReadyL.cons rfl (fun Q hQ=>?_) AllReadyL.nil);go_simp;refine HUw.out.mono ?_;rintro e Y2 ⟨rfl,hb1⟩;have hb2:=belJ hHeld.2 hb1;refine hQ.out _ _ ⟨trivial,hb2⟩ (fun hHeld2=>?_);obtain⟨⟨k0,k1,k2⟩,fz,hG⟩:=HEnd.out _ hHeld2.2;have HG:=hideIt hG;clear hQ Q hb1 hb2 hHeld hG HEnd HUw;refine tkS 6 ?_ rfl ?_ ?_;rotate_left 1
    ·intro wz _;go_simp;all_goals with_reducible rfl
    simp only[Act.put,p1,p2,p3,p4,p5,p6];refine tkS 7 ?_ rfl ?_ ?_;rotate_left 1
    ·intro wz _;go_simp;all_goals with_reducible rfl
    simp only[Act.put,p1,p2,p3,p4,p5,p6];refine wpAnyL_ready (rs:= [8]) (by kernel_rfl) (by simp) (AllReadyL.last rfl (by kernel_rfl) (fun Q hQ=>?_) AllReadyL.nil);go_simp;refine hQ.out _ _ trivial (fun _=>?_);clear hQ Q k0 k1 k2 fz hHeld2 HT;refine wpAnyL_done (by kernel_rfl) ?_ _;go_wp2_with fail
    refine HG.out.mono ?_;rintro e W6 ⟨rfl,hT⟩;have HTd:=hideIt hT;clear hT HG;go_wp2;go_ret;exact⟨by rw[HCd.out];rfl,HTd.out⟩
   | false=>
    have HSee:Hid (∀Z,Below W.heap.size W Z→Calls Tryz.prog 150 #[.pointer (some ⟨K.B,0,none⟩),.agg #[.int .i64 (i:Int),.int .i64 1,.int .i64 key,.int .i64 2,.int .i64 v,.int .i64 0,.int .i64 0],.agg #[.int .i64 0,.int .i64 0]] Z fun en W'=>en=.returned (.tuple #[])∧StTold w0 K P Z (seeP P (callP (i:Int) key true v) zeroS) W'):=fun Z hZ=>see_any (HP.out.below hZ) HB.out.ev HB.out.st (callP (i:Int) key true v) zeroS
    have HOw:Hid (∀b,K.own P.k b→b < W.heap.size):=fun b hb=>(HP.out.own_lt hb).2
    have hrd:=(HB.out.cl i hi).2.1;have HBd:=hideIt hrd;have HN7:Hid (P.n≤7∧P.k≤8∧b≤9000):=⟨HB.out.n7,HB.out.k8,HB.out.b0⟩;have HCl:Hid (K.B < W.heap.size∧K.C < W.heap.size):=⟨HP.out.ltB,HP.out.ltC⟩;clear hrd HP HB;go_enter Tryz.func102,Tryz.ntmps102
    go_upto_region 3 with fail
    go_wp2_with fail
    refine HF.out.mono ?_;rintro e W1 ⟨rfl,hb1⟩;have HB1:=hideIt hb1;clear hb1 HF;go_wp2_with fail
    have hbx:Below W1.heap.size W1 (W1.alloc (.cells #[.int .i64 (i:Int),.int .i64 1,.int .i64 key,.int .i64 2,.int .i64 v,.int .i64 0,.int .i64 0] 54)):=belA (Below.refl _ _) _;have hnw:=heap_alloc_new W1 (.cells #[.int .i64 (i:Int),.int .i64 1,.int .i64 key,.int .i64 2,.int .i64 v,.int .i64 0,.int .i64 0] 54);have HBx:=hideIt (belJ HB1.out hbx);have HNw:=hideIt hnw;clear hbx hnw;generalize W1.alloc (.cells #[.int .i64 (i:Int),.int .i64 1,.int .i64 key,.int .i64 2,.int .i64 v,.int .i64 0,.int .i64 0] 54)=Wx at*
    refine(HSee.out _ HBx.out).mono ?_;rintro e W2 ⟨rfl,K1,hP2,hF2⟩;have hx2:W2.heap[W1.heap.size]?=some (.cells #[.int .i64 (i:Int),.int .i64 1,.int .i64 key,.int .i64 2,.int .i64 v,.int .i64 0,.int .i64 0] 54):=by
     refine(hF2.rest _ (lt_of_heap HNw.out) fun ho=>?_).trans HNw.out;have:=HOw.out _ ho;have:=HB1.out.size;omega
    have eB:=hF2.B.1;have eC:=hF2.B.2.2;have HP2:=hideIt hP2;have HF2:Hid (SFr K P.k W W2 K1):=(SFr.below HBx.out).trans hF2;have HX2:=hideIt hx2;clear hP2 hF2 hx2 HSee HNw HBx;have hsz:W.heap.size≤W1.heap.size:=HB1.out.size;have hlt:=HCl.out;have HT:Hid (∀Z,Below W2.heap.size W2 Z→Z.cell? ⟨K.B,8,none⟩=some (.slice (some ⟨K.C,0,none⟩) P.k P.k)):=fun Z hZ=>by
     have:=(HP2.out.below hZ).cells.2.2.2.2.1;rw[eB,eC] at this;exact this
    have HU:Hid (∀Z,Below W2.heap.size W2 Z→Z.cell? ⟨W1.heap.size,0,none⟩=some (.int .i64 (i:Int))∧Z.cell? ⟨W1.heap.size,1,none⟩=some (.int .i64 1)∧Z.cell? ⟨W1.heap.size,2,none⟩=some (.int .i64 key)∧Z.cell? ⟨W1.heap.size,3,none⟩=some (.int .i64 2)∧Z.cell? ⟨W1.heap.size,4,none⟩=some (.int .i64 v)∧Z.cell? ⟨W1.heap.size,5,none⟩=some (.int .i64 0)∧Z.cell? ⟨W1.heap.size,6,none⟩=some (.int .i64 0)):=fun Z hZ=>blkEv (e:=callP (i:Int) key true v) ((hZ.block _ (lt_of_heap HX2.out)).trans HX2.out)
    have HEnd:Hid (∀Z,Below W2.heap.size W2 Z→EvpAt Z K.C (i*13+1) (P.cl i).call∧(∀j,Z.frozen? ⟨K.C,j,none⟩=false)∧∃K3,K3.B=K.B∧K3.N=K.N∧K3.C=K.C∧StoP w0 ((((((((Z).setCell ⟨K.C,i*13+1,none⟩ (.int .i64 (i:Int))).setCell ⟨K.C,i*13+1+1,none⟩ (.int .i64 1)).setCell ⟨K.C,i*13+1+2,none⟩ (.int .i64 key)).setCell ⟨K.C,i*13+1+3,none⟩ (.int .i64 2)).setCell ⟨K.C,i*13+1+4,none⟩ (.int .i64 v)).setCell ⟨K.C,i*13+1+5,none⟩ (.int .i64 0)).setCell ⟨K.C,i*13+1+6,none⟩ (.int .i64 0)) K3 {seeP P (callP (i:Int) key true v) zeroS with cl:=updP P.cl i {P.cl i with call:=callP (i:Int) key true v}} ∧SFr K P.k W ((((((((Z).setCell ⟨K.C,i*13+1,none⟩ (.int .i64 (i:Int))).setCell ⟨K.C,i*13+1+1,none⟩ (.int .i64 1)).setCell ⟨K.C,i*13+1+2,none⟩ (.int .i64 key)).setCell ⟨K.C,i*13+1+3,none⟩ (.int .i64 2)).setCell ⟨K.C,i*13+1+4,none⟩ (.int .i64 v)).setCell ⟨K.C,i*13+1+5,none⟩ (.int .i64 0)).setCell ⟨K.C,i*13+1+6,none⟩ (.int .i64 0)) K3):=fun Z hZ=>by
     have hz:=HP2.out.below hZ;obtain⟨h1,h2⟩:=hz.setCall hi (callP (i:Int) key true v);have hcx:=(hz.cx i hi).call;have hfz:=hz.fzC;have hN:=HF2.out.B.2.1;rw[eC] at h1 h2 hcx;refine⟨hcx,fun j=>by rw[←eC];exact hfz j,{K1 with cv:=updP K1.cv i (K1.cv i),C:=K.C},eB,hN,rfl,h1,HF2.out.trans ((SFr.below hZ).trans h2)⟩
    go_wp2_with fail
    refine wp_region_L (B:= [8]) (S:=fun _=>True) (T:=fun Z=>Below W2.heap.size W2 Z) (by kernel_rfl) ⟨trivial,(Below.refl _ _).drew⟩ (fun hHeld=>?_);refine tkS 0 ?_ rfl ?_ ?_;rotate_left 1
    ·intro wz _;go_simp;all_goals with_reducible rfl
    simp only[Act.put,p1,p2,p3,p4,p5];refine tkS 1 ?_ rfl ?_ ?_;rotate_left 1
    ·intro wz _;go_simp;all_goals with_reducible rfl
    simp only[Act.put,p1,p2,p3,p4,p5,p6];refine tkS 2 ?_ rfl ?_ ?_;rotate_left 1
    ·intro wz _;go_simp;all_goals with_reducible rfl
    simp only[Act.put,p1,p2,p3,p4,p5,p6];refine tkL [6,7,8] 3 ?_ rfl ?_ ?_;rotate_left 1
    ·intro wz sb;have y0:=HT.out wz sb.2;go_simp;all_goals with_reducible rfl
    simp only[Act.put,p1,p2,p3,p4,p5,p6];refine tkS 4 ?_ rfl ?_ ?_;rotate_left 1
    ·intro wz _;go_simp;all_goals with_reducible rfl
    simp only[Act.put,p1,p2,p3,p4,p5,p6];refine tkL [6,7,8] 5 ?_ rfl ?_ ?_;rotate_left 1
    ·intro wz sb;obtain⟨y0,y1,y2,y3,y4,y5,y6⟩:=HU.out wz sb.2;go_simp;all_goals with_reducible rfl
    simp only[Act.put,p1,p2,p3,p4,p5,p6];have hii:(i:Int) < (P.k:Int):=by omega
    obtain⟨⟨k0,k1,k2,k3,k4,k5,k6⟩,fz,K3,e1,e2,e3,hP3,hF3⟩:=HEnd.out _ hHeld.2;have HP3:=hideIt hP3;have HF3:=hideIt hF3;clear hP3 hF3 HEnd;refine tkS 6 ?_ rfl ?_ ?_;rotate_left 1
    ·intro wz _;go_simp;all_goals with_reducible rfl
    simp only[Act.put,p1,p2,p3,p4,p5,p6];refine tkS 7 ?_ rfl ?_ ?_;rotate_left 1
    ·intro wz _;go_simp;all_goals with_reducible rfl
    simp only[Act.put,p1,p2,p3,p4,p5,p6];generalize W2.drew=Y0 at*
    refine wpAnyL_ready (rs:= [8]) (by kernel_rfl) (by simp) (AllReadyL.last rfl (by kernel_rfl) (fun Q hQ=>?_) AllReadyL.nil);go_simp;refine hQ.out _ _ trivial (fun _=>?_);clear hQ Q k0 k1 k2 k3 k4 k5 k6 fz hHeld HT HU;refine wpAnyL_done (by kernel_rfl) ?_ _;generalize World.setCell _ _ _=W4 at*
    go_wp2_with fail
    have HT:Hid (∀Z,Below W4.heap.size W4 Z→Z.cell? ⟨K.B,8,none⟩=some (.slice (some ⟨K.C,0,none⟩) P.k P.k)):=fun Z hZ=>by
     have:=(HP3.out.below hZ).cells.2.2.2.2.1;rw[e1,e3] at this;exact this
    have HEnd:Hid (∀Z,Below W4.heap.size W4 Z→HdAt Z K.C (i*13+10) (P.cl i).kept∧(∀j,Z.frozen? ⟨K.C,j,none⟩=false)∧Calls Tryz.prog 151 #[.pointer (some ⟨K.B,0,none⟩),.int .i64 (i:Int),.int .i64 1] ((((Z).setCell ⟨K.C,i*13+10,none⟩ (.int .i64 0)).setCell ⟨K.C,i*13+10+1,none⟩ (.int .i64 (-1))).setCell ⟨K.C,i*13+10+2,none⟩ (.int .i64 0)) fun en W'=>en=.returned (.tuple #[])∧StTold w0 K P W Pend W'):=fun Z hZ=>by
     have hz:=HP3.out.below hZ;obtain⟨h1,h2⟩:=hz.setKept hi hd0;have hcx:=(hz.cx i hi).kept;have hfz:=hz.fzC;rw[e3] at hcx;refine⟨by simpa only[updP_same] using hcx,fun j=>by rw[←e3];exact hfz j,?_⟩;obtain⟨n7,k8,b5⟩:=HN7.out;have hb:=HBd.out;have hg:=goRound_any h1 n7 k8 hi (by show 0≤(updP (updP P.cl i _) i _ i).rd∧(updP (updP P.cl i _) i _ i).rd≤100000;simp only[updP_same];omega) 1;rw[e3] at hg;simp only[e1] at hg;refine hg.mono fun en W' ⟨g1,K5,g2,g3⟩=>⟨g1,K5,?_,HF3.out.trans ((SFr.below hZ).trans ?_)⟩
     ·rw[HPe.out];unfold beginP;simp only[updP_updP,updP_same] at g2;exact g2
     ·rw[e3] at h2;simp only[e1] at h2;exact h2.trans g3
    refine wp_region_L (B:= [8]) (S:=fun _=>True) (T:=fun Z=>Below W4.heap.size W4 Z) (by kernel_rfl) ⟨trivial,(Below.refl _ _).drew⟩ (fun hHeld=>?_);refine tkS 0 ?_ rfl ?_ ?_;rotate_left 1
    ·intro wz _;go_simp;all_goals with_reducible rfl
    simp only[Act.put,p1,p2,p3,p4,p5];refine tkS 1 ?_ rfl ?_ ?_;rotate_left 1
    ·intro wz _;go_simp;all_goals with_reducible rfl
    simp only[Act.put,p1,p2,p3,p4,p5,p6];refine tkS 2 ?_ rfl ?_ ?_;rotate_left 1
    ·intro wz _;go_simp;all_goals with_reducible rfl
    simp only[Act.put,p1,p2,p3,p4,p5,p6];refine tkL [6,7,8] 3 ?_ rfl ?_ ?_;rotate_left 1
    ·intro wz sb;have y0:=HT.out wz sb.2;go_simp;all_goals with_reducible rfl
    simp only[Act.put,p1,p2,p3,p4,p5,p6];refine tkS 4 ?_ rfl ?_ ?_;rotate_left 1
    ·intro wz _;go_simp;all_goals with_reducible rfl
    simp only[Act.put,p1,p2,p3,p4,p5,p6];have HUw:=hideIt (unwr_any W4.drew);generalize W4.drew=Y1 at*
    refine wpAnyL_ready (rs:= [5]) (by kernel_rfl) (by simp) (AllReadyL.cons rfl (fun Q hQ=>?_) AllReadyL.nil);go_simp;refine HUw.out.mono ?_;rintro e Y2 ⟨rfl,hb1⟩;have hb2:=belJ hHeld.2 hb1;refine hQ.out _ _ ⟨trivial,hb2⟩ (fun hHeld2=>?_);obtain⟨⟨k0,k1,k2⟩,fz,hG⟩:=HEnd.out _ hHeld2.2;have HG:=hideIt hG;clear hQ Q hb1 hb2 hHeld hG HEnd HUw;refine tkS 6 ?_ rfl ?_ ?_;rotate_left 1
    ·intro wz _;go_simp;all_goals with_reducible rfl
    simp only[Act.put,p1,p2,p3,p4,p5,p6];refine tkS 7 ?_ rfl ?_ ?_;rotate_left 1
    ·intro wz _;go_simp;all_goals with_reducible rfl
    simp only[Act.put,p1,p2,p3,p4,p5,p6];refine wpAnyL_ready (rs:= [8]) (by kernel_rfl) (by simp) (AllReadyL.last rfl (by kernel_rfl) (fun Q hQ=>?_) AllReadyL.nil);go_simp;refine hQ.out _ _ trivial (fun _=>?_);clear hQ Q k0 k1 k2 fz hHeld2 HT;refine wpAnyL_done (by kernel_rfl) ?_ _;go_wp2_with fail
    refine HG.out.mono ?_;rintro e W6 ⟨rfl,hT⟩;have HTd:=hideIt hT;clear hT HG;go_wp2;go_ret;exact⟨by rw[HCd.out];rfl,HTd.out⟩
  | false=>
   replace dv:(v != 0)=false:=by simpa using dv
   have HSee:Hid (∀Z,Below W.heap.size W Z→Calls Tryz.prog 150 #[.pointer (some ⟨K.B,0,none⟩),.agg #[.int .i64 (i:Int),.int .i64 1,.int .i64 key,.int .i64 1,.int .i64 v,.int .i64 0,.int .i64 0],.agg #[.int .i64 0,.int .i64 0]] Z fun en W'=>en=.returned (.tuple #[])∧StTold w0 K P Z (seeP P (callP (i:Int) key false v) zeroS) W'):=fun Z hZ=>see_any (HP.out.below hZ) HB.out.ev HB.out.st (callP (i:Int) key false v) zeroS
   have HOw:Hid (∀b,K.own P.k b→b < W.heap.size):=fun b hb=>(HP.out.own_lt hb).2
   have hrd:=(HB.out.cl i hi).2.1;have HBd:=hideIt hrd;have HN7:Hid (P.n≤7∧P.k≤8∧b≤9000):=⟨HB.out.n7,HB.out.k8,HB.out.b0⟩;have HCl:Hid (K.B < W.heap.size∧K.C < W.heap.size):=⟨HP.out.ltB,HP.out.ltC⟩;clear hrd HP HB;go_enter Tryz.func102,Tryz.ntmps102
   go_upto_region 3 with fail
   go_wp2_with fail
   refine HF.out.mono ?_;rintro e W1 ⟨rfl,hb1⟩;have HB1:=hideIt hb1;clear hb1 HF;go_wp2_with fail
   have hbx:Below W1.heap.size W1 (W1.alloc (.cells #[.int .i64 (i:Int),.int .i64 1,.int .i64 key,.int .i64 1,.int .i64 v,.int .i64 0,.int .i64 0] 54)):=belA (Below.refl _ _) _;have hnw:=heap_alloc_new W1 (.cells #[.int .i64 (i:Int),.int .i64 1,.int .i64 key,.int .i64 1,.int .i64 v,.int .i64 0,.int .i64 0] 54);have HBx:=hideIt (belJ HB1.out hbx);have HNw:=hideIt hnw;clear hbx hnw;generalize W1.alloc (.cells #[.int .i64 (i:Int),.int .i64 1,.int .i64 key,.int .i64 1,.int .i64 v,.int .i64 0,.int .i64 0] 54)=Wx at*
   refine(HSee.out _ HBx.out).mono ?_;rintro e W2 ⟨rfl,K1,hP2,hF2⟩;have hx2:W2.heap[W1.heap.size]?=some (.cells #[.int .i64 (i:Int),.int .i64 1,.int .i64 key,.int .i64 1,.int .i64 v,.int .i64 0,.int .i64 0] 54):=by
    refine(hF2.rest _ (lt_of_heap HNw.out) fun ho=>?_).trans HNw.out;have:=HOw.out _ ho;have:=HB1.out.size;omega
   have eB:=hF2.B.1;have eC:=hF2.B.2.2;have HP2:=hideIt hP2;have HF2:Hid (SFr K P.k W W2 K1):=(SFr.below HBx.out).trans hF2;have HX2:=hideIt hx2;clear hP2 hF2 hx2 HSee HNw HBx;have hsz:W.heap.size≤W1.heap.size:=HB1.out.size;have hlt:=HCl.out;have HT:Hid (∀Z,Below W2.heap.size W2 Z→Z.cell? ⟨K.B,8,none⟩=some (.slice (some ⟨K.C,0,none⟩) P.k P.k)):=fun Z hZ=>by
    have:=(HP2.out.below hZ).cells.2.2.2.2.1;rw[eB,eC] at this;exact this
   have HU:Hid (∀Z,Below W2.heap.size W2 Z→Z.cell? ⟨W1.heap.size,0,none⟩=some (.int .i64 (i:Int))∧Z.cell? ⟨W1.heap.size,1,none⟩=some (.int .i64 1)∧Z.cell? ⟨W1.heap.size,2,none⟩=some (.int .i64 key)∧Z.cell? ⟨W1.heap.size,3,none⟩=some (.int .i64 1)∧Z.cell? ⟨W1.heap.size,4,none⟩=some (.int .i64 v)∧Z.cell? ⟨W1.heap.size,5,none⟩=some (.int .i64 0)∧Z.cell? ⟨W1.heap.size,6,none⟩=some (.int .i64 0)):=fun Z hZ=>blkEv (e:=callP (i:Int) key false v) ((hZ.block _ (lt_of_heap HX2.out)).trans HX2.out)
   have HEnd:Hid (∀Z,Below W2.heap.size W2 Z→EvpAt Z K.C (i*13+1) (P.cl i).call∧(∀j,Z.frozen? ⟨K.C,j,none⟩=false)∧∃K3,K3.B=K.B∧K3.N=K.N∧K3.C=K.C∧StoP w0 ((((((((Z).setCell ⟨K.C,i*13+1,none⟩ (.int .i64 (i:Int))).setCell ⟨K.C,i*13+1+1,none⟩ (.int .i64 1)).setCell ⟨K.C,i*13+1+2,none⟩ (.int .i64 key)).setCell ⟨K.C,i*13+1+3,none⟩ (.int .i64 1)).setCell ⟨K.C,i*13+1+4,none⟩ (.int .i64 v)).setCell ⟨K.C,i*13+1+5,none⟩ (.int .i64 0)).setCell ⟨K.C,i*13+1+6,none⟩ (.int .i64 0)) K3 {seeP P (callP (i:Int) key false v) zeroS with cl:=updP P.cl i {P.cl i with call:=callP (i:Int) key false v}} ∧SFr K P.k W ((((((((Z).setCell ⟨K.C,i*13+1,none⟩ (.int .i64 (i:Int))).setCell ⟨K.C,i*13+1+1,none⟩ (.int .i64 1)).setCell ⟨K.C,i*13+1+2,none⟩ (.int .i64 key)).setCell ⟨K.C,i*13+1+3,none⟩ (.int .i64 1)).setCell ⟨K.C,i*13+1+4,none⟩ (.int .i64 v)).setCell ⟨K.C,i*13+1+5,none⟩ (.int .i64 0)).setCell ⟨K.C,i*13+1+6,none⟩ (.int .i64 0)) K3):=fun Z hZ=>by
    have hz:=HP2.out.below hZ;obtain⟨h1,h2⟩:=hz.setCall hi (callP (i:Int) key false v);have hcx:=(hz.cx i hi).call;have hfz:=hz.fzC;have hN:=HF2.out.B.2.1;rw[eC] at h1 h2 hcx;refine⟨hcx,fun j=>by rw[←eC];exact hfz j,{K1 with cv:=updP K1.cv i (K1.cv i),C:=K.C},eB,hN,rfl,h1,HF2.out.trans ((SFr.below hZ).trans h2)⟩
   go_wp2_with fail
   refine wp_region_L (B:= [8]) (S:=fun _=>True) (T:=fun Z=>Below W2.heap.size W2 Z) (by kernel_rfl) ⟨trivial,(Below.refl _ _).drew⟩ (fun hHeld=>?_);refine tkS 0 ?_ rfl ?_ ?_;rotate_left 1
   ·intro wz _;go_simp;all_goals with_reducible rfl
   simp only[Act.put,p1,p2,p3,p4,p5];refine tkS 1 ?_ rfl ?_ ?_;rotate_left 1
   ·intro wz _;go_simp;all_goals with_reducible rfl
   simp only[Act.put,p1,p2,p3,p4,p5,p6];refine tkS 2 ?_ rfl ?_ ?_;rotate_left 1
   ·intro wz _;go_simp;all_goals with_reducible rfl
   simp only[Act.put,p1,p2,p3,p4,p5,p6];refine tkL [6,7,8] 3 ?_ rfl ?_ ?_;rotate_left 1
   ·intro wz sb;have y0:=HT.out wz sb.2;go_simp;all_goals with_reducible rfl
   simp only[Act.put,p1,p2,p3,p4,p5,p6];refine tkS 4 ?_ rfl ?_ ?_;rotate_left 1
   ·intro wz _;go_simp;all_goals with_reducible rfl
   simp only[Act.put,p1,p2,p3,p4,p5,p6];refine tkL [6,7,8] 5 ?_ rfl ?_ ?_;rotate_left 1
   ·intro wz sb;obtain⟨y0,y1,y2,y3,y4,y5,y6⟩:=HU.out wz sb.2;go_simp;all_goals with_reducible rfl
   simp only[Act.put,p1,p2,p3,p4,p5,p6];have hii:(i:Int) < (P.k:Int):=by omega
   obtain⟨⟨k0,k1,k2,k3,k4,k5,k6⟩,fz,K3,e1,e2,e3,hP3,hF3⟩:=HEnd.out _ hHeld.2;have HP3:=hideIt hP3;have HF3:=hideIt hF3;clear hP3 hF3 HEnd;refine tkS 6 ?_ rfl ?_ ?_;rotate_left 1
   ·intro wz _;go_simp;all_goals with_reducible rfl
   simp only[Act.put,p1,p2,p3,p4,p5,p6];refine tkS 7 ?_ rfl ?_ ?_;rotate_left 1
   ·intro wz _;go_simp;all_goals with_reducible rfl
   simp only[Act.put,p1,p2,p3,p4,p5,p6];generalize W2.drew=Y0 at*
   refine wpAnyL_ready (rs:= [8]) (by kernel_rfl) (by simp) (AllReadyL.last rfl (by kernel_rfl) (fun Q hQ=>?_) AllReadyL.nil);go_simp;refine hQ.out _ _ trivial (fun _=>?_);clear hQ Q k0 k1 k2 k3 k4 k5 k6 fz hHeld HT HU;refine wpAnyL_done (by kernel_rfl) ?_ _;generalize World.setCell _ _ _=W4 at*
   go_wp2_with fail
   have HT:Hid (∀Z,Below W4.heap.size W4 Z→Z.cell? ⟨K.B,8,none⟩=some (.slice (some ⟨K.C,0,none⟩) P.k P.k)):=fun Z hZ=>by
    have:=(HP3.out.below hZ).cells.2.2.2.2.1;rw[e1,e3] at this;exact this
   have HEnd:Hid (∀Z,Below W4.heap.size W4 Z→HdAt Z K.C (i*13+10) (P.cl i).kept∧(∀j,Z.frozen? ⟨K.C,j,none⟩=false)∧Calls Tryz.prog 151 #[.pointer (some ⟨K.B,0,none⟩),.int .i64 (i:Int),.int .i64 1] ((((Z).setCell ⟨K.C,i*13+10,none⟩ (.int .i64 0)).setCell ⟨K.C,i*13+10+1,none⟩ (.int .i64 (-1))).setCell ⟨K.C,i*13+10+2,none⟩ (.int .i64 0)) fun en W'=>en=.returned (.tuple #[])∧StTold w0 K P W Pend W'):=fun Z hZ=>by
    have hz:=HP3.out.below hZ;obtain⟨h1,h2⟩:=hz.setKept hi hd0;have hcx:=(hz.cx i hi).kept;have hfz:=hz.fzC;rw[e3] at hcx;refine⟨by simpa only[updP_same] using hcx,fun j=>by rw[←e3];exact hfz j,?_⟩;obtain⟨n7,k8,b5⟩:=HN7.out;have hb:=HBd.out;have hg:=goRound_any h1 n7 k8 hi (by show 0≤(updP (updP P.cl i _) i _ i).rd∧(updP (updP P.cl i _) i _ i).rd≤100000;simp only[updP_same];omega) 1;rw[e3] at hg;simp only[e1] at hg;refine hg.mono fun en W' ⟨g1,K5,g2,g3⟩=>⟨g1,K5,?_,HF3.out.trans ((SFr.below hZ).trans ?_)⟩
    ·rw[HPe.out];unfold beginP;simp only[updP_updP,updP_same] at g2;exact g2
    ·rw[e3] at h2;simp only[e1] at h2;exact h2.trans g3
   refine wp_region_L (B:= [8]) (S:=fun _=>True) (T:=fun Z=>Below W4.heap.size W4 Z) (by kernel_rfl) ⟨trivial,(Below.refl _ _).drew⟩ (fun hHeld=>?_);refine tkS 0 ?_ rfl ?_ ?_;rotate_left 1
   ·intro wz _;go_simp;all_goals with_reducible rfl
   simp only[Act.put,p1,p2,p3,p4,p5];refine tkS 1 ?_ rfl ?_ ?_;rotate_left 1
   ·intro wz _;go_simp;all_goals with_reducible rfl
   simp only[Act.put,p1,p2,p3,p4,p5,p6];refine tkS 2 ?_ rfl ?_ ?_;rotate_left 1
   ·intro wz _;go_simp;all_goals with_reducible rfl
   simp only[Act.put,p1,p2,p3,p4,p5,p6];refine tkL [6,7,8] 3 ?_ rfl ?_ ?_;rotate_left 1
   ·intro wz sb;have y0:=HT.out wz sb.2;go_simp;all_goals with_reducible rfl
   simp only[Act.put,p1,p2,p3,p4,p5,p6];refine tkS 4 ?_ rfl ?_ ?_;rotate_left 1
   ·intro wz _;go_simp;all_goals with_reducible rfl
   simp only[Act.put,p1,p2,p3,p4,p5,p6];have HUw:=hideIt (unwr_any W4.drew);generalize W4.drew=Y1 at*
   refine wpAnyL_ready (rs:= [5]) (by kernel_rfl) (by simp) (AllReadyL.cons rfl (fun Q hQ=>?_) AllReadyL.nil);go_simp;refine HUw.out.mono ?_;rintro e Y2 ⟨rfl,hb1⟩;have hb2:=belJ hHeld.2 hb1;refine hQ.out _ _ ⟨trivial,hb2⟩ (fun hHeld2=>?_);obtain⟨⟨k0,k1,k2⟩,fz,hG⟩:=HEnd.out _ hHeld2.2;have HG:=hideIt hG;clear hQ Q hb1 hb2 hHeld hG HEnd HUw;refine tkS 6 ?_ rfl ?_ ?_;rotate_left 1
   ·intro wz _;go_simp;all_goals with_reducible rfl
   simp only[Act.put,p1,p2,p3,p4,p5,p6];refine tkS 7 ?_ rfl ?_ ?_;rotate_left 1
   ·intro wz _;go_simp;all_goals with_reducible rfl
   simp only[Act.put,p1,p2,p3,p4,p5,p6];refine wpAnyL_ready (rs:= [8]) (by kernel_rfl) (by simp) (AllReadyL.last rfl (by kernel_rfl) (fun Q hQ=>?_) AllReadyL.nil);go_simp;refine hQ.out _ _ trivial (fun _=>?_);clear hQ Q k0 k1 k2 fz hHeld2 HT;refine wpAnyL_done (by kernel_rfl) ?_ _;go_wp2_with fail
   refine HG.out.mono ?_;rintro e W6 ⟨rfl,hT⟩;have HTd:=hideIt hT;clear hT HG;go_wp2;go_ret;exact⟨by rw[HCd.out];rfl,HTd.out⟩
end
end Go.Proofs.YtjpklmighoondaaGreatDoor.St
