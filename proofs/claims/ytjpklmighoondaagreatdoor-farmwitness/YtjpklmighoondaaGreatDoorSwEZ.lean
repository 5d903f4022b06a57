/-
  The program's store, walked: asked, GiveUp, Begin.
  The program's store, walked: slices.Contains at numbers; count.
-/
import Derived.Test.YtjpklmighoondaaGreatDoorMnZ
import Derived.Test.YtjpklmighoondaaGreatDoorSwCZ
namespace Go.Proofs.YtjpklmighoondaaGreatDoor.St
open Go.RowKit
section
variable {w0 W W' : World} {K : StK} {P : Pst}
set_option maxRecDepth 100000 in
set_option maxHeartbeats 4000000 in
theorem asked_any (h:StoP w0 W K P) (hn7:P.n≤7) (hk8:P.k≤8) (hev:P.evs.length≤9000) (hst:P.sts.length≤9000) {i:Nat} (hi:i < P.k) (hrd:0≤(P.cl i).rd∧(P.cl i).rd≤100000) (hkt:0≤(P.cl i).kept.s.t∧(P.cl i).kept.s.t≤100000):
  Calls Tryz.prog 158 #[.pointer (some ⟨K.B,0,none⟩),.int .i64 (i:Int)] W fun en W'=>en=.returned (.tuple #[])∧StTold w0 K P W (askedP P i) W':=by
 have c8:=h.cells.2.2.2.2.1;have c4:=h.cells.1.2.2.2.2;have hii:(i:Int) < (P.k:Int):=by omega
 have hx:=h.cx i hi;have q3:W.cell? ⟨K.C,i*13+1+3,none⟩=some (.int .i64 (P.cl i).call.d):=hx.call.2.2.2.1;have HP:=hideIt h;by_cases hd:(P.cl i).call.d=2
 ·have g1:((P.cl i).call.d==2)=true:=by simp[hd]
  have hasked:askedP P i=roundP {P with cl:=updP P.cl i {P.cl i with kept:=⟨⟨(P.cl i).kept.s.t+1,i⟩,(P.cl i).call.a⟩}} i 2:=by
   unfold askedP askedX;rw[if_pos (.inl hd),if_pos hd]
  have HT:Hid (∀Z,Below W.heap.size W Z→Z.cell? ⟨K.C,i*13+10,none⟩=some (.int .i64 (P.cl i).kept.s.t)∧Z.cell? ⟨K.C,i*13+1+4,none⟩=some (.int .i64 (P.cl i).call.a)):=fun Z hZ=>⟨((HP.out.below hZ).cx i hi).kept.1,((HP.out.below hZ).cx i hi).call.2.2.2.2.1⟩
  have HG:Hid (∀Z,Below W.heap.size W Z→HdAt Z K.C (i*13+10) (P.cl i).kept∧(∀j,Z.frozen? ⟨K.C,j,none⟩=false)∧Calls Tryz.prog 151 #[.pointer (some ⟨K.B,0,none⟩),.int .i64 (i:Int),.int .i64 2] (((Z.setCell ⟨K.C,i*13+10,none⟩ (.int .i64 ((P.cl i).kept.s.t+1))).setCell ⟨K.C,i*13+10+1,none⟩ (.int .i64 (i:Int))).setCell ⟨K.C,i*13+10+2,none⟩ (.int .i64 (P.cl i).call.a)) fun en W'=>en=.returned (.tuple #[])∧StTold w0 K P W (askedP P i) W'):=fun Z hZ=>by
   have hZP:=HP.out.below hZ;obtain⟨h1,h2⟩:=hZP.setKept hi ⟨⟨(P.cl i).kept.s.t+1,i⟩,(P.cl i).call.a⟩;refine⟨(hZP.cx i hi).kept,hZP.fzC,?_⟩;have hg:=goRound_any h1 hn7 hk8 hi (by show 0≤(updP P.cl i _ i).rd∧(updP P.cl i _ i).rd≤100000;rw[updP_same];exact hrd) 2;refine hg.mono fun en W' ⟨e1,K3,e2,e3⟩=>⟨e1,K3,by rw[hasked];exact e2,(SFr.below hZ).trans (h2.trans e3)⟩
  have hw:IntKind.i64.wrap ((P.cl i).kept.s.t+1)=(P.cl i).kept.s.t+1:=IntWalk.i64_in _ (by omega);clear h hx hasked hd;generalize askedP P i=Pend at*
  generalize P.cl i=x at*
  go_enter Tryz.func158,Tryz.ntmps158
  go_wp2_with fail
  refine wp_region_L (B:= [18]) (S:=fun _=>True) (T:=fun Z=>Below W.heap.size W Z) (by kernel_rfl) ⟨trivial,(Below.refl _ _).drew⟩ (fun hHeld=>?_);refine tkS 0 ?_ rfl ?_ ?_;rotate_left 1
  ·intro wz _;go_simp;all_goals with_reducible rfl
  simp only[Act.put,p1,p2,p3,p4,p5];refine tkS 1 ?_ rfl ?_ ?_;rotate_left 1
  ·intro wz _;go_simp;all_goals with_reducible rfl
  simp only[Act.put,p1,p2,p3,p4,p5,p6];refine tkS 2 ?_ rfl ?_ ?_;rotate_left 1
  ·intro wz _;go_simp;all_goals with_reducible rfl
  simp only[Act.put,p1,p2,p3,p4,p5,p6];refine tkS 3 ?_ rfl ?_ ?_;rotate_left 1
  ·intro wz _;go_simp;all_goals with_reducible rfl
  simp only[Act.put,p1,p2,p3,p4,p5,p6];refine tkS 4 ?_ rfl ?_ ?_;rotate_left 1
  ·intro wz _;go_simp;all_goals with_reducible rfl
  simp only[Act.put,p1,p2,p3,p4,p5,p6];refine tkS 5 ?_ rfl ?_ ?_;rotate_left 1
  ·intro wz _;go_simp;all_goals with_reducible rfl
  simp only[Act.put,p1,p2,p3,p4,p5,p6];refine tkL [7,9,15,16,17,18] 6 ?_ rfl ?_ ?_;rotate_left 1
  ·intro wz sb;obtain⟨y0,y1⟩:=HT.out wz sb.2;go_simp;all_goals with_reducible rfl
  simp only[Act.put,p1,p2,p3,p4,p5,p6];refine tkS 7 ?_ rfl ?_ ?_;rotate_left 1
  ·intro wz _;go_simp;all_goals with_reducible rfl
  simp only[Act.put,p1,p2,p3,p4,p5,p6];refine tkS 8 ?_ rfl ?_ ?_;rotate_left 1
  ·intro wz _;go_simp;all_goals with_reducible rfl
  simp only[Act.put,p1,p2,p3,p4,p5,p6];refine tkS 9 ?_ rfl ?_ ?_;rotate_left 1
  ·intro wz _;go_simp;all_goals with_reducible rfl
  simp only[Act.put,p1,p2,p3,p4,p5,p6];refine tkS 10 ?_ rfl ?_ ?_;rotate_left 1
  ·intro wz _;go_simp;all_goals with_reducible rfl
  simp only[Act.put,p1,p2,p3,p4,p5,p6];refine tkS 11 ?_ rfl ?_ ?_;rotate_left 1
  ·intro wz _;go_simp;all_goals with_reducible rfl
  simp only[Act.put,p1,p2,p3,p4,p5,p6];refine tkS 12 ?_ rfl ?_ ?_;rotate_left 1
  ·intro wz _;go_simp;all_goals with_reducible rfl
  simp only[Act.put,p1,p2,p3,p4,p5,p6];refine tkS 13 ?_ rfl ?_ ?_;rotate_left 1
  ·intro wz _;go_simp;all_goals with_reducible rfl
  simp only[Act.put,p1,p2,p3,p4,p5,p6];refine tkL [15,16,17,18] 14 ?_ rfl ?_ ?_;rotate_left 1
  ·intro wz sb;obtain⟨y0,y1⟩:=HT.out wz sb.2;go_simp;all_goals with_reducible rfl
  simp only[Act.put,p1,p2,p3,p4,p5,p6];refine tkS 15 ?_ rfl ?_ ?_;rotate_left 1
  ·intro wz _;go_simp;all_goals with_reducible rfl
  simp only[Act.put,p1,p2,p3,p4,p5,p6];refine tkS 16 ?_ rfl ?_ ?_;rotate_left 1
  ·intro wz _;go_simp;all_goals with_reducible rfl
  simp only[Act.put,p1,p2,p3,p4,p5,p6];refine tkS 17 ?_ rfl ?_ ?_;rotate_left 1
  ·intro wz _;go_simp;all_goals with_reducible rfl
  simp only[Act.put,p1,p2,p3,p4,p5,p6];obtain⟨⟨k0,k1,k2⟩,fz,hG⟩:=HG.out _ hHeld.2;have HGc:=hideIt hG;generalize W.drew=Y0 at*
  refine wpAnyL_ready (rs:= [18]) (by kernel_rfl) (by simp) (AllReadyL.last rfl (by kernel_rfl) (fun Q hQ=>?_) AllReadyL.nil);go_simp;refine hQ.out _ _ trivial (fun _=>?_);clear hQ Q hHeld HG HT k0 k1 k2 fz hG;refine wpAnyL_done (by kernel_rfl) ?_ _;go_wp2_with fail
  refine HGc.out.mono ?_;rintro e W2 ⟨rfl,hT⟩;have HTd:=hideIt hT;clear hT HGc;go_wp2;exact bodyPost_ret (results_none rfl _ _ _) rfl ⟨rfl,HTd.out⟩
 ·have g1:((P.cl i).call.d==2)=false:=by simp[hd]
  cases hb:P.back with
  | true=>
   have hasked:askedP P i=roundP P i 2:=by
    unfold askedP askedX;rw[if_pos (.inr hb),if_neg hd,updP_self]
   have HG:=hideIt (goRound_any h hn7 hk8 hi hrd 2);rw[hb] at c4;rw[hasked];clear h hx hasked hd;generalize P.cl i=x at*
   go_enter Tryz.func158,Tryz.ntmps158
   go_wp2_with fail
   refine HG.out.mono ?_;rintro e W2 ⟨rfl,hT⟩;have HTd:=hideIt hT;clear hT HG;go_wp2;exact bodyPost_ret (results_none rfl _ _ _) rfl ⟨rfl,HTd.out⟩
  | false=>
   have hasked:askedP P i=doneP P i:=by
    unfold askedP;rw[if_neg (fun h=>h.elim hd fun h=>by rw[hb] at h;cases h)]
   have HG:=hideIt (done_any h hev hst hi);rw[hb] at c4;rw[hasked];clear h hx hasked hd;generalize P.cl i=x at*
   go_enter Tryz.func158,Tryz.ntmps158
   go_wp2_with fail
   refine HG.out.mono ?_;rintro e W2 ⟨rfl,hT⟩;have HTd:=hideIt hT;clear hT HG;go_wp2
   go_end0
   exact⟨rfl,HTd.out⟩
end
end Go.Proofs.YtjpklmighoondaaGreatDoor.St
namespace Go.Proofs.YtjpklmighoondaaGreatDoor.St
open Go.RowKit
def IntsQ (w:World) (a:Option Addr) (l:List Int):Prop:=l= []∨∃g off,a=some ⟨g,off,none⟩∧g < w.heap.size∧∀j (h:j < l.length),w.cell? ⟨g,off+j,none⟩=some (.int .i64 l[j])
theorem IntsQ.at {w:World} {a:Option Addr} {l:List Int} (h:IntsQ w a l) {k:Nat} (hk:k < l.length):∃g off,a=some ⟨g,off,none⟩∧g < w.heap.size∧w.cell? ⟨g,off+k,none⟩=some (.int .i64 l[k]):=by
 rcases h with rfl | ⟨g,off,e,hg,h⟩
 ·simp at hk
 ·exact⟨g,off,e,hg,h k hk⟩
theorem ints_of_own {w:World} {base:Nat} {v:Value} {l:List Int} (h:w.ownsRow base 3 1 v l.length (intC l)):∃a cap,v=.slice a l.length cap∧IntsQ w a l:=by
 rcases own_cells h with ⟨rfl,h0⟩ | ⟨g,cap,rfl,hc,hg,hk⟩
 ·have:l= []:=List.eq_nil_of_length_eq_zero h0;subst this;exact⟨none,0,rfl,.inl rfl⟩
 ·refine⟨_,cap,rfl,.inr ⟨g,0,rfl,hg,fun j hj=>?_⟩⟩;rw[Nat.zero_add,hk j (by omega)];simp[intC,hj]
set_option maxRecDepth 100000 in
set_option maxHeartbeats 1000000 in
theorem index_any (x:Int) (xs:List Int) (hn:xs.length≤9000) (a:Option Addr) (cap:Nat) (w:World) (h:IntsQ w a xs):
  Calls Tryz.prog 225 #[.slice a xs.length cap,.int .i64 x] w fun e w'=>(∃r:Int,e=.returned (.int .i64 r)∧(0≤r↔x∈xs)∧ -1≤r∧r≤9000)∧w'=w:=by
 have HR:=hideIt h;clear h;go_enter Tryz.func225,Tryz.ntmps225
 go_wp2
 go_loopw [8] (fun v wr=>∃k:Nat,k≤xs.length∧v=.int .i64 k∧(∀j (h:j < xs.length),j < k→xs[j]≠x)∧wr=w) (fun v _=>xs.length - (intOf v).toNat)
 case atStart=>exact⟨0,Nat.zero_le _,rfl,fun j _ hj=>absurd hj (by omega),rfl⟩
 case round=>
  obtain⟨k,hk,rfl,ha,rfl⟩:=hrel;have HA:=hideIt ha;clear ha;by_cases hkn:k < xs.length
  ·obtain⟨g,off,rfl,hg,c0⟩:=HR.out.at hkn;have hkn':(k:Int) < xs.length:=by omega
   by_cases he:x=xs[k]
   ·have HM:Hid (x∈xs):=by show x∈xs;rw[he];exact List.getElem_mem hkn
    have g1:(x==xs[k])=true:=by simp[he]
    clear he;generalize xs[k]=y at*
    go_wp2;go_ret;exact⟨⟨_,rfl,⟨fun _=>HM.out,fun _=>by omega⟩,by omega,by omega⟩,rfl⟩
   ·have HN:Hid (∀j (h:j < xs.length),j < k+1→xs[j]≠x):=fun j h hj=>by
     by_cases e:j=k
     ·subst e;exact fun e'=>he e'.symm
     ·exact HA.out j h (by omega)
    have g1:(x==xs[k])=false:=by simp[he]
    clear he;generalize xs[k]=y at*
    go_wp2
    go_roundw
    case rel=>exact⟨k+1,by omega,by go_num,HN.out,trivial⟩
    case measure=>simp[intOf];omega
  ·have HM:Hid (x∉xs):=fun hm=>by
    obtain⟨j,hj,e⟩:=List.getElem_of_mem hm;exact HA.out j hj (by omega) e
   obtain rfl:k=xs.length:=by omega
   go_wp2;go_ret;exact⟨⟨_,rfl,⟨fun h=>by omega,fun h=>absurd h HM.out⟩,by omega,by omega⟩,rfl⟩
set_option maxRecDepth 100000 in
theorem contains_any (x:Int) (xs:List Int) (hn:xs.length≤9000) (a:Option Addr) (cap:Nat) (w:World) (h:IntsQ w a xs):
  Calls Tryz.prog 157 #[.slice a xs.length cap,.int .i64 x] w fun e w'=>e=.returned (.bool (decide (x∈xs)))∧w'=w:=by
 have HI:=hideIt (index_any x xs hn a cap w h);clear h;go_enter Tryz.func157,Tryz.ntmps157
 go_wp2_with fail
 refine HI.out.mono ?_;rintro e w1 ⟨⟨r,rfl,hr,_,_⟩,rfl⟩;have HR:=hideIt hr;clear hr;go_wp2;go_ret;exact⟨ret_bool (decide_eq_decide.2 HR.out),rfl⟩
end Go.Proofs.YtjpklmighoondaaGreatDoor.St
