/-
  The program's net, walked: Take.
  The program's net, walked: Send.
  The program's net, walked: Cut, Double.
-/
import Derived.Test.YtjpklmighoondaaGreatDoorFieldsQY
import Derived.Test.YtjpklmighoondaaGreatDoorCbPY
import Derived.Test.YtjpklmighoondaaGreatDoorEvpY
import Derived.Test.YtjpklmighoondaaGreatDoorRgLY
set_option maxRecDepth 100000
namespace Go.Proofs.YtjpklmighoondaaGreatDoor.St
open Go.RowKit
def TakeQ (base B o:Nat) (v:Value) (L:List Mq) (nil:Bool) (M:List (List Bool)) (i:Int) (w:World) (e:Ending) (w':World):Prop:=
 ((i < 0∨(L.length:Int)≤i)∧e=.returned (.tuple #[mqV mq0,.iface 55 (.int .i64 8)])∧Below w.heap.size w w')∨
 (∃(k:Nat) (m:Mq),i=k∧L[k]?=some m∧letL nil M m.fr m.tt=false∧e=.returned (.tuple #[mqV mq0,.iface 55 (.int .i64 6)])∧Below w.heap.size w w')∨
 (∃(k:Nat) (m:Mq),i=k∧L[k]?=some m∧letL nil M m.fr m.tt=true∧e=.returned (.tuple #[mqV m,.nilIface])∧MailTold base B o v (L.eraseIdx k) w w')
theorem setMq_rest {W:World} {b:Nat} (y0 y1 y2 y3 y4 y5 y6 y7:Value) {g:Nat} (hg:g≠b):(((((((((W).setCell ⟨b,0,none⟩ (y0)).setCell ⟨b,1,none⟩ (y1)).setCell ⟨b,2,none⟩ (y2)).setCell ⟨b,3,none⟩ (y3)).setCell ⟨b,4,none⟩ (y4)).setCell ⟨b,5,none⟩ (y5)).setCell ⟨b,6,none⟩ (y6)).setCell ⟨b,7,none⟩ (y7)).heap[g]?=W.heap[g]?:=by
 rw[Below.heap_setCell _ _ _ g hg,Below.heap_setCell _ _ _ g hg,Below.heap_setCell _ _ _ g hg,Below.heap_setCell _ _ _ g hg,Below.heap_setCell _ _ _ g hg,Below.heap_setCell _ _ _ g hg,Below.heap_setCell _ _ _ g hg,Below.heap_setCell _ _ _ g hg]
set_option maxHeartbeats 8000000 in
theorem ptake_any (i:Int) (base B o:Nat) (lv v:Value) (L:List Mq) (hL:L.length≤500) (X:Nat→Prop) (nil:Bool) (M:List (List Bool)) (w:World) (h:NetP w base B o lv v L) (hM:LnkN w X lv nil M):
  Calls Tryz.prog 103 #[.pointer (some ⟨B,o,none⟩),.int .i64 i] w fun e w'=>TakeQ base B o v L nil M i w e w':=by
 have HN:=hideIt h;have HM:=hideIt hM;have HB0:=hideIt (belA (Below.refl _ w) (.cells #[.int .i64 0,.int .i64 0,.int .i64 0,.int .i64 0,.bool false,.int .i64 0,.int .i64 0,.int .i64 0] 202));have HA:=hideIt (pat_any i base B o lv v L _ (h.below HB0.out));have HV:Hid ((w.alloc (.cells #[.int .i64 0,.int .i64 0,.int .i64 0,.int .i64 0,.bool false,.int .i64 0,.int .i64 0,.int .i64 0] 202)).heap[w.heap.size]?=some (.cells #[.int .i64 0,.int .i64 0,.int .i64 0,.int .i64 0,.bool false,.int .i64 0,.int .i64 0,.int .i64 0] 202 (0,0))):=heap_alloc_new w _;have hsV:(w.alloc (.cells #[.int .i64 0,.int .i64 0,.int .i64 0,.int .i64 0,.bool false,.int .i64 0,.int .i64 0,.int .i64 0] 202)).heap.size=w.heap.size+1:=by simp
 have HSV:=hideIt hsV;have hBl:=h.lt;clear h hM hsV;go_enter Tryz.func103,Tryz.ntmps103
 go_upto_region 1 with fail
 generalize w.alloc (.cells #[.int .i64 0,.int .i64 0,.int .i64 0,.int .i64 0,.bool false,.int .i64 0,.int .i64 0,.int .i64 0] 202)=V at*
 go_wp2_with fail
 refine HA.out.mono ?_;clear HA;rintro e W1 ⟨(⟨hi,rfl⟩ | ⟨k,m,rfl,hm,rfl⟩),hb⟩
 ·have HI:=hideIt hi;have HV1:Hid ((W1.alloc (.cells #[.int .i64 0,.int .i64 0,.int .i64 0,.int .i64 0,.bool false,.int .i64 0,.int .i64 0,.int .i64 0] 202)).heap[w.heap.size]?=some (.cells #[.int .i64 0,.int .i64 0,.int .i64 0,.int .i64 0,.bool false,.int .i64 0,.int .i64 0,.int .i64 0] 202 (0,0))):=by
   have h1:W1.heap[w.heap.size]?=_:=(hb.block w.heap.size (by have:=HSV.out;omega)).trans HV.out;exact(Below.heap_alloc W1 _ w.heap.size (lt_of_heap h1)).trans h1
  have HB:=hideIt (belA (belJ HB0.out hb) (.cells #[.int .i64 0,.int .i64 0,.int .i64 0,.int .i64 0,.bool false,.int .i64 0,.int .i64 0,.int .i64 0] 202));have hmz:(mqV mq0)=.agg #[.int .i64 0,.int .i64 0,.int .i64 0,.int .i64 0,.bool false,.int .i64 0,.int .i64 0,.int .i64 0]:=rfl;rw[hmz];clear hi hb hmz;obtain⟨z0,z1,z2,z3,z4,z5,z6,z7⟩:=blkMq (m:=mq0) HV1.out;have fz:=fun j=>frozen_of_row (W1.alloc (.cells #[.int .i64 0,.int .i64 0,.int .i64 0,.int .i64 0,.bool false,.int .i64 0,.int .i64 0,.int .i64 0] 202)) w.heap.size j _ 202 HV1.out
  unfold mq0 at z0 z1 z2 z3 z4 z5 z6 z7;go_wp2;exact bodyPost_ret (results_cell2 rfl _ _ _ _ rfl (loadMq (m:=mq0) (blkMq (m:=mq0) (setMq HV1.out)))) rfl (.inl ⟨HI.out,rfl,setMq_bel _ _ _ _ _ _ _ _ HB.out (Nat.le_refl _)⟩)
 ·have HMm:=hideIt hm;have hk:k < L.length:=(List.getElem?_eq_some_iff.1 hm).1;have HV1:Hid ((W1.alloc (.cells #[.int .i64 m.fr,.int .i64 m.tt,.int .i64 m.key,.int .i64 m.rd,.bool m.tells,.int .i64 m.t,.int .i64 m.c,.int .i64 m.v] 202)).heap[w.heap.size]?=some (.cells #[.int .i64 0,.int .i64 0,.int .i64 0,.int .i64 0,.bool false,.int .i64 0,.int .i64 0,.int .i64 0] 202 (0,0))):=by
   have h1:W1.heap[w.heap.size]?=_:=(hb.block w.heap.size (by have:=HSV.out;omega)).trans HV.out;exact(Below.heap_alloc W1 _ w.heap.size (lt_of_heap h1)).trans h1
  have HMb:Hid ((W1.alloc (.cells #[.int .i64 m.fr,.int .i64 m.tt,.int .i64 m.key,.int .i64 m.rd,.bool m.tells,.int .i64 m.t,.int .i64 m.c,.int .i64 m.v] 202)).heap[W1.heap.size]?=some (.cells #[.int .i64 m.fr,.int .i64 m.tt,.int .i64 m.key,.int .i64 m.rd,.bool m.tells,.int .i64 m.t,.int .i64 m.c,.int .i64 m.v] 202 (0,0))):=heap_alloc_new W1 _;have HB:=hideIt (belA (belJ HB0.out hb) (.cells #[.int .i64 m.fr,.int .i64 m.tt,.int .i64 m.key,.int .i64 m.rd,.bool m.tells,.int .i64 m.t,.int .i64 m.c,.int .i64 m.v] 202));have hrs:w.heap.size < W1.heap.size:=by have h1:=hb.size;have h2:=HSV.out;omega
  clear hb hm HV HB0 HSV;unfold mqV;go_wp2_with fail
  generalize W1.alloc (.cells #[.int .i64 m.fr,.int .i64 m.tt,.int .i64 m.key,.int .i64 m.rd,.bool m.tells,.int .i64 m.t,.int .i64 m.c,.int .i64 m.v] 202)=W2 at*
  have hP:=HN.out.below HB.out;have HP:=hideIt hP;have c1:=hP.c1;obtain⟨y0,y1,y2,y3,y4,y5,y6,y7⟩:=blkMq (m:=m) HMb.out;have HC:=hideIt (fun q:Nat=>plet_any m.fr m.tt X lv nil M (W2.drewN q) (HM.out.below (below_drewN HB.out q)));clear hP;generalize hle:letL nil M m.fr m.tt=le at*
  have HLe:=hideIt hle;clear hle;cases le
  ·go_quiet ((go_at_call 153;exact Calls.quiet_of_same (HC.out _)))
   generalize hV3:W2.drewN _=V3;have HV3:Hid (V3.heap[w.heap.size]?=some (.cells #[.int .i64 0,.int .i64 0,.int .i64 0,.int .i64 0,.bool false,.int .i64 0,.int .i64 0,.int .i64 0] 202 (0,0))):=by rw[←hV3];exact HV1.out
   have HB3:Hid (Below w.heap.size w V3):=by rw[←hV3];exact below_drewN HB.out _
   clear hV3 c1 y0 y1 y2 y3 y4 y5 y6 y7 HC;obtain⟨z0,z1,z2,z3,z4,z5,z6,z7⟩:=blkMq (m:=mq0) HV3.out;have fz:=fun j=>frozen_of_row V3 w.heap.size j _ 202 HV3.out
   unfold mq0 at z0 z1 z2 z3 z4 z5 z6 z7;go_wp2;exact bodyPost_ret (results_cell2 rfl _ _ _ _ rfl (loadMq (m:=mq0) (blkMq (m:=mq0) (setMq HV3.out)))) rfl (.inr (.inl ⟨k,m,rfl,HMm.out,HLe.out,rfl,setMq_bel _ _ _ _ _ _ _ _ HB3.out (Nat.le_refl _)⟩))
  ·go_quiet ((go_at_call 153;exact Calls.quiet_of_same (HC.out _)))
   go_wp2_with fail
   generalize hV3:W2.drewN _=V3;have HV3:Hid (V3.heap[w.heap.size]?=some (.cells #[.int .i64 0,.int .i64 0,.int .i64 0,.int .i64 0,.bool false,.int .i64 0,.int .i64 0,.int .i64 0] 202 (0,0))):=by rw[←hV3];exact HV1.out
   have HM3:Hid (V3.heap[W1.heap.size]?=some (.cells #[.int .i64 m.fr,.int .i64 m.tt,.int .i64 m.key,.int .i64 m.rd,.bool m.tells,.int .i64 m.t,.int .i64 m.c,.int .i64 m.v] 202 (0,0))):=by rw[←hV3];exact HMb.out
   have HB3:Hid (Below w.heap.size w V3):=by rw[←hV3];exact below_drewN HB.out _
   clear hV3 c1 y0 y1 y2 y3 y4 y5 y6 y7 HC HB HP HV1 HMb;have HY:Hid (∀Z:World,Z.heap[W1.heap.size]?=V3.heap[W1.heap.size]?→Z.cell? ⟨W1.heap.size,0,none⟩=some (.int .i64 m.fr)∧Z.cell? ⟨W1.heap.size,1,none⟩=some (.int .i64 m.tt)∧Z.cell? ⟨W1.heap.size,2,none⟩=some (.int .i64 m.key)∧Z.cell? ⟨W1.heap.size,3,none⟩=some (.int .i64 m.rd)∧Z.cell? ⟨W1.heap.size,4,none⟩=some (.bool m.tells)∧Z.cell? ⟨W1.heap.size,5,none⟩=some (.int .i64 m.t)∧Z.cell? ⟨W1.heap.size,6,none⟩=some (.int .i64 m.c)∧Z.cell? ⟨W1.heap.size,7,none⟩=some (.int .i64 m.v)):=fun Z hZ=>blkMq (hZ.trans HM3.out)
   refine wp_region_held_drew (S:=fun Z=>Z.heap[W1.heap.size]?=V3.heap[W1.heap.size]?) (by kernel_rfl) rfl (fun hHeld=>?_);refine tkH 0 ?_ rfl ?_ ?_;rotate_left 1
   ·intro wz sb;obtain⟨y0,y1,y2,y3,y4,y5,y6,y7⟩:=HY.out wz sb;go_simp;all_goals with_reducible rfl
   simp only[Act.put,p1,p2,p3,p4,p5];refine tkH 1 ?_ rfl ?_ ?_;rotate_left 1
   ·intro wz _;go_simp;all_goals with_reducible rfl
   simp only[Act.put,p1,p2,p3,p4,p5,p6];refine tkH 2 ?_ rfl ?_ ?_;rotate_left 1
   ·intro wz _;go_simp;all_goals with_reducible rfl
   simp only[Act.put,p1,p2,p3,p4,p5,p6];have HBd:Hid (Below w.heap.size w V3.drew):=HB3.out.trans ⟨rfl,rfl,rfl,Nat.le_refl _,fun _ _=>rfl⟩;have HDr:=hideIt (pdrop_any (k:Int) base B o lv v L hL V3.drew (HN.out.below HBd.out));have hv3:W1.heap.size < V3.drew.heap.size:=lt_of_heap HM3.out;have HVd:Hid (V3.drew.heap[w.heap.size]?=some (.cells #[.int .i64 0,.int .i64 0,.int .i64 0,.int .i64 0,.bool false,.int .i64 0,.int .i64 0,.int .i64 0] 202 (0,0))):=HV3.out;have HMd:Hid (V3.drew.heap[W1.heap.size]?=V3.heap[W1.heap.size]?):=rfl;generalize V3.drew=Y0 at*
   refine wpAnyH_ready (rs:= [3]) (by kernel_rfl) (by simp) (AllReadyH.cons rfl (fun K hK=>?_) AllReadyH.nil);go_simp;refine HDr.out.mono ?_;clear HDr;rintro e W4 (⟨hbad,_⟩ | ⟨k',m',hkk,hm',rfl,v',ht⟩)
   ·omega
   obtain rfl:k=k':=by omega
   have hvo:∀b,v.ownBlock=some b→b < w.heap.size:=fun b hb=>(ownsRow_block HN.out.row b hb).2.1
   have hE1:W4.heap[W1.heap.size]?=V3.heap[W1.heap.size]?:=(ht.rest _ hv3 (by omega) (fun e=>by have:=hvo _ e;omega)).trans HMd.out;have hE2:W4.heap[w.heap.size]?=some (.cells #[.int .i64 0,.int .i64 0,.int .i64 0,.int .i64 0,.bool false,.int .i64 0,.int .i64 0,.int .i64 0] 202 (0,0)):=(ht.rest _ (by omega) (by omega) (fun e=>by have:=hvo _ e;omega)).trans HVd.out;have HT:Hid (MailT base B o v (L.eraseIdx k) w W4 v'):=ht.pre HN.out HBd.out;have HO:Hid (v'.ownBlock≠some w.heap.size):=by
    show _≠_;rcases ht.own with e | ⟨b,e,hb⟩
    ·rw[e];intro e';have:=hvo _ e';omega
    ·rw[e];intro e';cases e';omega
   have HE2:=hideIt hE2;refine hK.out _ _ hE1 (fun hHeld=>?_);clear hK K ht hE1 hE2 hvo;obtain⟨z0,z1,z2,z3,z4,z5,z6,z7⟩:=blkMq (m:=mq0) HE2.out;have fz:=fun j=>frozen_of_row W4 w.heap.size j _ 202 HE2.out
   unfold mq0 at z0 z1 z2 z3 z4 z5 z6 z7;refine wpAnyH_ready (rs:= [4]) (by kernel_rfl) (by simp) (AllReadyH.cons rfl (fun K hK=>?_) AllReadyH.nil);go_simp;refine hK.out _ _ ((setMq_rest _ _ _ _ _ _ _ _ (by omega)).trans hHeld) (fun hHeld=>?_);clear hK K;refine tkH 5 ?_ rfl ?_ ?_;rotate_left 1
   ·intro wz _;go_simp;all_goals with_reducible rfl
   simp only[Act.put,p1,p2,p3,p4,p5,p6];refine wpAnyH_done (by kernel_rfl) ?_ _;have HT2:=hideIt (((((((((HT.out).set HN.out (p:=⟨w.heap.size,0,none⟩) (Nat.le_refl _) HO.out (.int .i64 m.fr)).set HN.out (p:=⟨w.heap.size,1,none⟩) (Nat.le_refl _) HO.out (.int .i64 m.tt)).set HN.out (p:=⟨w.heap.size,2,none⟩) (Nat.le_refl _) HO.out (.int .i64 m.key)).set HN.out (p:=⟨w.heap.size,3,none⟩) (Nat.le_refl _) HO.out (.int .i64 m.rd)).set HN.out (p:=⟨w.heap.size,4,none⟩) (Nat.le_refl _) HO.out (.bool m.tells)).set HN.out (p:=⟨w.heap.size,5,none⟩) (Nat.le_refl _) HO.out (.int .i64 m.t)).set HN.out (p:=⟨w.heap.size,6,none⟩) (Nat.le_refl _) HO.out (.int .i64 m.c)).set HN.out (p:=⟨w.heap.size,7,none⟩) (Nat.le_refl _) HO.out (.int .i64 m.v));have HE3:=hideIt (setMq (y0:=.int .i64 m.fr) (y1:=.int .i64 m.tt) (y2:=.int .i64 m.key) (y3:=.int .i64 m.rd) (y4:=.bool m.tells) (y5:=.int .i64 m.t) (y6:=.int .i64 m.c) (y7:=.int .i64 m.v) HE2.out);clear HE2 HT HVd HMd HM3 HV3 z0 z1 z2 z3 z4 z5 z6 z7 fz;generalize ((((((((W4).setCell ⟨w.heap.size,0,none⟩ (.int .i64 m.fr)).setCell ⟨w.heap.size,1,none⟩ (.int .i64 m.tt)).setCell ⟨w.heap.size,2,none⟩ (.int .i64 m.key)).setCell ⟨w.heap.size,3,none⟩ (.int .i64 m.rd)).setCell ⟨w.heap.size,4,none⟩ (.bool m.tells)).setCell ⟨w.heap.size,5,none⟩ (.int .i64 m.t)).setCell ⟨w.heap.size,6,none⟩ (.int .i64 m.c)).setCell ⟨w.heap.size,7,none⟩ (.int .i64 m.v)=W6 at*
   go_wp2;exact bodyPost_ret (results_cell2 rfl _ _ _ _ rfl (loadMq (m:=m) (blkMq (m:=m) HE3.out))) rfl (.inr (.inr ⟨k,m,rfl,HMm.out,HLe.out,rfl,v',HT2.out⟩))
open Go.RowKit
def SendQ (base B o:Nat) (v:Value) (L:List Mq) (m:Mq) (w:World) (e:Ending) (w':World):Prop:=
 (500≤L.length∧e=.returned (.iface 55 (.int .i64 4))∧Below w.heap.size w w')∨
 (L.length < 500∧e=.returned .nilIface∧MailTold base B o v (L++ [m]) w w')
theorem run_appM {w:World} {base B:Nat} {v:Value} {L:List Mq} {m:Mq} (hown:w.ownsRow base 202 8 v L.length (mqCs L)) (hB:w.heap[B]?=some (.cells #[.int .i64 m.fr,.int .i64 m.tt,.int .i64 m.key,.int .i64 m.rd,.bool m.tells,.int .i64 m.t,.int .i64 m.c,.int .i64 m.v] 202)) (hb:base≤w.heap.size) (hL:L.length < 500) (ty:TypeId):
  ∃v' w',(Builtin.append_ #[103,103] ty #[v,.slice (some ⟨B,0,none⟩) 1 1]).run Tryz.prog w=.ok v' w'∧w'.ownsRow base 202 8 v' (L++ [m]).length (mqCs (L++ [m]))∧w.grownBy w' v.ownBlock∧(v'.ownBlock=v.ownBlock∨v'.ownBlock=some w.heap.size):=by
 obtain⟨i,hi,hz,hsz,hby⟩:=info_parts' infoMq;have hnews:∀j u,(mqC m)[j]?=some u→w.cell? ((⟨B,0,none⟩:Addr).add j)=some u:=by
  intro j u hj;rw[Addr.add_lit,Nat.zero_add,cell_of_row _ _ _ _ 202 _ hB];rw[←hj];simp[mqC]
 obtain⟨v',w',hr,ho,hg,_,hob⟩:=run_append_own_at (P:=Tryz.prog) (w:=w) base 103 ty 202 i _ 8 64 Tryz.underlying103 hi hz hsz hby rfl (by decide) v _ _ hown ⟨B,0,none⟩ 1 1 (mqC m) rfl hnews (fun u=>mqC_one) (by unfold maxLen;omega) (by omega) hb;refine⟨v',w',hr,?_,hg,hob⟩;rw[mqCs_app,mqCs_one,List.length_append];exact ho
set_option maxHeartbeats 4000000 in
theorem psend_any (m:Mq) (base B o:Nat) (lv v:Value) (L:List Mq) (w:World) (h:NetP w base B o lv v L):
  Calls Tryz.prog 161 #[.pointer (some ⟨B,o,none⟩),.agg #[.int .i64 m.fr,.int .i64 m.tt,.int .i64 m.key,.int .i64 m.rd,.bool m.tells,.int .i64 m.t,.int .i64 m.c,.int .i64 m.v]] w fun e w'=>SendQ base B o v L m w e w':=by
 have HN:=hideIt h;have hBl:B < w.heap.size:=h.lt;obtain⟨va,vc,rfl⟩:=h.slice;have c2':(w.alloc (.cells #[.int .i64 m.fr,.int .i64 m.tt,.int .i64 m.key,.int .i64 m.rd,.bool m.tells,.int .i64 m.t,.int .i64 m.c,.int .i64 m.v] 202)).cell? ⟨B,o,none⟩=some (.slice va L.length vc):=by
  rw[World.cell?_alloc_lt _ _ ⟨B,o,none⟩ hBl];exact h.c0
 clear h;by_cases hl:L.length < 500
 ·have hl':¬((500:Int)≤(L.length:Int)):=by omega
  have hl2:decide ((L.length:Int)≥500)=false:=decide_eq_false (by omega);go_enter Tryz.func161,Tryz.ntmps161
  go_upto_region 3 with fail
  have HX:=hideIt (blkMq (m:=m) (heap_alloc_new w (.cells #[.int .i64 m.fr,.int .i64 m.tt,.int .i64 m.key,.int .i64 m.rd,.bool m.tells,.int .i64 m.t,.int .i64 m.c,.int .i64 m.v] 202)));have HT:Hid (∀Z,Below (w.alloc (.cells #[.int .i64 m.fr,.int .i64 m.tt,.int .i64 m.key,.int .i64 m.rd,.bool m.tells,.int .i64 m.t,.int .i64 m.c,.int .i64 m.v] 202)).heap.size (w.alloc (.cells #[.int .i64 m.fr,.int .i64 m.tt,.int .i64 m.key,.int .i64 m.rd,.bool m.tells,.int .i64 m.t,.int .i64 m.c,.int .i64 m.v] 202)) Z→Z.cell? ⟨B,o,none⟩=some (.slice va L.length vc)):=fun Z hZ=>(hZ.cell (p:=⟨B,o,none⟩) (by simp;omega)).trans c2'
  have HU:Hid (∀Z,Below (w.alloc (.cells #[.int .i64 m.fr,.int .i64 m.tt,.int .i64 m.key,.int .i64 m.rd,.bool m.tells,.int .i64 m.t,.int .i64 m.c,.int .i64 m.v] 202)).heap.size (w.alloc (.cells #[.int .i64 m.fr,.int .i64 m.tt,.int .i64 m.key,.int .i64 m.rd,.bool m.tells,.int .i64 m.t,.int .i64 m.c,.int .i64 m.v] 202)) Z→Z.cell? ⟨w.heap.size,0,none⟩=some (.int .i64 m.fr)∧Z.cell? ⟨w.heap.size,1,none⟩=some (.int .i64 m.tt)∧Z.cell? ⟨w.heap.size,2,none⟩=some (.int .i64 m.key)∧Z.cell? ⟨w.heap.size,3,none⟩=some (.int .i64 m.rd)∧Z.cell? ⟨w.heap.size,4,none⟩=some (.bool m.tells)∧Z.cell? ⟨w.heap.size,5,none⟩=some (.int .i64 m.t)∧Z.cell? ⟨w.heap.size,6,none⟩=some (.int .i64 m.c)∧Z.cell? ⟨w.heap.size,7,none⟩=some (.int .i64 m.v)):=fun Z hZ=>blkMq ((hZ.block w.heap.size (by simp)).trans (heap_alloc_new w _))
  have HA:Hid (Below w.heap.size w (w.alloc (.cells #[.int .i64 m.fr,.int .i64 m.tt,.int .i64 m.key,.int .i64 m.rd,.bool m.tells,.int .i64 m.t,.int .i64 m.c,.int .i64 m.v] 202))):=belA (Below.refl _ _) _;have hsz:(w.alloc (.cells #[.int .i64 m.fr,.int .i64 m.tt,.int .i64 m.key,.int .i64 m.rd,.bool m.tells,.int .i64 m.t,.int .i64 m.c,.int .i64 m.v] 202)).heap.size=w.heap.size+1:=by simp
  have HSz:=hideIt hsz;clear hsz HX c2';generalize w.alloc (.cells #[.int .i64 m.fr,.int .i64 m.tt,.int .i64 m.key,.int .i64 m.rd,.bool m.tells,.int .i64 m.t,.int .i64 m.c,.int .i64 m.v] 202)=W1 at*
  refine wp_region_L (B:= [7,10]) (S:=fun _=>True) (T:=fun Z=>Below W1.heap.size W1 Z) (by kernel_rfl) ⟨trivial,(Below.refl _ _).drew⟩ (fun hHeld=>?_);refine tkS 0 ?_ rfl ?_ ?_;rotate_left 1
  ·intro wz _;go_simp;all_goals with_reducible rfl
  simp only[Act.put,p1,p2,p3,p4,p5];refine tkS 1 ?_ rfl ?_ ?_;rotate_left 1
  ·intro wz _;go_simp;all_goals with_reducible rfl
  simp only[Act.put,p1,p2,p3,p4,p5,p6];refine tkS 2 ?_ rfl ?_ ?_;rotate_left 1
  ·intro wz _;go_simp;all_goals with_reducible rfl
  simp only[Act.put,p1,p2,p3,p4,p5,p6];refine tkS 3 ?_ rfl ?_ ?_;rotate_left 1
  ·intro wz _;go_simp;all_goals with_reducible rfl
  simp only[Act.put,p1,p2,p3,p4,p5,p6];refine tkL [7,8,9,10] 4 ?_ rfl ?_ ?_;rotate_left 1
  ·intro wz sb;have y0:=HT.out wz sb.2;go_simp;all_goals with_reducible rfl
  simp only[Act.put,p1,p2,p3,p4,p5,p6];refine tkL [6,7,8,9,10] 5 ?_ rfl ?_ ?_;rotate_left 1
  ·intro wz sb;obtain⟨y0,y1,y2,y3,y4,y5,y6,y7⟩:=HU.out wz sb.2;go_simp;all_goals with_reducible rfl
  simp only[Act.put,p1,p2,p3,p4,p5,p6];generalize W1.drew=Y0 at hHeld ⊢;refine wpAnyL_ready (rs:= [6]) (by kernel_rfl) (by simp) (AllReadyL.cons rfl (fun K hK=>?_) AllReadyL.nil);go_simp;have hb1:Below W1.heap.size W1 (Y0.alloc (.cells #[.int .i64 m.fr,.int .i64 m.tt,.int .i64 m.key,.int .i64 m.rd,.bool m.tells,.int .i64 m.t,.int .i64 m.c,.int .i64 m.v] 202)):=hHeld.2.alloc hHeld.2.size _;have hnew:=heap_alloc_new Y0 (.cells #[.int .i64 m.fr,.int .i64 m.tt,.int .i64 m.key,.int .i64 m.rd,.bool m.tells,.int .i64 m.t,.int .i64 m.c,.int .i64 m.v] 202);refine hK.out _ _ ⟨trivial,hb1⟩ (fun hHeld2=>?_);clear hK K hb1;have hY0:=hHeld.2.size;have hHb:=belJ HA.out hHeld2.2;generalize Y0.alloc (.cells #[.int .i64 m.fr,.int .i64 m.tt,.int .i64 m.key,.int .i64 m.rd,.bool m.tells,.int .i64 m.t,.int .i64 m.c,.int .i64 m.v] 202)=Y1 at*
  have hP:=HN.out.below hHb;obtain⟨v',w6,hr,ho,hg,hob⟩:=run_appM (m:=m) hP.row hnew hP.lo hl 103;refine wpAnyL_ready (rs:= [7]) (by kernel_rfl) (by simp) (AllReadyL.last rfl (by kernel_rfl) (fun K hK=>?_) AllReadyL.nil);refine step_append_run (by rfl) _ _ 103 rfl _ _ v' w6 rfl rfl hr ?_;obtain⟨a6,cap6,rfl⟩:=ownsRow_slice ho;simp only[Act.put,List.setIfInBounds_toArray];have eB:w6.heap[B]?=Y1.heap[B]?:=hg.block B (Nat.lt_of_lt_of_le hBl hHb.size) (fun e=>HN.out.ne e.symm);have c6:w6.cell? ⟨B,o,none⟩=some (.slice va L.length vc):=(World.cell?_of_block (a:=⟨B,o,none⟩) eB).trans hP.c0;have f6:w6.frozen? ⟨B,o,none⟩=false:=(World.frozen?_of_block (a:=⟨B,o,none⟩) eB).trans hP.f0;have HG:Hid (MailTold base B o (.slice va L.length vc) (L++ [m]) w (w6.setCell ⟨B,o,none⟩ (.slice a6 (L.length+1) cap6))):=
   (by rw[show L.length+1=(L++ [m]).length by simp];exact⟨_,MailT.of HN.out (((grown_below hHb).but _).trans hg) ho (hob.imp id fun e=>⟨_,e,hHb.size⟩)⟩)
  refine hK.out _ _ trivial (fun _=>?_);clear hK K hr ho hg hob hP hHb hHeld hHeld2 hnew eB HT HU HA HSz;refine tkE 8 ?_ rfl ?_ ?_;rotate_left 1
  ·intro wz _;go_simp;all_goals with_reducible rfl
  simp only[Act.put,p1,p2,p3,p4,p5,p6];refine tkE 9 ?_ rfl ?_ ?_;rotate_left 1
  ·intro wz _;go_simp;all_goals with_reducible rfl
  simp only[Act.put,p1,p2,p3,p4,p5,p6];refine wpAnyL_ready (rs:= [10]) (by kernel_rfl) (by simp) (AllReadyL.last rfl (by kernel_rfl) (fun K hK=>?_) AllReadyL.nil);go_simp;refine hK.out _ _ trivial (fun _=>?_);clear hK K;refine wpAnyL_done (by kernel_rfl) ?_ _;go_wp2;go_ret;exact .inr ⟨hl,rfl,HG.out⟩
 ·have hl':((500:Int)≤(L.length:Int)):=by omega
  have hl2:decide ((L.length:Int)≥500)=true:=decide_eq_true (by omega);go_enter Tryz.func161,Tryz.ntmps161
  go_wp2;go_ret;exact .inl ⟨by omega,rfl,belA (Below.refl _ w) _⟩
open Go.RowKit
def CutQ (B o:Nat) (lv':Value) (w w':World):Prop:=∃w1,Below w.heap.size w w1∧w'=w1.setCell ⟨B,o+1,none⟩ lv'
set_option maxHeartbeats 1000000 in
theorem pcut_nil (base B o:Nat) (lv v:Value) (L:List Mq) (w:World) (h:NetP w base B o lv v L) (f1:w.frozen? ⟨B,o+1,none⟩=false):
  Calls Tryz.prog 114 #[.pointer (some ⟨B,o,none⟩),.slice none 0 0] w fun e w'=>e=.returned (.tuple #[])∧CutQ B o (.slice none 0 0) w w':=by
 have c1:=h.c1;have HC:=hideIt (copied_nil w);clear h;go_enter Tryz.func114,Tryz.ntmps114
 go_wp2_with fail
 refine HC.out.mono ?_;rintro e w1 ⟨rfl,rfl⟩;go_wp2
 go_end0
 exact⟨rfl,_,Below.refl _ _,rfl⟩
set_option maxHeartbeats 1000000 in
theorem pcut_any (n:Nat) (hn:1≤n∧n≤20) (r:Nat→Nat→Bool) (X:Nat→Prop) (l:Value) (base B o:Nat) (lv v:Value) (L:List Mq) (w:World) (h:NetP w base B o lv v L) (f1:w.frozen? ⟨B,o+1,none⟩=false) (hl:LnkS w X l (tabL n r)):
  Calls Tryz.prog 114 #[.pointer (some ⟨B,o,none⟩),l] w fun e w'=>e=.returned (.tuple #[])∧∃lv' w1,Below w.heap.size w w1∧w'=w1.setCell ⟨B,o+1,none⟩ lv'∧LnkS w1 (fun b=>w.heap.size≤b∧LTg w1 b) lv' (tabL n r)∧∃a n c,lv'=.slice (some a) n c:=by
 have HN:=hideIt h;have HC:=hideIt (copied_any n hn r X l w hl);have HF:=hideIt f1;have hBl:=h.lt;clear h hl f1;go_enter Tryz.func114,Tryz.ntmps114
 go_wp2_with fail
 refine HC.out.mono ?_;rintro e w1 ⟨lv',rfl,h1,⟨a,n1,c,rfl⟩,hb⟩;have c1:=(HN.out.below hb).c1;have f1:w1.frozen? ⟨B,o+1,none⟩=false:=(World.frozen?_of_block (a:=⟨B,o+1,none⟩) (hb.block B hBl)).trans HF.out;have H1:=hideIt h1;have HB:=hideIt hb;clear h1 hb HC;go_wp2
 go_end0
 exact⟨rfl,_,w1,HB.out,rfl,H1.out,_,_,_,rfl⟩
def DoubQ (base B o:Nat) (v:Value) (L:List Mq) (i:Int) (w:World) (e:Ending) (w':World):Prop:=
 ((i < 0∨(L.length:Int)≤i)∧e=.returned (.iface 55 (.int .i64 8))∧Below w.heap.size w w')∨
 (∃(k:Nat) (m:Mq),i=k∧L[k]?=some m∧SendQ base B o v L m w e w')
set_option maxHeartbeats 4000000 in
theorem pdouble_any (i:Int) (base B o:Nat) (lv v:Value) (L:List Mq) (w:World) (h:NetP w base B o lv v L):
  Calls Tryz.prog 107 #[.pointer (some ⟨B,o,none⟩),.int .i64 i] w fun e w'=>DoubQ base B o v L i w e w':=by
 have HN:=hideIt h;have HA:=hideIt (pat_any i base B o lv v L w h);clear h;go_enter Tryz.func107,Tryz.ntmps107
 go_wp2_with fail
 refine HA.out.mono ?_;clear HA;rintro e W1 ⟨(⟨hi,rfl⟩ | ⟨k,m,rfl,hm,rfl⟩),hb⟩
 ·have HI:=hideIt hi;have HB:=hideIt hb;unfold mqV mq0;clear hi hb;go_wp2;go_ret;exact .inl ⟨HI.out,rfl,belA HB.out _⟩
 ·have HM:=hideIt hm;have HB1:=hideIt (belA hb (.cells #[.int .i64 m.fr,.int .i64 m.tt,.int .i64 m.key,.int .i64 m.rd,.bool m.tells,.int .i64 m.t,.int .i64 m.c,.int .i64 m.v] 202));have HS:=hideIt (psend_any m base B o lv v L _ (HN.out.below HB1.out));clear hm hb;unfold mqV;go_wp2_with fail
  refine HS.out.mono ?_;clear HS;rintro e W2 (⟨h1,rfl,hb2⟩ | ⟨h1,rfl,v',ht⟩)
  ·have HB2:=hideIt (belJ HB1.out hb2);clear hb2;go_wp2;go_ret;exact .inr ⟨k,m,rfl,HM.out,.inl ⟨h1,rfl,HB2.out⟩⟩
  ·have HT:=hideIt (ht.pre HN.out HB1.out);clear ht;go_wp2;go_ret;exact .inr ⟨k,m,rfl,HM.out,.inr ⟨h1,rfl,v',HT.out⟩⟩
end Go.Proofs.YtjpklmighoondaaGreatDoor.St
